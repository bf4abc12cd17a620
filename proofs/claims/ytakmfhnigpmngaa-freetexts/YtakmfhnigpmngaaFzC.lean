/- The law FreeTexts at a word with letters. -/
import Derived.Test.YtakmfhnigpmngaaFz0
namespace Go.Proofs.Ytakmfhnigpmngaa
open Go Go.RowKit

set_option maxRecDepth 100000 in
set_option maxHeartbeats 4000000 in
theorem tx_C1 (v : Value) (zs : List Int) (w : World) (hv : SlA w v zs) (hl : zs.length ≤ 5000) (h : wsc [zs] = 0) (hz : zs ≠ []) (s : ByteArray) (h2 : 2000 < s.size) (h5 : s.size ≤ 5000) :
    Calls Try.prog 7 #[v, .string s] w fun e w' => e = .returned (.bool true) ∧ Below w.heap.size w w' := by
  have hl1 : ¬ ((5000 : Int) < (zs.length : Int)) := by omega
  have HWD := hide (wsc_all h zs (by simp))
  have HZ := hide hz
  clear h hz
  have hs1 : (2000 : Int) < (s.size : Int) := by omega
  have hs5 : ¬ ((5000 : Int) < (s.size : Int)) := by omega
  obtain ⟨va, vc, hve⟩ := hv.shape
  subst hve
  have HV := hide hv
  clear hv
  go_enter Try.func7, Try.ntmps7
  go_wp2_with fail
  refine (freeBegun_any w).mono ?_
  rintro x w1 ⟨rfl, hB, h01⟩
  have hge := hB.size
  have hsv := HV.out.up hB h01
  clear HV
  go_wp2_with fail
  refine (own_row _ zs w1 hsv (by omega)).mono ?_
  rintro x w2 ⟨r, rfl, hr, hb2⟩
  replace hsv := hsv.below hb2
  replace hB := bcat hB hb2 hge
  replace hge := hB.size
  have h0r : 0 < w2.heap.size := hsv.pos
  have hsr := hr.sl h0r
  obtain ⟨r1, r2, rfl⟩ := hr.slice
  clear hr
  go_wp2_with fail
  refine (text_good_good _ zs _ hsr HWD.out HZ.out).mono ?_
  rintro x w4 ⟨rfl, hb4⟩
  replace hsv := hsv.below hb4
  replace hsr := hsr.below hb4
  replace hB := bcat hB hb4 hge
  replace hge := hB.size
  have HPT := hide (fun W => parse_txt zs W HWD.out HZ.out)
  have hTs := txt_size zs
  have HBT := hide (fun k (hk : k < zs.length) => txt_bat HWD.out.lt hk)
  generalize (⟨(bts zs).toArray⟩ : ByteArray) = T at *
  have hTb : ((T.size : Int) != (zs.length : Int)) = false := by rw [hTs]; simp
  have HTS := hide hTs
  have HTE := hide (bat_eq T)
  clear hTs
  have hb5 : Below w4.heap.size w4 (w4.alloc (.cells #[.int .i64 0, .int .i64 0] 26)) := balloc w4 _
  replace hsv := hsv.below hb5
  replace hsr := hsr.below hb5
  replace hB := bcat hB hb5 hge
  replace hge := hB.size
  have b6 : Two (w4.alloc (.cells #[.int .i64 0, .int .i64 0] 26)) w4.heap.size := Two.new w4
  obtain ⟨_, b66a, b66b, b66c, b66d, b66e, b66f⟩ := id b6
  go_wp2_with fail
  clear b66a b66b b66c b66d b66e b66f
  refine (parse_big s _ h2 (by omega)).mono ?_
  rintro x w7 ⟨rfl, hb7⟩
  replace hsv := hsv.below hb7
  replace hsr := hsr.below hb7
  replace b6 := Two.below b6 hb7
  replace hB := bcat hB hb7 hge
  replace hge := hB.size
  have hb8 : Below w7.heap.size w7 (w7.alloc (.cells #[.int .i64 2, .int .i64 0] 26)) := balloc w7 _
  replace hsv := hsv.below hb8
  replace hsr := hsr.below hb8
  replace b6 := Two.below b6 hb8
  replace hB := bcat hB hb8 hge
  replace hge := hB.size
  have b8 : Blk (w7.alloc (.cells #[.int .i64 2, .int .i64 0] 26)) w7.heap.size 26 [.int .i64 2, .int .i64 0] := blk0 _ _
  obtain ⟨_, b69a, b69b, b69c, b69d, b69e, b69f⟩ := id b6
  obtain ⟨b89a, b89b, b89c, b89d⟩ := b8.two
  go_wp2_with fail
  clear b69a b69b b69c b69d b69e b69f b89a b89b b89c b89d
  refine (wfault_any _ zs _ hsv).mono ?_
  rintro x w10 ⟨rfl, hb10⟩
  replace hsv := hsv.below hb10
  replace hsr := hsr.below hb10
  replace b6 := Two.below b6 hb10
  replace b8 : Blk (w10) w7.heap.size 26 [.int .i64 2, .int .i64 0] := Blk.of_eq b8 (hb10.block _ b8.lt)
  replace hB := bcat hB hb10 hge
  replace hge := hB.size
  rw [HWD.out.code.1, HWD.out.code.2]
  have HGB := hide hge
  have HL8 := hide b8.lt
  have hb11 : Below w10.heap.size w10 (w10.alloc (.cells #[.int .i64 0, .int .i64 0] 26)) := balloc w10 _
  replace hsv := hsv.below hb11
  replace hsr := hsr.below hb11
  replace b6 := Two.below b6 hb11
  replace b8 : Blk (w10.alloc (.cells #[.int .i64 0, .int .i64 0] 26)) w7.heap.size 26 [.int .i64 2, .int .i64 0] := Blk.of_eq b8 (hb11.block _ b8.lt)
  replace hB := bcat hB hb11 hge
  replace hge := hB.size
  have b9 : Two (w10.alloc (.cells #[.int .i64 0, .int .i64 0] 26)) w10.heap.size := Two.new w10
  obtain ⟨_, b612a, b612b, b612c, b612d, b612e, b612f⟩ := id b6
  obtain ⟨b812a, b812b, b812c, b812d⟩ := b8.two
  obtain ⟨_, b912a, b912b, b912c, b912d, b912e, b912f⟩ := id b9
  go_wp2_with fail
  clear b612a b612b b612c b612d b612e b612f b812a b812b b812c b812d b912a b912b b912c b912d b912e b912f
  refine (HPT.out _).mono ?_
  rintro x w13 ⟨rb, rfl, hrb, hb13⟩
  replace hsv := hsv.below hb13
  replace hsr := hsr.below hb13
  replace b6 := Two.below b6 hb13
  replace b8 : Blk (w13) w7.heap.size 26 [.int .i64 2, .int .i64 0] := Blk.of_eq b8 (hb13.block _ b8.lt)
  replace b9 := Two.below b9 hb13
  replace hB := bcat hB hb13 hge
  replace hge := hB.size
  have h0b : 0 < w13.heap.size := hsv.pos
  have hsb := hrb.sl h0b
  obtain ⟨b1, b2, rfl⟩ := hrb.slice
  clear hrb
  have hb14 : Below w13.heap.size w13 (w13.alloc (.cells #[.int .i64 0, .int .i64 0] 26)) := balloc w13 _
  replace hsv := hsv.below hb14
  replace hsr := hsr.below hb14
  replace hsb := hsb.below hb14
  replace b6 := Two.below b6 hb14
  replace b8 : Blk (w13.alloc (.cells #[.int .i64 0, .int .i64 0] 26)) w7.heap.size 26 [.int .i64 2, .int .i64 0] := Blk.of_eq b8 (hb14.block _ b8.lt)
  replace b9 := Two.below b9 hb14
  replace hB := bcat hB hb14 hge
  replace hge := hB.size
  have b11 : Two (w13.alloc (.cells #[.int .i64 0, .int .i64 0] 26)) w13.heap.size := Two.new w13
  obtain ⟨_, b615a, b615b, b615c, b615d, b615e, b615f⟩ := id b6
  obtain ⟨b815a, b815b, b815c, b815d⟩ := b8.two
  obtain ⟨_, b915a, b915b, b915c, b915d, b915e, b915f⟩ := id b9
  obtain ⟨_, b1115a, b1115b, b1115c, b1115d, b1115e, b1115f⟩ := id b11
  go_wp2_with fail
  clear b615a b615b b615c b615d b615e b615f b815a b815b b815c b815d b915a b915b b915c b915d b915e b915f b1115a b1115b b1115c b1115d b1115e b1115f
  refine (ints_true _ _ zs zs _ hsb hsv rfl).mono ?_
  rintro x w16 ⟨rfl, hb16⟩
  replace hsv := hsv.below hb16
  replace hsr := hsr.below hb16
  replace hsb := hsb.below hb16
  replace b6 := Two.below b6 hb16
  replace b8 : Blk (w16) w7.heap.size 26 [.int .i64 2, .int .i64 0] := Blk.of_eq b8 (hb16.block _ b8.lt)
  replace b9 := Two.below b9 hb16
  replace b11 := Two.below b11 hb16
  replace hB := bcat hB hb16 hge
  replace hge := hB.size
  have hzl : ¬ ((zs.length : Int) = 0) := by have := List.length_pos_iff.2 HZ.out; omega
  have hzl2 : ((zs.length : Int) == 0) = false := by simpa using hzl
  have hzl3 : (zs.length : Int) > 0 := by have := List.length_pos_iff.2 HZ.out; omega
  have hzl4 : ¬ zs = [] := HZ.out
  obtain ⟨a9, cap9, pb9, po9, hve, hr9, hp9, _, hcm9⟩ := id hsv
  injection hve with e1 _ e2
  subst e1 e2
  have hat9 := hr9.at_ (List.length_pos_iff.2 HZ.out)
  subst hat9
  unfold maxLen at hcm9
  have HR9 := hide hr9
  clear hr9
  obtain ⟨_, b617a, b617b, b617c, b617d, b617e, b617f⟩ := id b6
  obtain ⟨b817a, b817b, b817c, b817d⟩ := b8.two
  obtain ⟨_, b917a, b917b, b917c, b917d, b917e, b917f⟩ := id b9
  obtain ⟨_, b1117a, b1117b, b1117c, b1117d, b1117e, b1117f⟩ := id b11
  go_wp2_with fail
  clear b617a b617b b617c b617d b617e b617f b817a b817b b817c b817d b917a b917b b917c b917d b917e b917f b1117a b1117b b1117c b1117d b1117e b1117f
  go_loopw [12] (fun i wr => ∃ k j : Nat, k ≤ zs.length ∧ i = .int .i64 k ∧ wr = w16.drewN j) (fun i _ => zs.length - (intOf i).toNat)
  case atStart => exact ⟨0, 0, Nat.zero_le _, rfl, rfl⟩
  case round =>
    obtain ⟨k9, j9, hk9, rfl, rfl⟩ := hrel
    by_cases hlt9 : k9 < zs.length
    · have hx9 := HR9.out.cell k9 hlt9
      have hbx := HWD.out.lt.at hlt9
      have htk : k9 < T.size := by rw [HTS.out]; exact hlt9
      have hki9 : (k9 : Int) < (zs.length : Int) := by omega
      have hkT9 : (k9 : Int) < (T.size : Int) := by omega
      have hT9 := HTE.out k9 htk
      have hB9 := HBT.out k9 hlt9
      obtain ⟨x9, hxe⟩ : ∃ x9, zs[k9]?.getD 0 = x9 := ⟨_, rfl⟩
      rw [hxe] at hx9 hbx hB9
      obtain ⟨bb, hbb⟩ : ∃ bb, bat T k9 = bb := ⟨_, rfl⟩
      rw [hbb] at hT9 hB9
      clear hxe hbb
      rcases byt_range hbx with ⟨g1, g2, g3, g4⟩ | ⟨g1, g2, g3, g4⟩
      · have g5 : (bb : Int) = 96 + x9 := by omega
        have g6 : x9 > 0 := g1
        have g7 : ¬ x9 < 0 := by omega
        have g8 : decide (x9 < 0) = false := by simp; omega
        clear g2 g3 g4 hB9
        go_wp2_with fail
        go_quiet (fail)
        go_wp2
        go_roundw
        case rel => exact ⟨k9 + 1, _, by omega, by go_num, rfl⟩
        case measure => simp [intOf]; omega
      · have g5 : (bb : Int) = 64 - x9 := by omega
        have g6 : ¬ x9 > 0 := by omega
        have g7 : ¬ 0 < x9 := by omega
        have g8 : decide (0 < x9) = false := by simp; omega
        have g9 : x9 < 0 := g1
        clear g2 g3 g4 hB9
        go_wp2_with fail
        go_quiet (fail)
        go_wp2
        go_roundw
        case rel => exact ⟨k9 + 1, _, by omega, by go_num, rfl⟩
        case measure => simp [intOf]; omega
    · have hki9 : ¬ ((k9 : Int) < (zs.length : Int)) := by omega
      have hbd : Below w16.heap.size w16 (w16.drewN j9) := bdrewN (Below.refl _ _) _
      replace hsv := hsv.below hbd
      replace hsr := hsr.below hbd
      replace hsb := hsb.below hbd
      replace b6 := Two.below b6 hbd
      replace b8 : Blk ((w16.drewN j9)) w7.heap.size 26 [.int .i64 2, .int .i64 0] := Blk.of_eq b8 (hbd.block _ b8.lt)
      replace b9 := Two.below b9 hbd
      replace b11 := Two.below b11 hbd
      replace hB := bcat hB hbd hge
      replace hge := hB.size
      generalize w16.drewN j9 = wz at *
      have hne8 : ¬ w7.heap.size = w10.heap.size := Nat.ne_of_lt HL8.out
      have b9n : Two wz w10.heap.size := b9
      have b8n : Blk wz w7.heap.size 26 [.int .i64 2, .int .i64 0] := b8
      have hBn := hB
      obtain ⟨_, m6a, m6b, _, _, _, _⟩ := id b6
      obtain ⟨_, m9a, m9b, m9c, m9d, m9e, m9f⟩ := id b9n
      obtain ⟨m8a, m8b, _, _⟩ := b8n.two
      have b9N := b9n.blk
      have b8N := b8n
      have hBN := hBn
      go_wp2_with fail
      refine (f_ok 2 0 _).mono ?_
      rintro x wF ⟨rfl, hbF⟩
      have b9F : Blk wF w10.heap.size 26 [.int .i64 0, .int .i64 0] := b9N.of_eq (hbF.block _ b9N.lt)
      have b8F := b8N.of_eq (hbF.block _ b8N.lt)
      have hBF := bcat hBN hbF hBN.size
      have hR9 : Blk ((wF.setCell ⟨w10.heap.size, 0, none⟩ (.int .i64 2)).setCell ⟨w10.heap.size, 1, none⟩ (.int .i64 0)) w10.heap.size 26 [.int .i64 2, .int .i64 0] := (b9F.set 0 _).set 1 _
      have hX9 := (b8F.other (p := ⟨w10.heap.size, 0, none⟩) hne8 (.int .i64 2)).other (p := ⟨w10.heap.size, 1, none⟩) hne8 (.int .i64 0)
      have hBZ := (hBF.setCell (p := ⟨w10.heap.size, 0, none⟩) HGB.out (.int .i64 2)).setCell (p := ⟨w10.heap.size, 1, none⟩) HGB.out (.int .i64 0)
      obtain ⟨z0, z1, fz0, fz1⟩ := hR9.two
      obtain ⟨x0, x1, _, _⟩ := hX9.two
      obtain ⟨q0, q1, q2, q3⟩ := b9F.two
      have hself := setCell_self (b := w10.heap.size) (o := 1) (show _ from (b9F.set 0 (.int .i64 2))) (v := .int .i64 0) (by simp)
      rw [hself] at hBZ z0 z1 fz0 fz1 x0 x1
      go_wp2
      go_ret
      exact ⟨rfl, hBZ⟩

set_option maxRecDepth 100000 in
set_option maxHeartbeats 4000000 in
theorem tx_C2 (v : Value) (zs : List Int) (w : World) (hv : SlA w v zs) (hl : zs.length ≤ 5000) (h : wsc [zs] = 0) (hz : zs ≠ []) :
    Calls Try.prog 7 #[v, .string ⟨#[49]⟩] w fun e w' => e = .returned (.bool true) ∧ Below w.heap.size w w' := by
  have hl1 : ¬ ((5000 : Int) < (zs.length : Int)) := by omega
  have HWD := hide (wsc_all h zs (by simp))
  have HZ := hide hz
  clear h hz
  obtain ⟨va, vc, hve⟩ := hv.shape
  subst hve
  have HV := hide hv
  clear hv
  go_enter Try.func7, Try.ntmps7
  go_wp2_with fail
  refine (freeBegun_any w).mono ?_
  rintro x w1 ⟨rfl, hB, h01⟩
  have hge := hB.size
  have hsv := HV.out.up hB h01
  clear HV
  go_wp2_with fail
  refine (own_row _ zs w1 hsv (by omega)).mono ?_
  rintro x w2 ⟨r, rfl, hr, hb2⟩
  replace hsv := hsv.below hb2
  replace hB := bcat hB hb2 hge
  replace hge := hB.size
  have h0r : 0 < w2.heap.size := hsv.pos
  have hsr := hr.sl h0r
  obtain ⟨r1, r2, rfl⟩ := hr.slice
  clear hr
  go_wp2_with fail
  refine (text_good_good _ zs _ hsr HWD.out HZ.out).mono ?_
  rintro x w4 ⟨rfl, hb4⟩
  replace hsv := hsv.below hb4
  replace hsr := hsr.below hb4
  replace hB := bcat hB hb4 hge
  replace hge := hB.size
  have HPT := hide (fun W => parse_txt zs W HWD.out HZ.out)
  have hTs := txt_size zs
  have HBT := hide (fun k (hk : k < zs.length) => txt_bat HWD.out.lt hk)
  generalize (⟨(bts zs).toArray⟩ : ByteArray) = T at *
  have hTb : ((T.size : Int) != (zs.length : Int)) = false := by rw [hTs]; simp
  have HTS := hide hTs
  have HTE := hide (bat_eq T)
  clear hTs
  have hb5 : Below w4.heap.size w4 (w4.alloc (.cells #[.int .i64 0, .int .i64 0] 26)) := balloc w4 _
  replace hsv := hsv.below hb5
  replace hsr := hsr.below hb5
  replace hB := bcat hB hb5 hge
  replace hge := hB.size
  have b6 : Two (w4.alloc (.cells #[.int .i64 0, .int .i64 0] 26)) w4.heap.size := Two.new w4
  obtain ⟨_, b66a, b66b, b66c, b66d, b66e, b66f⟩ := id b6
  go_wp2_with fail
  clear b66a b66b b66c b66d b66e b66f
  refine (parse_one _).mono ?_
  rintro x w7 ⟨rfl, hb7⟩
  replace hsv := hsv.below hb7
  replace hsr := hsr.below hb7
  replace b6 := Two.below b6 hb7
  replace hB := bcat hB hb7 hge
  replace hge := hB.size
  have hb8 : Below w7.heap.size w7 (w7.alloc (.cells #[.int .i64 0, .int .i64 0] 26)) := balloc w7 _
  replace hsv := hsv.below hb8
  replace hsr := hsr.below hb8
  replace b6 := Two.below b6 hb8
  replace hB := bcat hB hb8 hge
  replace hge := hB.size
  have b8 : Two (w7.alloc (.cells #[.int .i64 0, .int .i64 0] 26)) w7.heap.size := Two.new w7
  obtain ⟨_, b69a, b69b, b69c, b69d, b69e, b69f⟩ := id b6
  obtain ⟨_, b89a, b89b, b89c, b89d, b89e, b89f⟩ := id b8
  go_wp2_with fail
  clear b69a b69b b69c b69d b69e b69f b89a b89b b89c b89d b89e b89f
  refine (wfault_any _ zs _ hsv).mono ?_
  rintro x w10 ⟨rfl, hb10⟩
  replace hsv := hsv.below hb10
  replace hsr := hsr.below hb10
  replace b6 := Two.below b6 hb10
  replace b8 := Two.below b8 hb10
  replace hB := bcat hB hb10 hge
  replace hge := hB.size
  rw [HWD.out.code.1, HWD.out.code.2]
  have HGB := hide hge
  have HL8 := hide b8.blk.lt
  have hb11 : Below w10.heap.size w10 (w10.alloc (.cells #[.int .i64 0, .int .i64 0] 26)) := balloc w10 _
  replace hsv := hsv.below hb11
  replace hsr := hsr.below hb11
  replace b6 := Two.below b6 hb11
  replace b8 := Two.below b8 hb11
  replace hB := bcat hB hb11 hge
  replace hge := hB.size
  have b9 : Two (w10.alloc (.cells #[.int .i64 0, .int .i64 0] 26)) w10.heap.size := Two.new w10
  obtain ⟨_, b612a, b612b, b612c, b612d, b612e, b612f⟩ := id b6
  obtain ⟨_, b812a, b812b, b812c, b812d, b812e, b812f⟩ := id b8
  obtain ⟨_, b912a, b912b, b912c, b912d, b912e, b912f⟩ := id b9
  go_wp2_with fail
  clear b612a b612b b612c b612d b612e b612f b812a b812b b812c b812d b812e b812f b912a b912b b912c b912d b912e b912f
  refine (HPT.out _).mono ?_
  rintro x w13 ⟨rb, rfl, hrb, hb13⟩
  replace hsv := hsv.below hb13
  replace hsr := hsr.below hb13
  replace b6 := Two.below b6 hb13
  replace b8 := Two.below b8 hb13
  replace b9 := Two.below b9 hb13
  replace hB := bcat hB hb13 hge
  replace hge := hB.size
  have h0b : 0 < w13.heap.size := hsv.pos
  have hsb := hrb.sl h0b
  obtain ⟨b1, b2, rfl⟩ := hrb.slice
  clear hrb
  have hb14 : Below w13.heap.size w13 (w13.alloc (.cells #[.int .i64 0, .int .i64 0] 26)) := balloc w13 _
  replace hsv := hsv.below hb14
  replace hsr := hsr.below hb14
  replace hsb := hsb.below hb14
  replace b6 := Two.below b6 hb14
  replace b8 := Two.below b8 hb14
  replace b9 := Two.below b9 hb14
  replace hB := bcat hB hb14 hge
  replace hge := hB.size
  have b11 : Two (w13.alloc (.cells #[.int .i64 0, .int .i64 0] 26)) w13.heap.size := Two.new w13
  obtain ⟨_, b615a, b615b, b615c, b615d, b615e, b615f⟩ := id b6
  obtain ⟨_, b815a, b815b, b815c, b815d, b815e, b815f⟩ := id b8
  obtain ⟨_, b915a, b915b, b915c, b915d, b915e, b915f⟩ := id b9
  obtain ⟨_, b1115a, b1115b, b1115c, b1115d, b1115e, b1115f⟩ := id b11
  go_wp2_with fail
  clear b615a b615b b615c b615d b615e b615f b815a b815b b815c b815d b815e b815f b915a b915b b915c b915d b915e b915f b1115a b1115b b1115c b1115d b1115e b1115f
  refine (ints_true _ _ zs zs _ hsb hsv rfl).mono ?_
  rintro x w16 ⟨rfl, hb16⟩
  replace hsv := hsv.below hb16
  replace hsr := hsr.below hb16
  replace hsb := hsb.below hb16
  replace b6 := Two.below b6 hb16
  replace b8 := Two.below b8 hb16
  replace b9 := Two.below b9 hb16
  replace b11 := Two.below b11 hb16
  replace hB := bcat hB hb16 hge
  replace hge := hB.size
  have hzl : ¬ ((zs.length : Int) = 0) := by have := List.length_pos_iff.2 HZ.out; omega
  have hzl2 : ((zs.length : Int) == 0) = false := by simpa using hzl
  have hzl3 : (zs.length : Int) > 0 := by have := List.length_pos_iff.2 HZ.out; omega
  have hzl4 : ¬ zs = [] := HZ.out
  obtain ⟨a9, cap9, pb9, po9, hve, hr9, hp9, _, hcm9⟩ := id hsv
  injection hve with e1 _ e2
  subst e1 e2
  have hat9 := hr9.at_ (List.length_pos_iff.2 HZ.out)
  subst hat9
  unfold maxLen at hcm9
  have HR9 := hide hr9
  clear hr9
  obtain ⟨_, b617a, b617b, b617c, b617d, b617e, b617f⟩ := id b6
  obtain ⟨_, b817a, b817b, b817c, b817d, b817e, b817f⟩ := id b8
  obtain ⟨_, b917a, b917b, b917c, b917d, b917e, b917f⟩ := id b9
  obtain ⟨_, b1117a, b1117b, b1117c, b1117d, b1117e, b1117f⟩ := id b11
  go_wp2_with fail
  clear b617a b617b b617c b617d b617e b617f b817a b817b b817c b817d b817e b817f b917a b917b b917c b917d b917e b917f b1117a b1117b b1117c b1117d b1117e b1117f
  go_loopw [12] (fun i wr => ∃ k j : Nat, k ≤ zs.length ∧ i = .int .i64 k ∧ wr = w16.drewN j) (fun i _ => zs.length - (intOf i).toNat)
  case atStart => exact ⟨0, 0, Nat.zero_le _, rfl, rfl⟩
  case round =>
    obtain ⟨k9, j9, hk9, rfl, rfl⟩ := hrel
    by_cases hlt9 : k9 < zs.length
    · have hx9 := HR9.out.cell k9 hlt9
      have hbx := HWD.out.lt.at hlt9
      have htk : k9 < T.size := by rw [HTS.out]; exact hlt9
      have hki9 : (k9 : Int) < (zs.length : Int) := by omega
      have hkT9 : (k9 : Int) < (T.size : Int) := by omega
      have hT9 := HTE.out k9 htk
      have hB9 := HBT.out k9 hlt9
      obtain ⟨x9, hxe⟩ : ∃ x9, zs[k9]?.getD 0 = x9 := ⟨_, rfl⟩
      rw [hxe] at hx9 hbx hB9
      obtain ⟨bb, hbb⟩ : ∃ bb, bat T k9 = bb := ⟨_, rfl⟩
      rw [hbb] at hT9 hB9
      clear hxe hbb
      rcases byt_range hbx with ⟨g1, g2, g3, g4⟩ | ⟨g1, g2, g3, g4⟩
      · have g5 : (bb : Int) = 96 + x9 := by omega
        have g6 : x9 > 0 := g1
        have g7 : ¬ x9 < 0 := by omega
        have g8 : decide (x9 < 0) = false := by simp; omega
        clear g2 g3 g4 hB9
        go_wp2_with fail
        go_quiet (fail)
        go_wp2
        go_roundw
        case rel => exact ⟨k9 + 1, _, by omega, by go_num, rfl⟩
        case measure => simp [intOf]; omega
      · have g5 : (bb : Int) = 64 - x9 := by omega
        have g6 : ¬ x9 > 0 := by omega
        have g7 : ¬ 0 < x9 := by omega
        have g8 : decide (0 < x9) = false := by simp; omega
        have g9 : x9 < 0 := g1
        clear g2 g3 g4 hB9
        go_wp2_with fail
        go_quiet (fail)
        go_wp2
        go_roundw
        case rel => exact ⟨k9 + 1, _, by omega, by go_num, rfl⟩
        case measure => simp [intOf]; omega
    · have hki9 : ¬ ((k9 : Int) < (zs.length : Int)) := by omega
      have hbd : Below w16.heap.size w16 (w16.drewN j9) := bdrewN (Below.refl _ _) _
      replace hsv := hsv.below hbd
      replace hsr := hsr.below hbd
      replace hsb := hsb.below hbd
      replace b6 := Two.below b6 hbd
      replace b8 := Two.below b8 hbd
      replace b9 := Two.below b9 hbd
      replace b11 := Two.below b11 hbd
      replace hB := bcat hB hbd hge
      replace hge := hB.size
      generalize w16.drewN j9 = wz at *
      have hne8 : ¬ w7.heap.size = w10.heap.size := Nat.ne_of_lt HL8.out
      have b9n : Two wz w10.heap.size := b9
      have b8n : Blk wz w7.heap.size 26 [.int .i64 0, .int .i64 0] := b8.blk
      have hBn := hB
      obtain ⟨_, m6a, m6b, _, _, _, _⟩ := id b6
      obtain ⟨_, m9a, m9b, m9c, m9d, m9e, m9f⟩ := id b9n
      obtain ⟨m8a, m8b, _, _⟩ := b8n.two
      go_wp2
      go_ret
      exact ⟨rfl, hBn⟩

set_option maxRecDepth 100000 in
set_option maxHeartbeats 4000000 in
theorem tx_C3 (v : Value) (zs : List Int) (w : World) (hv : SlA w v zs) (hl : zs.length ≤ 5000) (h : wsc [zs] = 0) (hz : zs ≠ []) :
    Calls Try.prog 7 #[v, .string ⟨#[]⟩] w fun e w' => e = .returned (.bool true) ∧ Below w.heap.size w w' := by
  have hl1 : ¬ ((5000 : Int) < (zs.length : Int)) := by omega
  have HWD := hide (wsc_all h zs (by simp))
  have HZ := hide hz
  clear h hz
  obtain ⟨va, vc, hve⟩ := hv.shape
  subst hve
  have HV := hide hv
  clear hv
  go_enter Try.func7, Try.ntmps7
  go_wp2_with fail
  refine (freeBegun_any w).mono ?_
  rintro x w1 ⟨rfl, hB, h01⟩
  have hge := hB.size
  have hsv := HV.out.up hB h01
  clear HV
  go_wp2_with fail
  refine (own_row _ zs w1 hsv (by omega)).mono ?_
  rintro x w2 ⟨r, rfl, hr, hb2⟩
  replace hsv := hsv.below hb2
  replace hB := bcat hB hb2 hge
  replace hge := hB.size
  have h0r : 0 < w2.heap.size := hsv.pos
  have hsr := hr.sl h0r
  obtain ⟨r1, r2, rfl⟩ := hr.slice
  clear hr
  go_wp2_with fail
  refine (text_good_good _ zs _ hsr HWD.out HZ.out).mono ?_
  rintro x w4 ⟨rfl, hb4⟩
  replace hsv := hsv.below hb4
  replace hsr := hsr.below hb4
  replace hB := bcat hB hb4 hge
  replace hge := hB.size
  have HPT := hide (fun W => parse_txt zs W HWD.out HZ.out)
  have hTs := txt_size zs
  have HBT := hide (fun k (hk : k < zs.length) => txt_bat HWD.out.lt hk)
  generalize (⟨(bts zs).toArray⟩ : ByteArray) = T at *
  have hTb : ((T.size : Int) != (zs.length : Int)) = false := by rw [hTs]; simp
  have HTS := hide hTs
  have HTE := hide (bat_eq T)
  clear hTs
  have hb5 : Below w4.heap.size w4 (w4.alloc (.cells #[.int .i64 0, .int .i64 0] 26)) := balloc w4 _
  replace hsv := hsv.below hb5
  replace hsr := hsr.below hb5
  replace hB := bcat hB hb5 hge
  replace hge := hB.size
  have b6 : Two (w4.alloc (.cells #[.int .i64 0, .int .i64 0] 26)) w4.heap.size := Two.new w4
  obtain ⟨_, b66a, b66b, b66c, b66d, b66e, b66f⟩ := id b6
  go_wp2_with fail
  clear b66a b66b b66c b66d b66e b66f
  refine (parse_none _).mono ?_
  rintro x w7 ⟨rfl, hb7⟩
  replace hsv := hsv.below hb7
  replace hsr := hsr.below hb7
  replace b6 := Two.below b6 hb7
  replace hB := bcat hB hb7 hge
  replace hge := hB.size
  have hb8 : Below w7.heap.size w7 (w7.alloc (.cells #[.int .i64 1, .int .i64 0] 26)) := balloc w7 _
  replace hsv := hsv.below hb8
  replace hsr := hsr.below hb8
  replace b6 := Two.below b6 hb8
  replace hB := bcat hB hb8 hge
  replace hge := hB.size
  have b8 : Blk (w7.alloc (.cells #[.int .i64 1, .int .i64 0] 26)) w7.heap.size 26 [.int .i64 1, .int .i64 0] := blk0 _ _
  obtain ⟨_, b69a, b69b, b69c, b69d, b69e, b69f⟩ := id b6
  obtain ⟨b89a, b89b, b89c, b89d⟩ := b8.two
  go_wp2_with fail
  clear b69a b69b b69c b69d b69e b69f b89a b89b b89c b89d
  refine (wfault_any _ zs _ hsv).mono ?_
  rintro x w10 ⟨rfl, hb10⟩
  replace hsv := hsv.below hb10
  replace hsr := hsr.below hb10
  replace b6 := Two.below b6 hb10
  replace b8 : Blk (w10) w7.heap.size 26 [.int .i64 1, .int .i64 0] := Blk.of_eq b8 (hb10.block _ b8.lt)
  replace hB := bcat hB hb10 hge
  replace hge := hB.size
  rw [HWD.out.code.1, HWD.out.code.2]
  have HGB := hide hge
  have HL8 := hide b8.lt
  have hb11 : Below w10.heap.size w10 (w10.alloc (.cells #[.int .i64 0, .int .i64 0] 26)) := balloc w10 _
  replace hsv := hsv.below hb11
  replace hsr := hsr.below hb11
  replace b6 := Two.below b6 hb11
  replace b8 : Blk (w10.alloc (.cells #[.int .i64 0, .int .i64 0] 26)) w7.heap.size 26 [.int .i64 1, .int .i64 0] := Blk.of_eq b8 (hb11.block _ b8.lt)
  replace hB := bcat hB hb11 hge
  replace hge := hB.size
  have b9 : Two (w10.alloc (.cells #[.int .i64 0, .int .i64 0] 26)) w10.heap.size := Two.new w10
  obtain ⟨_, b612a, b612b, b612c, b612d, b612e, b612f⟩ := id b6
  obtain ⟨b812a, b812b, b812c, b812d⟩ := b8.two
  obtain ⟨_, b912a, b912b, b912c, b912d, b912e, b912f⟩ := id b9
  go_wp2_with fail
  clear b612a b612b b612c b612d b612e b612f b812a b812b b812c b812d b912a b912b b912c b912d b912e b912f
  refine (HPT.out _).mono ?_
  rintro x w13 ⟨rb, rfl, hrb, hb13⟩
  replace hsv := hsv.below hb13
  replace hsr := hsr.below hb13
  replace b6 := Two.below b6 hb13
  replace b8 : Blk (w13) w7.heap.size 26 [.int .i64 1, .int .i64 0] := Blk.of_eq b8 (hb13.block _ b8.lt)
  replace b9 := Two.below b9 hb13
  replace hB := bcat hB hb13 hge
  replace hge := hB.size
  have h0b : 0 < w13.heap.size := hsv.pos
  have hsb := hrb.sl h0b
  obtain ⟨b1, b2, rfl⟩ := hrb.slice
  clear hrb
  have hb14 : Below w13.heap.size w13 (w13.alloc (.cells #[.int .i64 0, .int .i64 0] 26)) := balloc w13 _
  replace hsv := hsv.below hb14
  replace hsr := hsr.below hb14
  replace hsb := hsb.below hb14
  replace b6 := Two.below b6 hb14
  replace b8 : Blk (w13.alloc (.cells #[.int .i64 0, .int .i64 0] 26)) w7.heap.size 26 [.int .i64 1, .int .i64 0] := Blk.of_eq b8 (hb14.block _ b8.lt)
  replace b9 := Two.below b9 hb14
  replace hB := bcat hB hb14 hge
  replace hge := hB.size
  have b11 : Two (w13.alloc (.cells #[.int .i64 0, .int .i64 0] 26)) w13.heap.size := Two.new w13
  obtain ⟨_, b615a, b615b, b615c, b615d, b615e, b615f⟩ := id b6
  obtain ⟨b815a, b815b, b815c, b815d⟩ := b8.two
  obtain ⟨_, b915a, b915b, b915c, b915d, b915e, b915f⟩ := id b9
  obtain ⟨_, b1115a, b1115b, b1115c, b1115d, b1115e, b1115f⟩ := id b11
  go_wp2_with fail
  clear b615a b615b b615c b615d b615e b615f b815a b815b b815c b815d b915a b915b b915c b915d b915e b915f b1115a b1115b b1115c b1115d b1115e b1115f
  refine (ints_true _ _ zs zs _ hsb hsv rfl).mono ?_
  rintro x w16 ⟨rfl, hb16⟩
  replace hsv := hsv.below hb16
  replace hsr := hsr.below hb16
  replace hsb := hsb.below hb16
  replace b6 := Two.below b6 hb16
  replace b8 : Blk (w16) w7.heap.size 26 [.int .i64 1, .int .i64 0] := Blk.of_eq b8 (hb16.block _ b8.lt)
  replace b9 := Two.below b9 hb16
  replace b11 := Two.below b11 hb16
  replace hB := bcat hB hb16 hge
  replace hge := hB.size
  have hzl : ¬ ((zs.length : Int) = 0) := by have := List.length_pos_iff.2 HZ.out; omega
  have hzl2 : ((zs.length : Int) == 0) = false := by simpa using hzl
  have hzl3 : (zs.length : Int) > 0 := by have := List.length_pos_iff.2 HZ.out; omega
  have hzl4 : ¬ zs = [] := HZ.out
  obtain ⟨a9, cap9, pb9, po9, hve, hr9, hp9, _, hcm9⟩ := id hsv
  injection hve with e1 _ e2
  subst e1 e2
  have hat9 := hr9.at_ (List.length_pos_iff.2 HZ.out)
  subst hat9
  unfold maxLen at hcm9
  have HR9 := hide hr9
  clear hr9
  obtain ⟨_, b617a, b617b, b617c, b617d, b617e, b617f⟩ := id b6
  obtain ⟨b817a, b817b, b817c, b817d⟩ := b8.two
  obtain ⟨_, b917a, b917b, b917c, b917d, b917e, b917f⟩ := id b9
  obtain ⟨_, b1117a, b1117b, b1117c, b1117d, b1117e, b1117f⟩ := id b11
  go_wp2_with fail
  clear b617a b617b b617c b617d b617e b617f b817a b817b b817c b817d b917a b917b b917c b917d b917e b917f b1117a b1117b b1117c b1117d b1117e b1117f
  go_loopw [12] (fun i wr => ∃ k j : Nat, k ≤ zs.length ∧ i = .int .i64 k ∧ wr = w16.drewN j) (fun i _ => zs.length - (intOf i).toNat)
  case atStart => exact ⟨0, 0, Nat.zero_le _, rfl, rfl⟩
  case round =>
    obtain ⟨k9, j9, hk9, rfl, rfl⟩ := hrel
    by_cases hlt9 : k9 < zs.length
    · have hx9 := HR9.out.cell k9 hlt9
      have hbx := HWD.out.lt.at hlt9
      have htk : k9 < T.size := by rw [HTS.out]; exact hlt9
      have hki9 : (k9 : Int) < (zs.length : Int) := by omega
      have hkT9 : (k9 : Int) < (T.size : Int) := by omega
      have hT9 := HTE.out k9 htk
      have hB9 := HBT.out k9 hlt9
      obtain ⟨x9, hxe⟩ : ∃ x9, zs[k9]?.getD 0 = x9 := ⟨_, rfl⟩
      rw [hxe] at hx9 hbx hB9
      obtain ⟨bb, hbb⟩ : ∃ bb, bat T k9 = bb := ⟨_, rfl⟩
      rw [hbb] at hT9 hB9
      clear hxe hbb
      rcases byt_range hbx with ⟨g1, g2, g3, g4⟩ | ⟨g1, g2, g3, g4⟩
      · have g5 : (bb : Int) = 96 + x9 := by omega
        have g6 : x9 > 0 := g1
        have g7 : ¬ x9 < 0 := by omega
        have g8 : decide (x9 < 0) = false := by simp; omega
        clear g2 g3 g4 hB9
        go_wp2_with fail
        go_quiet (fail)
        go_wp2
        go_roundw
        case rel => exact ⟨k9 + 1, _, by omega, by go_num, rfl⟩
        case measure => simp [intOf]; omega
      · have g5 : (bb : Int) = 64 - x9 := by omega
        have g6 : ¬ x9 > 0 := by omega
        have g7 : ¬ 0 < x9 := by omega
        have g8 : decide (0 < x9) = false := by simp; omega
        have g9 : x9 < 0 := g1
        clear g2 g3 g4 hB9
        go_wp2_with fail
        go_quiet (fail)
        go_wp2
        go_roundw
        case rel => exact ⟨k9 + 1, _, by omega, by go_num, rfl⟩
        case measure => simp [intOf]; omega
    · have hki9 : ¬ ((k9 : Int) < (zs.length : Int)) := by omega
      have hbd : Below w16.heap.size w16 (w16.drewN j9) := bdrewN (Below.refl _ _) _
      replace hsv := hsv.below hbd
      replace hsr := hsr.below hbd
      replace hsb := hsb.below hbd
      replace b6 := Two.below b6 hbd
      replace b8 : Blk ((w16.drewN j9)) w7.heap.size 26 [.int .i64 1, .int .i64 0] := Blk.of_eq b8 (hbd.block _ b8.lt)
      replace b9 := Two.below b9 hbd
      replace b11 := Two.below b11 hbd
      replace hB := bcat hB hbd hge
      replace hge := hB.size
      generalize w16.drewN j9 = wz at *
      have hne8 : ¬ w7.heap.size = w10.heap.size := Nat.ne_of_lt HL8.out
      have b9n : Two wz w10.heap.size := b9
      have b8n : Blk wz w7.heap.size 26 [.int .i64 1, .int .i64 0] := b8
      have hBn := hB
      obtain ⟨_, m6a, m6b, _, _, _, _⟩ := id b6
      obtain ⟨_, m9a, m9b, m9c, m9d, m9e, m9f⟩ := id b9n
      obtain ⟨m8a, m8b, _, _⟩ := b8n.two
      go_wp2_with fail
      go_loopw [13] (fun i wr => i = .int .i64 0 ∧ wr = wz) (fun _ _ => 0)
      case atStart => exact ⟨rfl, rfl⟩
      case round =>
        obtain ⟨rfl, hwr⟩ := hrel
        have b9N : Blk wr w10.heap.size 26 [.int .i64 0, .int .i64 0] := by rw [hwr]; exact b9n.blk
        have b8N : Blk wr w7.heap.size 26 [.int .i64 1, .int .i64 0] := by rw [hwr]; exact b8n
        have hBN : Below w.heap.size w wr := by rw [hwr]; exact hBn
        clear hwr
        obtain ⟨q9a, q9b, _, _⟩ := b9N.two
        go_wp2_with fail
        refine (f_ok 1 0 _).mono ?_
        rintro x wF ⟨rfl, hbF⟩
        have b9F : Blk wF w10.heap.size 26 [.int .i64 0, .int .i64 0] := b9N.of_eq (hbF.block _ b9N.lt)
        have b8F := b8N.of_eq (hbF.block _ b8N.lt)
        have hBF := bcat hBN hbF hBN.size
        have hR9 : Blk ((wF.setCell ⟨w10.heap.size, 0, none⟩ (.int .i64 1)).setCell ⟨w10.heap.size, 1, none⟩ (.int .i64 0)) w10.heap.size 26 [.int .i64 1, .int .i64 0] := (b9F.set 0 _).set 1 _
        have hX9 := (b8F.other (p := ⟨w10.heap.size, 0, none⟩) hne8 (.int .i64 1)).other (p := ⟨w10.heap.size, 1, none⟩) hne8 (.int .i64 0)
        have hBZ := (hBF.setCell (p := ⟨w10.heap.size, 0, none⟩) HGB.out (.int .i64 1)).setCell (p := ⟨w10.heap.size, 1, none⟩) HGB.out (.int .i64 0)
        obtain ⟨z0, z1, fz0, fz1⟩ := hR9.two
        obtain ⟨x0, x1, _, _⟩ := hX9.two
        obtain ⟨q0, q1, q2, q3⟩ := b9F.two
        have hself := setCell_self (b := w10.heap.size) (o := 1) (show _ from (b9F.set 0 (.int .i64 1))) (v := .int .i64 0) (by simp)
        rw [hself] at hBZ z0 z1 fz0 fz1 x0 x1
        go_wp2
        go_ret
        exact ⟨rfl, hBZ⟩

set_option maxRecDepth 100000 in
set_option maxHeartbeats 4000000 in
theorem tx_C4 (v : Value) (zs : List Int) (w : World) (hv : SlA w v zs) (hl : zs.length ≤ 5000) (h : wsc [zs] = 0) (hz : zs ≠ []) (s : ByteArray) (h2 : s.size ≤ 2000) (h5 : 0 < s.size) (h6 : s.toList ≠ [49]) :
    Calls Try.prog 7 #[v, .string s] w fun e w' => e = .returned (.bool true) ∧ Below w.heap.size w w' := by
  have hl1 : ¬ ((5000 : Int) < (zs.length : Int)) := by omega
  have HWD := hide (wsc_all h zs (by simp))
  have HZ := hide hz
  clear h hz
  have hs1 : ¬ ((2000 : Int) < (s.size : Int)) := by omega
  have hs5 : ¬ ((5000 : Int) < (s.size : Int)) := by omega
  have hq1 : (s.toList == [49]) = false := by simpa using h6
  have hq2 : (s.toList == []) = false := by
    simp only [beq_eq_false_iff_ne]
    intro e
    have := toList_len s
    rw [e] at this
    simp at this
    omega
  have hq3 : s.toList ≠ [] := by simpa using hq2
  have HBE := hide (bat_eq s)
  have H6 := hide h6
  clear h6
  obtain ⟨va, vc, hve⟩ := hv.shape
  subst hve
  have HV := hide hv
  clear hv
  go_enter Try.func7, Try.ntmps7
  go_wp2_with fail
  refine (freeBegun_any w).mono ?_
  rintro x w1 ⟨rfl, hB, h01⟩
  have hge := hB.size
  have hsv := HV.out.up hB h01
  clear HV
  go_wp2_with fail
  refine (own_row _ zs w1 hsv (by omega)).mono ?_
  rintro x w2 ⟨r, rfl, hr, hb2⟩
  replace hsv := hsv.below hb2
  replace hB := bcat hB hb2 hge
  replace hge := hB.size
  have h0r : 0 < w2.heap.size := hsv.pos
  have hsr := hr.sl h0r
  obtain ⟨r1, r2, rfl⟩ := hr.slice
  clear hr
  go_wp2_with fail
  refine (text_good_good _ zs _ hsr HWD.out HZ.out).mono ?_
  rintro x w4 ⟨rfl, hb4⟩
  replace hsv := hsv.below hb4
  replace hsr := hsr.below hb4
  replace hB := bcat hB hb4 hge
  replace hge := hB.size
  have HPT := hide (fun W => parse_txt zs W HWD.out HZ.out)
  have hTs := txt_size zs
  have HBT := hide (fun k (hk : k < zs.length) => txt_bat HWD.out.lt hk)
  generalize (⟨(bts zs).toArray⟩ : ByteArray) = T at *
  have hTb : ((T.size : Int) != (zs.length : Int)) = false := by rw [hTs]; simp
  have HTS := hide hTs
  have HTE := hide (bat_eq T)
  clear hTs
  have hb5 : Below w4.heap.size w4 (w4.alloc (.cells #[.int .i64 0, .int .i64 0] 26)) := balloc w4 _
  replace hsv := hsv.below hb5
  replace hsr := hsr.below hb5
  replace hB := bcat hB hb5 hge
  replace hge := hB.size
  have b6 : Two (w4.alloc (.cells #[.int .i64 0, .int .i64 0] 26)) w4.heap.size := Two.new w4
  obtain ⟨_, b66a, b66b, b66c, b66d, b66e, b66f⟩ := id b6
  go_wp2_with fail
  clear b66a b66b b66c b66d b66e b66f
  refine (parse_some s _ h2 h5 H6.out).mono ?_
  rintro x w7 (⟨k, hks, hbad, hgood, rfl, hb7⟩ | ⟨hgood, rp, rfl, hrp, hb7⟩)
  · replace hsv := hsv.below hb7
    replace hsr := hsr.below hb7
    replace b6 := Two.below b6 hb7
    replace hB := bcat hB hb7 hge
    replace hge := hB.size
    have hb8 : Below w7.heap.size w7 (w7.alloc (.cells #[.int .i64 1, .int .i64 k] 26)) := balloc w7 _
    replace hsv := hsv.below hb8
    replace hsr := hsr.below hb8
    replace b6 := Two.below b6 hb8
    replace hB := bcat hB hb8 hge
    replace hge := hB.size
    have b8 : Blk (w7.alloc (.cells #[.int .i64 1, .int .i64 k] 26)) w7.heap.size 26 [.int .i64 1, .int .i64 k] := blk0 _ _
    obtain ⟨_, b69a, b69b, b69c, b69d, b69e, b69f⟩ := id b6
    obtain ⟨b89a, b89b, b89c, b89d⟩ := b8.two
    go_wp2_with fail
    clear b69a b69b b69c b69d b69e b69f b89a b89b b89c b89d
    refine (wfault_any _ zs _ hsv).mono ?_
    rintro x w10 ⟨rfl, hb10⟩
    replace hsv := hsv.below hb10
    replace hsr := hsr.below hb10
    replace b6 := Two.below b6 hb10
    replace b8 : Blk (w10) w7.heap.size 26 [.int .i64 1, .int .i64 k] := Blk.of_eq b8 (hb10.block _ b8.lt)
    replace hB := bcat hB hb10 hge
    replace hge := hB.size
    rw [HWD.out.code.1, HWD.out.code.2]
    have HGB := hide hge
    have HL8 := hide b8.lt
    have hb11 : Below w10.heap.size w10 (w10.alloc (.cells #[.int .i64 0, .int .i64 0] 26)) := balloc w10 _
    replace hsv := hsv.below hb11
    replace hsr := hsr.below hb11
    replace b6 := Two.below b6 hb11
    replace b8 : Blk (w10.alloc (.cells #[.int .i64 0, .int .i64 0] 26)) w7.heap.size 26 [.int .i64 1, .int .i64 k] := Blk.of_eq b8 (hb11.block _ b8.lt)
    replace hB := bcat hB hb11 hge
    replace hge := hB.size
    have b9 : Two (w10.alloc (.cells #[.int .i64 0, .int .i64 0] 26)) w10.heap.size := Two.new w10
    obtain ⟨_, b612a, b612b, b612c, b612d, b612e, b612f⟩ := id b6
    obtain ⟨b812a, b812b, b812c, b812d⟩ := b8.two
    obtain ⟨_, b912a, b912b, b912c, b912d, b912e, b912f⟩ := id b9
    go_wp2_with fail
    clear b612a b612b b612c b612d b612e b612f b812a b812b b812c b812d b912a b912b b912c b912d b912e b912f
    refine (HPT.out _).mono ?_
    rintro x w13 ⟨rb, rfl, hrb, hb13⟩
    replace hsv := hsv.below hb13
    replace hsr := hsr.below hb13
    replace b6 := Two.below b6 hb13
    replace b8 : Blk (w13) w7.heap.size 26 [.int .i64 1, .int .i64 k] := Blk.of_eq b8 (hb13.block _ b8.lt)
    replace b9 := Two.below b9 hb13
    replace hB := bcat hB hb13 hge
    replace hge := hB.size
    have h0b : 0 < w13.heap.size := hsv.pos
    have hsb := hrb.sl h0b
    obtain ⟨b1, b2, rfl⟩ := hrb.slice
    clear hrb
    have hb14 : Below w13.heap.size w13 (w13.alloc (.cells #[.int .i64 0, .int .i64 0] 26)) := balloc w13 _
    replace hsv := hsv.below hb14
    replace hsr := hsr.below hb14
    replace hsb := hsb.below hb14
    replace b6 := Two.below b6 hb14
    replace b8 : Blk (w13.alloc (.cells #[.int .i64 0, .int .i64 0] 26)) w7.heap.size 26 [.int .i64 1, .int .i64 k] := Blk.of_eq b8 (hb14.block _ b8.lt)
    replace b9 := Two.below b9 hb14
    replace hB := bcat hB hb14 hge
    replace hge := hB.size
    have b11 : Two (w13.alloc (.cells #[.int .i64 0, .int .i64 0] 26)) w13.heap.size := Two.new w13
    obtain ⟨_, b615a, b615b, b615c, b615d, b615e, b615f⟩ := id b6
    obtain ⟨b815a, b815b, b815c, b815d⟩ := b8.two
    obtain ⟨_, b915a, b915b, b915c, b915d, b915e, b915f⟩ := id b9
    obtain ⟨_, b1115a, b1115b, b1115c, b1115d, b1115e, b1115f⟩ := id b11
    go_wp2_with fail
    clear b615a b615b b615c b615d b615e b615f b815a b815b b815c b815d b915a b915b b915c b915d b915e b915f b1115a b1115b b1115c b1115d b1115e b1115f
    refine (ints_true _ _ zs zs _ hsb hsv rfl).mono ?_
    rintro x w16 ⟨rfl, hb16⟩
    replace hsv := hsv.below hb16
    replace hsr := hsr.below hb16
    replace hsb := hsb.below hb16
    replace b6 := Two.below b6 hb16
    replace b8 : Blk (w16) w7.heap.size 26 [.int .i64 1, .int .i64 k] := Blk.of_eq b8 (hb16.block _ b8.lt)
    replace b9 := Two.below b9 hb16
    replace b11 := Two.below b11 hb16
    replace hB := bcat hB hb16 hge
    replace hge := hB.size
    have hzl : ¬ ((zs.length : Int) = 0) := by have := List.length_pos_iff.2 HZ.out; omega
    have hzl2 : ((zs.length : Int) == 0) = false := by simpa using hzl
    have hzl3 : (zs.length : Int) > 0 := by have := List.length_pos_iff.2 HZ.out; omega
    have hzl4 : ¬ zs = [] := HZ.out
    obtain ⟨a9, cap9, pb9, po9, hve, hr9, hp9, _, hcm9⟩ := id hsv
    injection hve with e1 _ e2
    subst e1 e2
    have hat9 := hr9.at_ (List.length_pos_iff.2 HZ.out)
    subst hat9
    unfold maxLen at hcm9
    have HR9 := hide hr9
    clear hr9
    obtain ⟨_, b617a, b617b, b617c, b617d, b617e, b617f⟩ := id b6
    obtain ⟨b817a, b817b, b817c, b817d⟩ := b8.two
    obtain ⟨_, b917a, b917b, b917c, b917d, b917e, b917f⟩ := id b9
    obtain ⟨_, b1117a, b1117b, b1117c, b1117d, b1117e, b1117f⟩ := id b11
    go_wp2_with fail
    clear b617a b617b b617c b617d b617e b617f b817a b817b b817c b817d b917a b917b b917c b917d b917e b917f b1117a b1117b b1117c b1117d b1117e b1117f
    go_loopw [12] (fun i wr => ∃ k j : Nat, k ≤ zs.length ∧ i = .int .i64 k ∧ wr = w16.drewN j) (fun i _ => zs.length - (intOf i).toNat)
    case atStart => exact ⟨0, 0, Nat.zero_le _, rfl, rfl⟩
    case round =>
      obtain ⟨k9, j9, hk9, rfl, rfl⟩ := hrel
      by_cases hlt9 : k9 < zs.length
      · have hx9 := HR9.out.cell k9 hlt9
        have hbx := HWD.out.lt.at hlt9
        have htk : k9 < T.size := by rw [HTS.out]; exact hlt9
        have hki9 : (k9 : Int) < (zs.length : Int) := by omega
        have hkT9 : (k9 : Int) < (T.size : Int) := by omega
        have hT9 := HTE.out k9 htk
        have hB9 := HBT.out k9 hlt9
        obtain ⟨x9, hxe⟩ : ∃ x9, zs[k9]?.getD 0 = x9 := ⟨_, rfl⟩
        rw [hxe] at hx9 hbx hB9
        obtain ⟨bb, hbb⟩ : ∃ bb, bat T k9 = bb := ⟨_, rfl⟩
        rw [hbb] at hT9 hB9
        clear hxe hbb
        rcases byt_range hbx with ⟨g1, g2, g3, g4⟩ | ⟨g1, g2, g3, g4⟩
        · have g5 : (bb : Int) = 96 + x9 := by omega
          have g6 : x9 > 0 := g1
          have g7 : ¬ x9 < 0 := by omega
          have g8 : decide (x9 < 0) = false := by simp; omega
          clear g2 g3 g4 hB9
          go_wp2_with fail
          go_quiet (fail)
          go_wp2
          go_roundw
          case rel => exact ⟨k9 + 1, _, by omega, by go_num, rfl⟩
          case measure => simp [intOf]; omega
        · have g5 : (bb : Int) = 64 - x9 := by omega
          have g6 : ¬ x9 > 0 := by omega
          have g7 : ¬ 0 < x9 := by omega
          have g8 : decide (0 < x9) = false := by simp; omega
          have g9 : x9 < 0 := g1
          clear g2 g3 g4 hB9
          go_wp2_with fail
          go_quiet (fail)
          go_wp2
          go_roundw
          case rel => exact ⟨k9 + 1, _, by omega, by go_num, rfl⟩
          case measure => simp [intOf]; omega
      · have hki9 : ¬ ((k9 : Int) < (zs.length : Int)) := by omega
        have hbd : Below w16.heap.size w16 (w16.drewN j9) := bdrewN (Below.refl _ _) _
        replace hsv := hsv.below hbd
        replace hsr := hsr.below hbd
        replace hsb := hsb.below hbd
        replace b6 := Two.below b6 hbd
        replace b8 : Blk ((w16.drewN j9)) w7.heap.size 26 [.int .i64 1, .int .i64 k] := Blk.of_eq b8 (hbd.block _ b8.lt)
        replace b9 := Two.below b9 hbd
        replace b11 := Two.below b11 hbd
        replace hB := bcat hB hbd hge
        replace hge := hB.size
        generalize w16.drewN j9 = wz at *
        have hne8 : ¬ w7.heap.size = w10.heap.size := Nat.ne_of_lt HL8.out
        have b9n : Two wz w10.heap.size := b9
        have b8n : Blk wz w7.heap.size 26 [.int .i64 1, .int .i64 k] := b8
        have hBn := hB
        obtain ⟨_, m6a, m6b, _, _, _, _⟩ := id b6
        obtain ⟨_, m9a, m9b, m9c, m9d, m9e, m9f⟩ := id b9n
        obtain ⟨m8a, m8b, _, _⟩ := b8n.two
        have HGD := hide hgood
        have HBD := hide hbad
        clear hgood hbad
        go_wp2_with fail
        go_loopw [13] (fun i wr => ∃ j : Nat, j ≤ k + 1 ∧ i = .int .i64 j ∧ Blk wr w10.heap.size 26 [.int .i64 (if j ≤ k then 0 else 1), .int .i64 (if j ≤ k then 0 else (k : Int))] ∧ Blk wr w7.heap.size 26 [.int .i64 1, .int .i64 k] ∧ Below w.heap.size w wr) (fun i _ => k + 1 - (intOf i).toNat)
        case atStart => exact ⟨0, Nat.zero_le _, rfl, by rw [if_pos (Nat.zero_le k), if_pos (Nat.zero_le k)]; exact b9n.blk, b8n, hBn⟩
        case round =>
          clear b9n b8n hBn m9a m9b m9c m9d m9e m9f m8a m8b
          obtain ⟨j, hj, rfl, b9N, b8N, hBN⟩ := hrel
          by_cases hjk : j ≤ k
          · rw [if_pos hjk, if_pos hjk] at b9N
            have hjs : j < s.size := by omega
            have hbk := HBE.out j hjs
            have hji : (j : Int) < (s.size : Int) := by omega
            have HG := hide (HGD.out j)
            obtain ⟨b, hbe⟩ : ∃ b, bat s j = b := ⟨_, rfl⟩
            rw [hbe] at hbk HG
            obtain ⟨y0, y1, fy0, fy1⟩ := b9N.two
            by_cases hjl : j < k
            · have hil := HG.out hjl
              have hcls : (97 ≤ (b : Int) ∧ (b : Int) ≤ 122) ∨ (¬ 97 ≤ (b : Int) ∧ 65 ≤ (b : Int) ∧ (b : Int) ≤ 90) := by
                unfold isl at hil; simp at hil; omega
              have hrl : ∀ W, Blk W w10.heap.size 26 [.int .i64 0, .int .i64 0] → Blk W w10.heap.size 26 [.int .i64 (if j + 1 ≤ k then 0 else 1), .int .i64 (if j + 1 ≤ k then 0 else (k : Int))] := fun W h => by
                rw [if_pos (by omega), if_pos (by omega)]; exact h
              have HRL := hide hrl
              clear hil hrl hbe HG
              rcases hcls with ⟨g1, g2⟩ | ⟨g1, g2, g3⟩
              all_goals
                go_wp2
                go_roundw
                case rel => exact ⟨j + 1, by omega, by go_num, HRL.out _ b9N, b8N, hBN⟩
                case measure => simp [intOf]; omega
            · have hjk2 : j = k := by omega
              subst hjk2
              have hil : isl (b : Int) = false := by have := HBD.out; rw [hbe] at this; exact this
              have hcls : (¬ 97 ≤ (b : Int) ∧ ¬ 65 ≤ (b : Int)) ∨ (¬ 97 ≤ (b : Int) ∧ 65 ≤ (b : Int) ∧ ¬ (b : Int) ≤ 90) ∨ (97 ≤ (b : Int) ∧ ¬ (b : Int) ≤ 122 ∧ 65 ≤ (b : Int) ∧ ¬ (b : Int) ≤ 90) := by
                unfold isl at hil; simp at hil; omega
              clear hil hbe HG
              rcases hcls with ⟨g1, g2⟩ | ⟨g1, g2, g3⟩ | ⟨g1, g2, g3, g4⟩
              all_goals
                go_wp2_with fail
                refine (f_ok 1 (j : Int) _).mono ?_
                rintro x wF ⟨rfl, hbF⟩
                have b9F : Blk wF w10.heap.size 26 [.int .i64 0, .int .i64 0] := b9N.of_eq (hbF.block _ b9N.lt)
                have b8F := b8N.of_eq (hbF.block _ b8N.lt)
                have hBF := bcat hBN hbF hBN.size
                have hR9 : Blk ((wF.setCell ⟨w10.heap.size, 0, none⟩ (.int .i64 1)).setCell ⟨w10.heap.size, 1, none⟩ (.int .i64 j)) w10.heap.size 26 [.int .i64 1, .int .i64 j] := (b9F.set 0 _).set 1 _
                have hX9 := (b8F.other (p := ⟨w10.heap.size, 0, none⟩) hne8 (.int .i64 1)).other (p := ⟨w10.heap.size, 1, none⟩) hne8 (.int .i64 j)
                have hBZ := (hBF.setCell (p := ⟨w10.heap.size, 0, none⟩) HGB.out (.int .i64 1)).setCell (p := ⟨w10.heap.size, 1, none⟩) HGB.out (.int .i64 j)
                obtain ⟨q0, q1, q2, q3⟩ := b9F.two
                have hrl : Blk ((wF.setCell ⟨w10.heap.size, 0, none⟩ (.int .i64 1)).setCell ⟨w10.heap.size, 1, none⟩ (.int .i64 j)) w10.heap.size 26 [.int .i64 (if j + 1 ≤ j then 0 else 1), .int .i64 (if j + 1 ≤ j then 0 else (j : Int))] := by
                  rw [if_neg (by omega), if_neg (by omega)]; exact hR9
                have HRL := hide hrl
                clear hrl hR9
                go_wp2
                go_roundw
                case rel => exact ⟨j + 1, by omega, by go_num, HRL.out, hX9, hBZ⟩
                case measure => simp [intOf]
          · rw [if_neg hjk, if_neg hjk] at b9N
            obtain ⟨y0, y1, fy0, fy1⟩ := b9N.two
            obtain ⟨x0, x1, _, _⟩ := b8N.two
            clear hjk
            rcases Nat.lt_or_ge j s.size with hjz | hjz
            · have hji : (j : Int) < (s.size : Int) := by omega
              go_wp2
              go_ret
              exact ⟨rfl, hBN⟩
            · have hji : ¬ ((j : Int) < (s.size : Int)) := by omega
              go_wp2
              go_ret
              exact ⟨rfl, hBN⟩
  · replace hsv := hsv.below hb7
    replace hsr := hsr.below hb7
    replace b6 := Two.below b6 hb7
    replace hB := bcat hB hb7 hge
    replace hge := hB.size
    have HGD := hide hgood
    have HPL := hide (pls_len s)
    clear hgood
    have h0p : 0 < w7.heap.size := hsv.pos
    have hsp := hrp.sl h0p
    obtain ⟨p1, p2, rfl⟩ := hrp.slice
    clear hrp
    have hb8 : Below w7.heap.size w7 (w7.alloc (.cells #[.int .i64 0, .int .i64 0] 26)) := balloc w7 _
    replace hsv := hsv.below hb8
    replace hsr := hsr.below hb8
    replace hsp := hsp.below hb8
    replace b6 := Two.below b6 hb8
    replace hB := bcat hB hb8 hge
    replace hge := hB.size
    have b8 : Two (w7.alloc (.cells #[.int .i64 0, .int .i64 0] 26)) w7.heap.size := Two.new w7
    obtain ⟨_, b69a, b69b, b69c, b69d, b69e, b69f⟩ := id b6
    obtain ⟨_, b89a, b89b, b89c, b89d, b89e, b89f⟩ := id b8
    go_wp2_with fail
    clear b69a b69b b69c b69d b69e b69f b89a b89b b89c b89d b89e b89f
    refine (wfault_any _ zs _ hsv).mono ?_
    rintro x w10 ⟨rfl, hb10⟩
    replace hsv := hsv.below hb10
    replace hsr := hsr.below hb10
    replace hsp := hsp.below hb10
    replace b6 := Two.below b6 hb10
    replace b8 := Two.below b8 hb10
    replace hB := bcat hB hb10 hge
    replace hge := hB.size
    rw [HWD.out.code.1, HWD.out.code.2]
    have HGB := hide hge
    have HL8 := hide b8.blk.lt
    have hb11 : Below w10.heap.size w10 (w10.alloc (.cells #[.int .i64 0, .int .i64 0] 26)) := balloc w10 _
    replace hsv := hsv.below hb11
    replace hsr := hsr.below hb11
    replace hsp := hsp.below hb11
    replace b6 := Two.below b6 hb11
    replace b8 := Two.below b8 hb11
    replace hB := bcat hB hb11 hge
    replace hge := hB.size
    have b9 : Two (w10.alloc (.cells #[.int .i64 0, .int .i64 0] 26)) w10.heap.size := Two.new w10
    obtain ⟨_, b612a, b612b, b612c, b612d, b612e, b612f⟩ := id b6
    obtain ⟨_, b812a, b812b, b812c, b812d, b812e, b812f⟩ := id b8
    obtain ⟨_, b912a, b912b, b912c, b912d, b912e, b912f⟩ := id b9
    go_wp2_with fail
    clear b612a b612b b612c b612d b612e b612f b812a b812b b812c b812d b812e b812f b912a b912b b912c b912d b912e b912f
    refine (HPT.out _).mono ?_
    rintro x w13 ⟨rb, rfl, hrb, hb13⟩
    replace hsv := hsv.below hb13
    replace hsr := hsr.below hb13
    replace hsp := hsp.below hb13
    replace b6 := Two.below b6 hb13
    replace b8 := Two.below b8 hb13
    replace b9 := Two.below b9 hb13
    replace hB := bcat hB hb13 hge
    replace hge := hB.size
    have h0b : 0 < w13.heap.size := hsv.pos
    have hsb := hrb.sl h0b
    obtain ⟨b1, b2, rfl⟩ := hrb.slice
    clear hrb
    have hb14 : Below w13.heap.size w13 (w13.alloc (.cells #[.int .i64 0, .int .i64 0] 26)) := balloc w13 _
    replace hsv := hsv.below hb14
    replace hsr := hsr.below hb14
    replace hsp := hsp.below hb14
    replace hsb := hsb.below hb14
    replace b6 := Two.below b6 hb14
    replace b8 := Two.below b8 hb14
    replace b9 := Two.below b9 hb14
    replace hB := bcat hB hb14 hge
    replace hge := hB.size
    have b11 : Two (w13.alloc (.cells #[.int .i64 0, .int .i64 0] 26)) w13.heap.size := Two.new w13
    obtain ⟨_, b615a, b615b, b615c, b615d, b615e, b615f⟩ := id b6
    obtain ⟨_, b815a, b815b, b815c, b815d, b815e, b815f⟩ := id b8
    obtain ⟨_, b915a, b915b, b915c, b915d, b915e, b915f⟩ := id b9
    obtain ⟨_, b1115a, b1115b, b1115c, b1115d, b1115e, b1115f⟩ := id b11
    go_wp2_with fail
    clear b615a b615b b615c b615d b615e b615f b815a b815b b815c b815d b815e b815f b915a b915b b915c b915d b915e b915f b1115a b1115b b1115c b1115d b1115e b1115f
    refine (ints_true _ _ zs zs _ hsb hsv rfl).mono ?_
    rintro x w16 ⟨rfl, hb16⟩
    replace hsv := hsv.below hb16
    replace hsr := hsr.below hb16
    replace hsp := hsp.below hb16
    replace hsb := hsb.below hb16
    replace b6 := Two.below b6 hb16
    replace b8 := Two.below b8 hb16
    replace b9 := Two.below b9 hb16
    replace b11 := Two.below b11 hb16
    replace hB := bcat hB hb16 hge
    replace hge := hB.size
    have hzl : ¬ ((zs.length : Int) = 0) := by have := List.length_pos_iff.2 HZ.out; omega
    have hzl2 : ((zs.length : Int) == 0) = false := by simpa using hzl
    have hzl3 : (zs.length : Int) > 0 := by have := List.length_pos_iff.2 HZ.out; omega
    have hzl4 : ¬ zs = [] := HZ.out
    obtain ⟨a9, cap9, pb9, po9, hve, hr9, hp9, _, hcm9⟩ := id hsv
    injection hve with e1 _ e2
    subst e1 e2
    have hat9 := hr9.at_ (List.length_pos_iff.2 HZ.out)
    subst hat9
    unfold maxLen at hcm9
    have HR9 := hide hr9
    clear hr9
    obtain ⟨_, b617a, b617b, b617c, b617d, b617e, b617f⟩ := id b6
    obtain ⟨_, b817a, b817b, b817c, b817d, b817e, b817f⟩ := id b8
    obtain ⟨_, b917a, b917b, b917c, b917d, b917e, b917f⟩ := id b9
    obtain ⟨_, b1117a, b1117b, b1117c, b1117d, b1117e, b1117f⟩ := id b11
    go_wp2_with fail
    clear b617a b617b b617c b617d b617e b617f b817a b817b b817c b817d b817e b817f b917a b917b b917c b917d b917e b917f b1117a b1117b b1117c b1117d b1117e b1117f
    go_loopw [12] (fun i wr => ∃ k j : Nat, k ≤ zs.length ∧ i = .int .i64 k ∧ wr = w16.drewN j) (fun i _ => zs.length - (intOf i).toNat)
    case atStart => exact ⟨0, 0, Nat.zero_le _, rfl, rfl⟩
    case round =>
      obtain ⟨k9, j9, hk9, rfl, rfl⟩ := hrel
      by_cases hlt9 : k9 < zs.length
      · have hx9 := HR9.out.cell k9 hlt9
        have hbx := HWD.out.lt.at hlt9
        have htk : k9 < T.size := by rw [HTS.out]; exact hlt9
        have hki9 : (k9 : Int) < (zs.length : Int) := by omega
        have hkT9 : (k9 : Int) < (T.size : Int) := by omega
        have hT9 := HTE.out k9 htk
        have hB9 := HBT.out k9 hlt9
        obtain ⟨x9, hxe⟩ : ∃ x9, zs[k9]?.getD 0 = x9 := ⟨_, rfl⟩
        rw [hxe] at hx9 hbx hB9
        obtain ⟨bb, hbb⟩ : ∃ bb, bat T k9 = bb := ⟨_, rfl⟩
        rw [hbb] at hT9 hB9
        clear hxe hbb
        rcases byt_range hbx with ⟨g1, g2, g3, g4⟩ | ⟨g1, g2, g3, g4⟩
        · have g5 : (bb : Int) = 96 + x9 := by omega
          have g6 : x9 > 0 := g1
          have g7 : ¬ x9 < 0 := by omega
          have g8 : decide (x9 < 0) = false := by simp; omega
          clear g2 g3 g4 hB9
          go_wp2_with fail
          go_quiet (fail)
          go_wp2
          go_roundw
          case rel => exact ⟨k9 + 1, _, by omega, by go_num, rfl⟩
          case measure => simp [intOf]; omega
        · have g5 : (bb : Int) = 64 - x9 := by omega
          have g6 : ¬ x9 > 0 := by omega
          have g7 : ¬ 0 < x9 := by omega
          have g8 : decide (0 < x9) = false := by simp; omega
          have g9 : x9 < 0 := g1
          clear g2 g3 g4 hB9
          go_wp2_with fail
          go_quiet (fail)
          go_wp2
          go_roundw
          case rel => exact ⟨k9 + 1, _, by omega, by go_num, rfl⟩
          case measure => simp [intOf]; omega
      · have hki9 : ¬ ((k9 : Int) < (zs.length : Int)) := by omega
        have hbd : Below w16.heap.size w16 (w16.drewN j9) := bdrewN (Below.refl _ _) _
        replace hsv := hsv.below hbd
        replace hsr := hsr.below hbd
        replace hsp := hsp.below hbd
        replace hsb := hsb.below hbd
        replace b6 := Two.below b6 hbd
        replace b8 := Two.below b8 hbd
        replace b9 := Two.below b9 hbd
        replace b11 := Two.below b11 hbd
        replace hB := bcat hB hbd hge
        replace hge := hB.size
        generalize w16.drewN j9 = wz at *
        have hne8 : ¬ w7.heap.size = w10.heap.size := Nat.ne_of_lt HL8.out
        have b9n : Two wz w10.heap.size := b9
        have b8n : Blk wz w7.heap.size 26 [.int .i64 0, .int .i64 0] := b8.blk
        have hBn := hB
        obtain ⟨_, m6a, m6b, _, _, _, _⟩ := id b6
        obtain ⟨_, m9a, m9b, m9c, m9d, m9e, m9f⟩ := id b9n
        obtain ⟨m8a, m8b, _, _⟩ := b8n.two
        have HFAR := hide hsp
        go_wp2_with fail
        go_loopw [13] (fun i wr => ∃ j : Nat, j ≤ s.size ∧ i = .int .i64 j ∧ wr = wz) (fun i _ => s.size - (intOf i).toNat)
        case atStart => exact ⟨0, Nat.zero_le _, rfl, rfl⟩
        case round =>
          clear m9a m9b m9c m9d m9e m9f m8a m8b
          obtain ⟨j, hj, rfl, hwr⟩ := hrel
          have b9N : Blk wr w10.heap.size 26 [.int .i64 0, .int .i64 0] := by rw [hwr]; exact b9n.blk
          have b8N : Blk wr w7.heap.size 26 [.int .i64 0, .int .i64 0] := by rw [hwr]; exact b8n
          have hBN : Below w.heap.size w wr := by rw [hwr]; exact hBn
          have HSP : Sl wr (.slice p1 (pls s).length p2) (pls s) := by rw [hwr]; exact HFAR.out
          have HWR := hide hwr
          clear hwr
          obtain ⟨y0, y1, fy0, fy1⟩ := b9N.two
          by_cases hjs : j < s.size
          · have hbk := HBE.out j hjs
            have hji : (j : Int) < (s.size : Int) := by omega
            have hil := HGD.out j hjs
            obtain ⟨b, hbe⟩ : ∃ b, bat s j = b := ⟨_, rfl⟩
            rw [hbe] at hbk hil
            have hcls : (97 ≤ (b : Int) ∧ (b : Int) ≤ 122) ∨ (¬ 97 ≤ (b : Int) ∧ 65 ≤ (b : Int) ∧ (b : Int) ≤ 90) := by
              unfold isl at hil; simp at hil; omega
            clear hil hbe
            rcases hcls with ⟨g1, g2⟩ | ⟨g1, g2, g3⟩
            all_goals
              go_wp2
              go_roundw
              case rel => exact ⟨j + 1, by omega, by go_num, HWR.out⟩
              case measure => simp [intOf]; omega
          · have hji : ¬ ((j : Int) < (s.size : Int)) := by omega
            obtain ⟨x0, x1, _, _⟩ := b8N.two
            have HPW := hide (show Wd (pls s) from Wd.of (pls_lt HGD.out) (by rw [HPL.out]; exact h2))
            have HPT2 := hide (pls_txt HGD.out)
            have hpn : pls s ≠ [] := by intro e; have := HPL.out; rw [e] at this; simp at this; omega
            have HPN := hide hpn
            clear hpn
            go_wp2_with fail
            refine (text_good_good _ (pls s) _ HSP HPW.out HPN.out).mono ?_
            rintro x wT ⟨rfl, hbT⟩
            rw [HPT2.out]
            have hBT := bcat hBN hbT hBN.size
            have hbT2 := balloc wT (.cells #[.int .i64 0, .int .i64 0] 26)
            have hBT2 := bcat hBT hbT2 hBT.size
            obtain ⟨_, t0, t1, _, _, _, _⟩ := Two.new wT
            go_wp2
            go_ret
            exact ⟨rfl, hBT2⟩

end Go.Proofs.Ytakmfhnigpmngaa
