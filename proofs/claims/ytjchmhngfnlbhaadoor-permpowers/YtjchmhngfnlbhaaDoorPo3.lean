/- What SetString and the document's Digits read of a number's decimal digits. -/
import Derived.Test.YtjchmhngfnlbhaaDoorPo2
import Derived.Test.YtjchmhngfnlbhaaDoorDcm
namespace Go.Proofs.YtjchmhngfnlbhaaDoor
open Go Go.RowKit

/-- The byte at a place. -/
def bat (s : ByteArray) (k : Nat) : Nat := (s.toList[k]?.getD 0).toNat
theorem bat_eq (s : ByteArray) (k : Nat) (h : k < s.size) : (s[k]).toNat = bat s k := by
  unfold bat
  rw [ByteArray.toList_eq, List.getElem?_eq_getElem (by simpa using h)]
  rfl
/-- What the first k digits are worth. -/
def dv (s : ByteArray) : Nat → Nat
  | 0 => 0
  | k + 1 => dv s k * 10 + (bat s k - 48)
/-- What digits are worth. -/
def dvl (l : List UInt8) : Nat := l.foldl (fun a b => a * 10 + (b.toNat - 48)) 0
theorem dvl_snoc (l : List UInt8) (b : UInt8) : dvl (l ++ [b]) = dvl l * 10 + (b.toNat - 48) := by simp [dvl]
theorem dv_take (l : List UInt8) : ∀ k, k ≤ l.length → dv ⟨l.toArray⟩ k = dvl (l.take k)
  | 0, _ => by simp [dv, dvl]
  | k + 1, h => by
    have hb : bat ⟨l.toArray⟩ k = (l[k]?.getD 0).toNat := by unfold bat; rw [ByteArray.toList_eq]
    rw [dv, dv_take l k (by omega), List.take_succ_eq_append_getElem (by omega), dvl_snoc, hb, List.getElem?_eq_getElem (by omega)]; rfl
theorem dig_nat (r : Nat) (h : r < 10) : (UInt8.ofNat (48 + r)).toNat = 48 + r := by
  rw [UInt8.toNat_ofNat']; omega
theorem dgv_val (n : Nat) : dvl (Lib.decDigits n) = n := by
  induction n using Nat.strongRecOn with
  | _ n ih =>
    by_cases h : n < 10
    · rw [Lib.decDigits_one h]
      show 0 * 10 + ((UInt8.ofNat (48 + n)).toNat - 48) = n
      rw [dig_nat n h]; omega
    · rw [dec_step h, dvl_snoc, ih (n / 10) (by omega), dig_nat _ (by omega)]; omega
theorem dec_dig (n : Nat) : ∀ b, b ∈ Lib.decDigits n → 48 ≤ b.toNat ∧ b.toNat ≤ 57 := by
  induction n using Nat.strongRecOn with
  | _ n ih =>
    intro b hb
    by_cases h : n < 10
    · rw [Lib.decDigits_one h] at hb
      simp only [List.mem_singleton] at hb
      subst hb
      rw [dig_nat n h]; omega
    · rw [dec_step h] at hb
      rcases List.mem_append.1 hb with hb | hb
      · exact ih (n / 10) (by omega) b hb
      · simp only [List.mem_singleton] at hb
        subst hb
        rw [dig_nat _ (by omega)]; omega
theorem dec_head (n : Nat) (hn : 0 < n) : ((Lib.decDigits n)[0]?.getD 0).toNat ≠ 48 := by
  induction n using Nat.strongRecOn with
  | _ n ih =>
    by_cases h : n < 10
    · rw [Lib.decDigits_one h]
      show (UInt8.ofNat (48 + n)).toNat ≠ 48
      rw [dig_nat n h]; omega
    · rw [dec_step h, List.getElem?_append_left (dec_pos _)]
      exact ih (n / 10) (by omega) (by omega)
/-- A text of digits. -/
structure Dig (s : ByteArray) : Prop where
  pos : 0 < s.size
  len : s.size ≤ 20000
  dig : ∀ k, k < s.size → 48 ≤ bat s k ∧ bat s k ≤ 57
  head : bat s 0 ≠ 48
theorem Dig.of_dec {n : Nat} (hn : 0 < n) (hl : (Lib.decDigits n).length ≤ 20000) : Dig ⟨(Lib.decDigits n).toArray⟩ ∧ dv ⟨(Lib.decDigits n).toArray⟩ (⟨(Lib.decDigits n).toArray⟩ : ByteArray).size = n := by
  have hb : ∀ k, bat ⟨(Lib.decDigits n).toArray⟩ k = ((Lib.decDigits n)[k]?.getD 0).toNat := fun k => by unfold bat; rw [ByteArray.toList_eq]
  have hs : (⟨(Lib.decDigits n).toArray⟩ : ByteArray).size = (Lib.decDigits n).length := by show (Lib.decDigits n).toArray.size = _; simp
  refine ⟨⟨by rw [hs]; exact dec_pos n, by rw [hs]; exact hl, fun k hk => ?_, by rw [hb]; exact dec_head n hn⟩, ?_⟩
  · rw [hs] at hk
    rw [hb, List.getElem?_eq_getElem hk]
    exact dec_dig n _ (List.getElem_mem hk)
  · rw [hs, dv_take _ _ (Nat.le_refl _), List.take_length, dgv_val]

set_option maxRecDepth 100000 in
set_option maxHeartbeats 8000000 in
theorem setString_ok (bz : Nat) (s : ByteArray) (z1 z2 : Value) (w : World) (hZ : Blk w bz 57 [z1, z2]) (hs : Dig s) :
    Calls Tryd.prog 65 #[.pointer (some ⟨bz, 0, none⟩), .string s, .int .i64 10] w fun e w' => e = .returned (.tuple #[.pointer (some ⟨bz, 0, none⟩), .bool true]) ∧ BigZ w' bz (dv s s.size : Nat) 80000 ∧ ∀ B, B ≤ bz → B ≤ w.heap.size → Below B w w' := by
  obtain ⟨hp, hl, hd, _⟩ := hs
  have hzl := hZ.lt
  have HZ := hide hZ
  have HBE := hide (bat_eq s)
  have HD := hide hd
  have h0 := bat_eq s 0 hp
  have hd0 := hd 0 hp
  obtain ⟨b0, hb0⟩ : ∃ b0, bat s 0 = b0 := ⟨_, rfl⟩
  rw [hb0] at h0 hd0
  have h45 : ((b0 : Int) == 45) = false := by simp; omega
  have h43 : ((b0 : Int) == 43) = false := by simp; omega
  have hpi : (0 : Int) < (s.size : Int) := by omega
  have hpn : ¬ (s.size : Int) = 0 := by omega
  have hpb : ((s.size : Int) == 0) = false := by rw [beq_eq_false_iff_ne]; omega
  have hpn2 : ¬ s.size = 0 := by omega
  have hsl : (s.size : Int) ≤ 20000 := by omega
  have HB0 := hide hb0
  clear hZ hd hd0 hb0
  go_enter Tryd.func65, Tryd.ntmps65
  go_wp2
  go_loopw [9, 10] (fun r i wr => ∃ (k : Nat) (ws : List Nat), k ≤ s.size ∧ i = .int .i64 k ∧ WSl wr r ws ∧ Can ws ∧ wv ws = dv s k ∧ ws.length ≤ 4 * k ∧ Below w.heap.size w wr) (fun _ i _ => s.size - (intOf i).toNat)
  case atStart => exact ⟨0, [], Nat.zero_le _, rfl, WSl.nil _, ⟨by simp, by simp⟩, by simp [wv, dv], by simp, Below.refl _ _⟩
  case round =>
    obtain ⟨k, ws, hk, rfl, hw, hc, hv, hwl, hB⟩ := hrel
    by_cases hlt : k < s.size
    · have hbk := HBE.out k hlt
      have hdk := HD.out k hlt
      have hki : (k : Int) < (s.size : Int) := by omega
      obtain ⟨b, hb⟩ : ∃ b, bat s k = b := ⟨_, rfl⟩
      rw [hb] at hbk hdk
      obtain ⟨d, hbd⟩ : ∃ d, b = 48 + d := ⟨b - 48, by omega⟩
      have hd9 : d ≤ 9 := by omega
      have hnext : dv s (k + 1) = dv s k * 10 + d := by rw [dv, hb]; omega
      have hge48 : (48 : Int) ≤ (b : Int) := by omega
      have hle57 : (b : Int) ≤ 57 := by omega
      have hsub : (b : Int) - 48 = (d : Int) := by omega
      have hw8 : IntKind.u8.wrap (d : Int) = (d : Int) := by rw [IntKind.wrap_u8]; omega
      have hwi : IntKind.i64.wrap (d : Int) = (d : Int) := by rw [IntKind.wrap_i64]; omega
      have hwu : IntKind.u64.wrap (d : Int) = (d : Int) := by rw [IntKind.wrap_u64]; omega
      have hd10 : ¬ (10 : Int) ≤ (d : Int) := by omega
      have HN := hide (And.intro hnext (And.intro hv (And.intro hwl (And.intro hc hB))))
      obtain ⟨ra, rc, rfl⟩ := hw.shape
      clear hb hbd hdk hnext hv hwl hc hB
      go_wp2_with fail
      refine (words_ok 10 wr (by omega)).mono ?_
      rintro e w1 ⟨⟨r1, ws1, rfl, h1, hc1, hv1, hl1⟩, hb1⟩
      obtain ⟨a1, c1, rfl⟩ := h1.shape
      have HV1 := hide (And.intro hc1 (And.intro hv1 hl1))
      clear hc1 hv1 hl1
      go_wp2_with fail
      refine (mul_w _ _ ws ws1 w1 (hw.below hb1) h1 HN.out.2.2.2.1.lt HV1.out.1.lt (by have := HN.out.2.2.1; have := HV1.out.2.2; omega)).mono ?_
      rintro e w2 ⟨⟨r2, ws2, rfl, h2, hc2, hv2, hl2⟩, hb2⟩
      obtain ⟨a2, c2, rfl⟩ := h2.shape
      have HV2 := hide (And.intro hc2 (And.intro hv2 hl2))
      clear hc2 hv2 hl2
      go_wp2_with fail
      refine (words_ok d w2 (by omega)).mono ?_
      rintro e w3 ⟨⟨r3, ws3, rfl, h3, hc3, hv3, hl3⟩, hb3⟩
      obtain ⟨a3, c3, rfl⟩ := h3.shape
      have HV3 := hide (And.intro hc3 (And.intro hv3 hl3))
      clear hc3 hv3 hl3
      go_wp2_with fail
      refine (add_w _ _ ws2 ws3 w3 (h2.below hb3) h3 HV2.out.1.lt HV3.out.1.lt (by have := HN.out.2.2.1; have := HV1.out.2.2; have := HV2.out.2.2; have := HV3.out.2.2; omega)).mono ?_
      rintro e w4 ⟨⟨r4, ws4, rfl, h4, hc4, hv4, hl4⟩, hb4⟩
      obtain ⟨hn1, hn2, hn3, hn4, hn5⟩ := HN.out
      have e1 : wv ws4 = dv s (k + 1) := by rw [hv4, HV2.out.2.1, HV3.out.2.1, HV1.out.2.1, hn2, hn1]
      have e2 : ws4.length ≤ 4 * (k + 1) := by have := HV1.out.2.2; have := HV2.out.2.2; have := HV3.out.2.2; omega
      have e3 : Below w.heap.size w w4 := bcat2 hn5 (bcat2 hb1 (bcat2 hb2 (bcat2 hb3 hb4)))
      have HE := hide (And.intro h4 (And.intro hc4 (And.intro e1 (And.intro e2 e3))))
      clear hv4 hl4 hc4 hn1 hn2 hn3 hn4 hn5 e1 e2 e3 hb1 hb2 hb3 hb4
      go_wp2
      go_roundw
      case rel => exact ⟨k + 1, ws4, by omega, by go_num, HE.out⟩
      case measure => simp [intOf]; omega
    · obtain rfl : k = s.size := by omega
      have hni : ¬ (s.size : Int) < (s.size : Int) := by omega
      have hZr : Blk wr bz 57 [z1, z2] ∨ True := .inr trivial
      obtain ⟨ra, rc, rfl⟩ := hw.shape
      have HV := hide (And.intro hc (And.intro hv hwl))
      have hzz : bz < w.heap.size := hzl
      have hZ2 : Blk wr bz 57 [z1, z2] := HZ.out.of_eq (hB.block _ hzz)
      clear hc hv hwl hZr
      go_wp2_with fail
      refine (give_ok bz false z1 z2 _ ws wr hZ2 hw).mono ?_
      rintro e w1 ⟨rfl, h1, hg1⟩
      have hfin := BigZ.given hZ2 h1 hg1 hw HV.out.1 (m := 80000) (by have := HV.out.2.2; omega) (z := ((dv s s.size : Nat) : Int)) (by rw [HV.out.2.1]; simp)
      have HF := hide (And.intro hfin (fun (B : Nat) (c1 : B ≤ bz) (c2 : B ≤ w.heap.size) => (show Below B w w1 from (hB.mono c2).grown hg1 (by have := hB.size; omega) (fun j e => by cases e; exact c1))))
      clear hfin h1
      go_wp2
      go_ret2
      exact ⟨rfl, HF.out⟩

set_option maxRecDepth 100000 in
set_option maxHeartbeats 8000000 in
theorem digits_ok (s : ByteArray) (w : World) (hs : Dig s) :
    Calls Tryd.prog 35 #[.string s] w fun e w' => (∃ b, e = .returned (.tuple #[.pointer (some ⟨b, 0, none⟩), .bool true]) ∧ BigZ w' b (dv s s.size : Nat) 80000) ∧ Below w.heap.size w w' := by
  have HS := hide hs
  obtain ⟨hp, hl, hd, hh⟩ := hs
  have HBE := hide (bat_eq s)
  have HD := hide hd
  have h0 := bat_eq s 0 hp
  obtain ⟨b0, hb0⟩ : ∃ b0, bat s 0 = b0 := ⟨_, rfl⟩
  rw [hb0] at h0 hh
  have h48 : ((b0 : Int) == 48) = false := by simp; omega
  have hpi : (0 : Int) < (s.size : Int) := by omega
  have hpn : ¬ (s.size : Int) = 0 := by omega
  have hpb : ((s.size : Int) == 0) = false := by rw [beq_eq_false_iff_ne]; omega
  have hpn2 : ¬ s.size = 0 := by omega
  have hsl : (s.size : Int) ≤ 20000 := by omega
  have hsl2 : ¬ (20000 : Int) < (s.size : Int) := by omega
  have hse : (s.toList == []) = false := by
    rw [beq_eq_false_iff_ne]
    intro e
    have : s.toList.length = s.size := by rw [ByteArray.toList_eq]; simp
    rw [e] at this; simp at this; omega
  have hse2 : s.toList ≠ [] := by simpa using hse
  have HB0 := hide hb0
  clear hd hb0 hh
  go_enter Tryd.func35, Tryd.ntmps35
  by_cases h1 : (1 : Int) < (s.size : Int)
  · have h1d : decide ((1 : Int) < (s.size : Int)) = true := decide_eq_true h1
    go_wp2
    go_loopw [4] (fun i wr => ∃ k : Nat, k ≤ s.size ∧ i = .int .i64 k ∧ wr = w) (fun i _ => s.size - (intOf i).toNat)
    case atStart => exact ⟨0, Nat.zero_le _, rfl, rfl⟩
    case round =>
      obtain ⟨k, hk, rfl, rfl⟩ := hrel
      by_cases hlt : k < s.size
      · have hbk := HBE.out k hlt
        have hdk := HD.out k hlt
        have hki : (k : Int) < (s.size : Int) := by omega
        obtain ⟨b, hb⟩ : ∃ b, bat s k = b := ⟨_, rfl⟩
        rw [hb] at hbk hdk
        have hge48 : ¬ (b : Int) < 48 := by omega
        have hle57 : ¬ (57 : Int) < (b : Int) := by omega
        have HBB := hide hb
        clear hb hdk
        go_wp2
        go_roundw
        case rel => exact ⟨k + 1, by omega, by go_num, by first | rfl | trivial⟩
        case measure => simp [intOf]; omega
      · obtain rfl : k = s.size := by omega
        have hni : ¬ (s.size : Int) < (s.size : Int) := by omega
        have hb1 : Below wr.heap.size wr (wr.alloc (.cells #[.bool false, .slice none 0 0] 57)) := balloc wr _
        go_wp2_with fail
        refine (setString_ok wr.heap.size s _ _ _ (World.alloc_heap_new wr (.cells #[.bool false, .slice none 0 0] 57)) HS.out).mono ?_
        rintro e w1 ⟨rfl, hz, hB⟩
        have HF := hide (And.intro hz (hb1.trans (hB wr.heap.size (Nat.le_refl _) (by simp))))
        clear hz hB hb1
        go_wp2
        go_ret2
        exact ⟨⟨_, rfl, HF.out.1⟩, HF.out.2⟩
  · have h1d : decide ((1 : Int) < (s.size : Int)) = false := decide_eq_false h1
    go_wp2
    go_loopw [4] (fun i wr => ∃ k : Nat, k ≤ s.size ∧ i = .int .i64 k ∧ wr = w) (fun i _ => s.size - (intOf i).toNat)
    case atStart => exact ⟨0, Nat.zero_le _, rfl, rfl⟩
    case round =>
      obtain ⟨k, hk, rfl, rfl⟩ := hrel
      by_cases hlt : k < s.size
      · have hbk := HBE.out k hlt
        have hdk := HD.out k hlt
        have hki : (k : Int) < (s.size : Int) := by omega
        obtain ⟨b, hb⟩ : ∃ b, bat s k = b := ⟨_, rfl⟩
        rw [hb] at hbk hdk
        have hge48 : ¬ (b : Int) < 48 := by omega
        have hle57 : ¬ (57 : Int) < (b : Int) := by omega
        have HBB := hide hb
        clear hb hdk
        go_wp2
        go_roundw
        case rel => exact ⟨k + 1, by omega, by go_num, by first | rfl | trivial⟩
        case measure => simp [intOf]; omega
      · obtain rfl : k = s.size := by omega
        have hni : ¬ (s.size : Int) < (s.size : Int) := by omega
        have hb1 : Below wr.heap.size wr (wr.alloc (.cells #[.bool false, .slice none 0 0] 57)) := balloc wr _
        go_wp2_with fail
        refine (setString_ok wr.heap.size s _ _ _ (World.alloc_heap_new wr (.cells #[.bool false, .slice none 0 0] 57)) HS.out).mono ?_
        rintro e w1 ⟨rfl, hz, hB⟩
        have HF := hide (And.intro hz (hb1.trans (hB wr.heap.size (Nat.le_refl _) (by simp))))
        clear hz hB hb1
        go_wp2
        go_ret2
        exact ⟨⟨_, rfl, HF.out.1⟩, HF.out.2⟩
end Go.Proofs.YtjchmhngfnlbhaaDoor
