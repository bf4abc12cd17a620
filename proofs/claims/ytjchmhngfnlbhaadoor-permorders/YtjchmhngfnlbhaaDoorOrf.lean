/- What the document's OrderOf and SignOf answer at a permutation of at most 1000 points. -/
import Derived.Test.YtjchmhngfnlbhaaDoorBz
import Derived.Test.YtjchmhngfnlbhaaDoorSho
import Derived.Test.YtjchmhngfnlbhaaDoorSgl
namespace Go.Proofs.YtjchmhngfnlbhaaDoor
open Go Go.RowKit

theorem shape_pos {zs : List Int} (hp : IsPerm zs) {k : Nat} (h : k ∈ shape zs) : 0 < k ∧ k ≤ zs.length := lens_pos hp ((shL_perm (lens zs)).mem_iff.1 h)

set_option maxRecDepth 100000 in
set_option maxHeartbeats 8000000 in
theorem orderOf_ok (u : Value) (zs : List Int) (w : World) (hu : Sl w u zs) (hperm : IsPerm zs) (hl : zs.length ≤ 1000) :
    Calls Tryd.prog 22 #[u] w fun e w' => (∃ b m, e = .returned (.pointer (some ⟨b, 0, none⟩)) ∧ BigZ w' b ((lcmL (shape zs) : Nat) : Int) m ∧ m ≤ 4002) ∧ Below w.heap.size w w' := by
  have h0 := hu.psz
  obtain ⟨ua, uc, rfl⟩ := hu.shp
  have hsl : (shape zs).length ≤ 1000 := by rw [shape_len]; exact Nat.le_trans (cyc_len zs) hl
  have hsp : ∀ k, k ∈ shape zs → 0 < k ∧ k ≤ 1000 := fun k h => by have := shape_pos hperm h; omega
  have HS := hide (shapeOf_ok (.slice ua zs.length uc) zs w hu hperm hl)
  obtain ⟨s, hs⟩ : ∃ s, shape zs = s := ⟨_, rfl⟩
  rw [hs] at hsl hsp HS ⊢
  clear hs hu hperm hl
  go_enter Tryd.func22, Tryd.ntmps22
  go_wp2_with fail
  refine HS.out.mono ?_
  rintro e w1 ⟨r, rfl, hr, hb1⟩
  have hr1 := pts_sl hr (by have := hb1.size; omega)
  obtain ⟨a, cap, pb, po, rfl, hrd, hpb, _, _⟩ := id hr1
  have hnl : (nz s).length = s.length := by simp [nz]
  rw [hnl]
  have HNL := hide hnl
  have HHR := hide hr
  clear hr hr1 HS hnl
  go_wp2_with fail
  refine (big_ok 1 w1 (by omega) (by omega)).mono ?_
  rintro e w2 ⟨⟨b1, rfl, hbs, hone⟩, hb2⟩
  have hrd2 := hrd.below hb2 hpb
  have hB2 := bcat2 hb1 hb2
  have hpb2 : pb < w2.heap.size := by have := hb2.size; omega
  clear hrd hb1 hb2
  go_wp2
  go_loopw [4, 5] (fun pv iv wr => ∃ b i m : Nat, i ≤ s.length ∧ iv = .int .i64 i ∧ pv = .pointer (some ⟨b, 0, none⟩) ∧ BigZ wr b ((lcmL (s.take i) : Nat) : Int) m ∧ m ≤ 2 + 4 * i ∧ Below w2.heap.size w2 wr)
    (fun _ iv _ => s.length - (intOf iv).toNat)
  case atStart => exact ⟨b1, 0, 2, Nat.zero_le _, rfl, rfl, hone, by omega, Below.refl _ _⟩
  case round =>
    obtain ⟨b, i, m, hi, rfl, rfl, hn, hm, hB⟩ := hrel
    clear hone
    by_cases hlt : i < s.length
    · obtain rfl := hrd2.at_ (by rw [HNL.out]; omega)
      have hci := (hrd2.below hB hpb2).cell i (by rw [HNL.out]; exact hlt)
      obtain ⟨c, hc⟩ : ∃ c, s[i]?.getD 0 = c := ⟨_, rfl⟩
      have hcp := hsp c (by rw [← hc]; exact getD_mem hlt)
      have hnz : (nz s)[i]?.getD 0 = (c : Int) := by rw [← hc]; simp [nz, List.getElem?_eq_getElem hlt]
      rw [hnz] at hci
      have htk : lcmL (s.take (i + 1)) = Nat.lcm (lcmL (s.take i)) c := by
        rw [List.take_succ_eq_append_getElem hlt, lcmL_snoc]
        rw [← hc, List.getElem?_eq_getElem hlt]; rfl
      have hnp : 0 < lcmL (s.take i) := lcmL_pos (fun k hk => (hsp k (List.mem_of_mem_take hk)).1)
      obtain ⟨n, hnn⟩ : ∃ n, lcmL (s.take i) = n := ⟨_, rfl⟩
      rw [hnn] at hn htk hnp
      have HTK := hide htk
      have HLT := hide hlt
      have hlti : (i : Int) < (s.length : Int) := by omega
      have hsli : (s.length : Int) ≤ 1000 := by omega
      clear hc hnz htk hnn hlt
      go_wp2_with fail
      refine (big_ok (c : Int) wr (by omega) (by omega)).mono ?_
      rintro e w3 ⟨⟨kb, rfl, hkb, hk⟩, hb3⟩
      have hn3 := hn.below hb3
      have hB3 := bcat2 hB hb3
      have hn3l := hn3.lt
      have hk3l := hk.lt
      have hb7 : Below w3.heap.size w3 ((w3.alloc (.cells #[.bool false, .slice none 0 0] 57)).alloc (.cells #[.bool false, .slice none 0 0] 57)) := (balloc w3 _).alloc (by simp) _
      have hz7 : Blk ((w3.alloc (.cells #[.bool false, .slice none 0 0] 57)).alloc (.cells #[.bool false, .slice none 0 0] 57)) w3.heap.size 57 [.bool false, .slice none 0 0] := Blk.alloc (World.alloc_heap_new w3 _) _
      have hr7 : Blk ((w3.alloc (.cells #[.bool false, .slice none 0 0] 57)).alloc (.cells #[.bool false, .slice none 0 0] 57)) (w3.heap.size + 1) 57 [.bool false, .slice none 0 0] := by
        have := World.alloc_heap_new (w3.alloc (.cells #[.bool false, .slice none 0 0] 57)) (.cells #[.bool false, .slice none 0 0] 57); rw [World.size_alloc] at this; exact this
      have HM := hide (zmul_ok (w3.heap.size + 1) b kb m 2 (n : Int) (c : Int) _ _ _ hr7 (hn3.below hb7) (hk.below hb7) (by omega) (by omega))
      have HS7 : Hid (((w3.alloc (.cells #[.bool false, .slice none 0 0] 57)).alloc (.cells #[.bool false, .slice none 0 0] 57)).heap.size = w3.heap.size + 2) := hide (by simp)
      have HT := hide (And.intro (hn3.below hb7) (And.intro (hk.below hb7) (And.intro hz7 hr7)))
      have HB7 := hide hb7
      clear hb7 hz7 hr7 hn hn3 hk
      go_wp2_with fail
      refine HM.out.mono ?_
      rintro e w4 ⟨rfl, hm4, hg4⟩
      have hz4 : Blk w4 w3.heap.size 57 [.bool false, .slice none 0 0] := HT.out.2.2.1.grown hg4 (by simp)
      have hn4 := BigZ.other HT.out.1 HT.out.2.2.2 hg4 (by omega)
      have hk4 := BigZ.other HT.out.2.1 HT.out.2.2.2 hg4 (by omega)
      have hz9 := hg4.size
      rw [HS7.out] at hz9
      have hb4 : Below w3.heap.size w3 w4 := HB7.out.grown hg4 (by rw [HS7.out]; omega) (fun j e => by cases e; omega)
      rw [← Int.natCast_mul] at hm4
      have hb8 : Below w4.heap.size w4 (w4.alloc (.cells #[.bool false, .slice none 0 0] 57)) := balloc w4 _
      have HG := hide (gcd_ok w4.heap.size b kb (m + 2) n c _ _ _ (World.alloc_heap_new w4 _) ((hn4.below hb8).mono (by omega)) ((hk4.below hb8).mono (by omega)) hnp hcp.1 hcp.2 (by have := HLT.out; omega))
      have HS8 : Hid ((w4.alloc (.cells #[.bool false, .slice none 0 0] 57)).heap.size = w4.heap.size + 1) := hide (by simp)
      have HB8 := hide hb8
      have HX := hide (And.intro hz4 hm4)
      clear hb8 hz4 hm4 hn4 hk4 HM HT
      have hgp : 0 < Nat.gcd n c := Nat.gcd_pos_of_pos_left _ hnp
      have hgl : Nat.gcd n c ≤ c := Nat.gcd_le_right _ hcp.1
      obtain ⟨gd, hgd⟩ : ∃ gd, Nat.gcd n c = gd := ⟨_, rfl⟩
      have hlcm : Nat.lcm n c = n * c / gd := by rw [← hgd]; rfl
      rw [hgd] at HG hgp hgl
      obtain ⟨nc, hnc⟩ : ∃ nc, n * c = nc := ⟨_, rfl⟩
      rw [hnc] at HX hlcm
      have HLCM := hide hlcm
      clear hgd hnc hlcm
      go_wp2_with fail
      refine HG.out.mono ?_
      rintro e w5 ⟨rfl, hg5, hb5⟩
      have hb9 : Below w4.heap.size w4 w5 := HB8.out.trans (hb5 w4.heap.size (Nat.le_refl _) (by rw [HS8.out]; omega))
      have hz5 : Blk w5 w3.heap.size 57 [.bool false, .slice none 0 0] := HX.out.1.of_eq (hb9.block _ HX.out.1.lt)
      have hm5 := HX.out.2.below hb9
      have hb95 := hb9.size
      go_wp2_with fail
      refine (quo_ok w3.heap.size (w3.heap.size + 1) w4.heap.size (m + 2) _ nc gd _ _ w5 hz5 hm5 hg5 hgp (by omega) (by omega)).mono ?_
      rintro e w6 ⟨rfl, hq6, hb6⟩
      have hb10 : Below w3.heap.size w3 w6 := (hb4.trans (hb9.mono (by omega))).trans (hb6 w3.heap.size (Nat.le_refl _) (by omega))
      have hBf := bcat2 hB3 hb10
      go_wp2
      go_roundw
      case rel => exact ⟨_, i + 1, m + 2 + 2, by have := HLT.out; omega, by go_num, rfl, by rw [HTK.out, HLCM.out]; exact hq6, by omega, hBf⟩
      case measure => have := HLT.out; simp [intOf]; omega
    · have hii : i = s.length := by omega
      subst hii
      rw [List.take_length] at hn
      go_wp2
      go_ret
      exact ⟨⟨_, _, rfl, hn, by omega⟩, bcat2 hB2 hB⟩
end Go.Proofs.YtjchmhngfnlbhaaDoor
