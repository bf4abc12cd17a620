/- The law TablePerms where a list is no permutation. No condition. -/
import Derived.Test.YtgphcfmiamiojaaTp1
namespace Go.Proofs.Ytgphcfmiamiojaa
open Go Go.RowKit
open Pm

set_option maxRecDepth 100000 in
set_option maxHeartbeats 8000000 in
theorem law_bad (v : Value) (l : List (List Int)) (w : World) (hv : ∀ W, Below w.heap.size w W → 0 < W.heap.size → SlL W v l) (hb : ∀ p, p ∈ l → p.length * 8 ≤ 140737488355328) (hll : l.length ≤ 1000) (hmf : (mfault l).1 ≠ 0) (hsz : ¬ (l.length < 1 ∨ 20 < l.length)) :
    Calls Try.prog 3 #[v] w fun e w' => e = .returned (.bool true) ∧ Below w.heap.size w w' := by
  go_enter Try.func3, Try.ntmps3
  go_wp2_with fail
  refine (begun_any _).mono ?_
  rintro e w1 ⟨rfl, hb1, hp1⟩
  have hv1 := hv w1 hb1 hp1
  obtain ⟨a, cap, pb, po, rfl, h0, hc, hpl, hc1, hc2⟩ := id hv1
  have HV := hide (And.intro hv1 hb1)
  have HBD := hide hb
  have HC := hide (And.intro h0 hc)
  have hlli : ¬ (1000 : Int) < (l.length : Int) := by omega
  have hlld : decide ((1000 : Int) < (l.length : Int)) = false := decide_eq_false hlli
  have hcm : cap ≤ 9223372036854775807 := by unfold maxLen at hc2; omega
  clear hv hv1 hb h0 hc hc2
  go_wp2
  clear hlld
  go_loopw [3, 4] (fun x i wr => ∃ (k : Nat) (vs : List Value), k ≤ l.length ∧ i = .int .i64 k ∧ Qs wr w1.heap.size x vs ∧ Rws wr vs (l.take k) ∧ Below w1.heap.size w1 wr) (fun _ i _ => l.length - (intOf i).toNat)
  case atStart => exact ⟨0, [], Nat.zero_le _, rfl, .inl ⟨rfl, rfl⟩, Rws.nil _, Below.refl _ _⟩
  case round =>
    obtain ⟨k, vs, hk, rfl, hq, hr, hB⟩ := hrel
    obtain ⟨xa, xc, hxe⟩ := hq.shape
    subst hxe
    have hvl : vs.length = k := by rw [hr.1, List.length_take]; omega
    rw [hvl] at hq ⊢
    by_cases hlt : k < l.length
    · have hki : (k : Int) < (l.length : Int) := by omega
      obtain ⟨y, hyc, hys⟩ := HC.out.2 k hlt
      obtain rfl := HC.out.1 (by omega)
      have hyc2 := below_cell hB hyc
      have hbd := HBD.out (l[k]?.getD []) (by rw [List.getElem?_eq_getElem hlt]; exact List.getElem_mem _)
      have HO := hide (own_any y (l[k]?.getD []) wr (hys.below hB) hbd)
      have HQ := hide (And.intro hq (And.intro hr hB))
      clear hyc hys hbd hq hr hB
      go_wp2_with fail
      refine HO.out.mono ?_
      rintro e w2 ⟨r, rfl, hrow, hb2⟩
      obtain ⟨hq, hr, hB⟩ := HQ.out
      have hrf : RowF w2 r (l[k]?.getD []) := Row.rowF (show Row w2 wr.heap.size r (l[k]?.getD []) from hrow)
      have hq2 := hq.keep (W' := w2) (fun g hg => by obtain ⟨_, cur, hcc⟩ := hq.ge hg; exact hb2.block g hcc.lt)
      have hr2 := hr.keep (T3.below hb2)
      have hbase : w1.heap.size ≤ w2.heap.size := Nat.le_trans hB.size hb2.size
      obtain ⟨r5, W5, hrun, hq5, hr5, ⟨ra5, rc5, hr5e⟩, hB5, ht5, hk5⟩ := push_qs w2 w1.heap.size _ r vs (l.take k) (l[k]?.getD []) hq2 hr2 hbase hrf (by rw [List.length_take]; omega)
      obtain ⟨rr, rn, rc, rfl⟩ : ∃ ra n c, r = .slice ra n c := by obtain ⟨a9, c9, e⟩ := hrf.shape; exact ⟨_, _, _, e⟩
      have hsn : l.take (k + 1) = l.take k ++ [l[k]?.getD []] := by rw [List.take_succ_eq_append_getElem hlt, List.getElem?_eq_getElem hlt]; rfl
      have hkw : Below w1.heap.size w1 W5 := (bcat2 hB hb2).trans hB5
      rw [List.length_take, Nat.min_eq_left hk] at hr5e
      subst hr5e
      have HF := hide (And.intro hq5 (And.intro (show Rws W5 _ (l.take (k + 1)) by rw [hsn]; exact hr5) hkw))
      clear hq hr hB hrow hrf hq2 hr2 hq5 hr5 hB5 ht5 hk5 hkw hyc2 hsn hb2
      go_wp2_with (at_builtin; refine Lib.wpList_append_run _ rfl _ _ _ _ rfl _ _ rfl rfl _ _ (hrun _) ?_)
      go_roundw
      case rel => exact ⟨k + 1, _, by omega, by go_num, HF.out⟩
      case measure => simp [intOf]; omega
    · have hkk : k = l.length := by omega
      subst hkk
      have hki : ¬ (l.length : Int) < (l.length : Int) := by omega
      rw [List.take_length] at hr
      have hsx := hr.slL hq (by have := hB.size; omega)
      have hPB := perms_bad _ l wr hsx (fun p hp => by have := HBD.out p hp; unfold maxLen; omega) hmf
      obtain ⟨c, d, hcd⟩ : ∃ c d, mfault l = (c, d) := ⟨_, _, rfl⟩
      rw [hcd] at hPB hmf
      have HPB := hide hPB
      have HQ := hide (And.intro hsx hB)
      clear hq hr hB hsx hPB
      go_wp2_with fail
      refine HPB.out.mono ?_
      rintro e w2 ⟨rfl, hb2⟩
      unfold noG
      have hWw2 : Below w.heap.size w w2 := bcat (bcat HV.out.2 HQ.out.2 HV.out.2.size) hb2 (Nat.le_trans HV.out.2.size HQ.out.2.size)
      obtain ⟨w3, hw3⟩ : ∃ w3, w3 = ((w2.alloc (.cells #[.int .i64 0, .slice none 0 0] 27)).alloc (.cells #[.int .i64 c, .int .i64 d] 29)).alloc (.cells #[.int .i64 0, .int .i64 0] 29) := ⟨_, rfl⟩
      have hA3 : Below w2.heap.size w2 w3 := by rw [hw3]; exact (((balloc w2 _).alloc (by simp) _).alloc (by simp; omega) _)
      have hG3 : Blk w3 w2.heap.size 27 [.int .i64 0, .slice none 0 0] := by rw [hw3]; exact ((blk0 _ _).alloc _).alloc _
      have hF3 : Blk w3 (w2.heap.size + 1) 29 [.int .i64 c, .int .i64 d] := by
        rw [hw3]
        have : Blk ((w2.alloc (.cells #[.int .i64 0, .slice none 0 0] 27)).alloc (.cells #[.int .i64 c, .int .i64 d] 29)) (w2.alloc (.cells #[.int .i64 0, .slice none 0 0] 27)).heap.size 29 [.int .i64 c, .int .i64 d] := blk0 _ _
        rw [World.size_alloc] at this; exact this.alloc _
      have hW3 : Blk w3 (w2.heap.size + 1 + 1) 29 [.int .i64 0, .int .i64 0] := by
        rw [hw3]
        have : Blk (((w2.alloc (.cells #[.int .i64 0, .slice none 0 0] 27)).alloc (.cells #[.int .i64 c, .int .i64 d] 29)).alloc (.cells #[.int .i64 0, .int .i64 0] 29)) ((w2.alloc (.cells #[.int .i64 0, .slice none 0 0] 27)).alloc (.cells #[.int .i64 c, .int .i64 d] 29)).heap.size 29 [.int .i64 0, .int .i64 0] := blk0 _ _
        rw [World.size_alloc, World.size_alloc] at this; exact this
      have hB3 : Below w.heap.size w w3 := bcat hWw2 hA3 hWw2.size
      have hxs3 := HQ.out.1.below (bcat2 hb2 hA3)
      have hvs3 := HV.out.1.below (bcat2 (bcat2 HQ.out.2 hb2) hA3)
      have hws2 := hWw2.size
      have HWw := hide (And.intro hWw2 (And.intro (HQ.out.1.below hb2) (And.intro (HV.out.1.below (bcat2 HQ.out.2 hb2)) (bcat2 HQ.out.2 hb2))))
      have hs1 : ¬ (l.length : Int) < 1 := by omega
      have hs2 : ¬ (20 : Int) < (l.length : Int) := by omega
      have HS := hide (And.intro hG3 (And.intro hF3 (And.intro hW3 hA3)))
      obtain ⟨y0, y1, fy0, fy1⟩ := hW3.two
      rw [hw3] at y0 y1 fy0 fy1
      clear hWw2 hA3 hG3 hF3 hW3 hB3 hxs3 hvs3 hb2 hki hlt
      go_wp2
      rw [← hw3]
      obtain ⟨hG5, hF5, hW5, hA5⟩ := HS.out
      clear y0 y1 fy0 fy1
      go_loopw [9] (fun iv wq => ∃ (k : Nat) (c1 d1 : Int), k ≤ l.length ∧ iv = .int .i64 k ∧ Blk wq (w2.heap.size + 1 + 1) 29 [.int .i64 c1, .int .i64 d1] ∧ Blk wq (w2.heap.size + 1) 29 [.int .i64 c, .int .i64 d] ∧ Blk wq w2.heap.size 27 [.int .i64 0, .slice none 0 0] ∧ Below w2.heap.size w2 wq ∧ ((c1 = 0 ∧ d1 = 0 ∧ mfault l = mfl l (l.length - k) k) ∨ (c1 ≠ 0 ∧ mfault l = (c1, d1)))) (fun iv _ => l.length - (intOf iv).toNat)
      case atStart => exact ⟨0, 0, 0, Nat.zero_le _, rfl, hW5, hF5, hG5, hA5, .inl ⟨rfl, rfl, by unfold mfault; rw [if_neg hsz]; rfl⟩⟩
      case round =>
        clear hW5 hF5 hG5 hA5 HS
        obtain ⟨k, c1, d1, hk, rfl, hW, hF, hG, hA, hst⟩ := hrel
        rcases hst with ⟨rfl, rfl, hst⟩ | ⟨hc1, hst⟩
        · by_cases hkl : k < l.length
          · have hki : (k : Int) < (l.length : Int) := by omega
            obtain ⟨w0, w1', fw0, fw1⟩ := hW.two
            obtain ⟨y, hyc, hys⟩ := HC.out.2 k hkl
            obtain ⟨z, hzc, hzs⟩ := HC.out.2 0 (by omega)
            obtain rfl := HC.out.1 (by omega)
            have hA1 : Below w1.heap.size w1 wr := bcat2 HWw.out.2.2.2 hA
            have cy := below_cell hA1 hyc
            obtain ⟨r, hr⟩ : ∃ r, l.length - k = r + 1 := ⟨l.length - k - 1, by omega⟩
            have hstep : mfault l = if (fault (l[k]?.getD [])).1 ≠ 0 then ((fault (l[k]?.getD [])).1, (k : Int)) else if (l[k]?.getD []).length ≠ (l[0]?.getD []).length then (8, (k : Int)) else mfl l (l.length - (k + 1)) (k + 1) := by
              rw [hst, hr, mfl, show l.length - (k + 1) = r by omega]
            obtain ⟨p, hp⟩ : ∃ p, l[k]?.getD [] = p := ⟨_, rfl⟩
            obtain ⟨q, hq⟩ : ∃ q, l[0]?.getD [] = q := ⟨_, rfl⟩
            rw [hp] at hys hstep
            rw [hq] at hzs hstep
            obtain ⟨ya, yc, _, _, rfl, _⟩ := id hys
            obtain ⟨za, zc, _, _, rfl, _⟩ := id hzs
            have cz : wr.cell? ⟨pb, po, none⟩ = some (.slice za q.length zc) := by simpa using below_cell hA1 hzc
            have HPF := hide (permFault_any _ p wr (hys.below hA1))
            have HZ := hide (And.intro cy cz)
            obtain ⟨c6, d6, hcd6⟩ : ∃ c6 d6, fault p = (c6, d6) := ⟨_, _, rfl⟩
            rw [hcd6] at HPF hstep
            have HST := hide hstep
            have HALL := hide (And.intro hW (And.intro hF (And.intro hG hA)))
            clear hst hr hstep hp hq hcd6 hW hF hG hA hyc hys hzc hzs hA1 cz
            go_wp2_with fail
            refine HPF.out.mono ?_
            rintro e w6 ⟨rfl, hb6⟩
            clear w0 w1' fw0 fw1 cy
            obtain ⟨w7, hw7⟩ : ∃ w7, w7 = w6.alloc (.cells #[.int .i64 c6, .int .i64 d6] 29) := ⟨_, rfl⟩
            have hT7 : Blk w7 w6.heap.size 29 [.int .i64 c6, .int .i64 d6] := by rw [hw7]; exact blk0 _ _
            have hb7 : Below wr.heap.size wr w7 := by rw [hw7]; exact hb6.alloc hb6.size _
            obtain ⟨hW, hF, hG, hA⟩ := HALL.out
            have hW7 := blk_below hW hb7
            have hF7 := blk_below hF hb7
            have hG7 := blk_below hG hb7
            have hA7 := bcat2 hA hb7
            have cy := below_cell hb7 HZ.out.1
            have cz := below_cell hb7 HZ.out.2
            obtain ⟨t0, t1, _, _⟩ := hT7.two
            obtain ⟨w0, w1', fw0, fw1⟩ := hW7.two
            have hs7 : w2.heap.size + 1 + 1 < w7.heap.size := hW7.lt
            have H7 := hide (And.intro hW7 (And.intro hF7 (And.intro hG7 hA7)))
            have hsz6 : wr.heap.size ≤ w6.heap.size := hb6.size
            have hsz8 : w2.heap.size + 1 + 1 < w6.heap.size := by have := hW.lt; omega
            rw [hw7] at t0 t1 cy cz w0 w1' fw0 fw1
            by_cases hc6 : c6 = 0
            · subst hc6
              by_cases hle : p.length = q.length
              · have hlei : (p.length : Int) = (q.length : Int) := by omega
                have hleb : ((p.length : Int) != (q.length : Int)) = false := by simp [hlei]
                have hst2 : mfault l = mfl l (l.length - (k + 1)) (k + 1) := by rw [HST.out, if_neg (by simp), if_neg (by simpa using hle)]
                have HF := hide hst2
                clear hW hF hG hA hW7 hF7 hG7 hA7 hT7 hb6 hb7 hle hlei hst2
                go_wp2
                go_quiet (fail)
                go_wp2
                rw [← hw7]
                go_roundw
                case rel => exact ⟨k + 1, 0, 0, by omega, by go_num, blk_drewN H7.out.1 _, blk_drewN H7.out.2.1 _, blk_drewN H7.out.2.2.1 _, bdrewN H7.out.2.2.2 _, .inl ⟨rfl, rfl, HF.out⟩⟩
                case measure => simp [intOf]; omega
              · have hleb : ((p.length : Int) != (q.length : Int)) = true := by simp; omega
                have hst2 : mfault l = (8, (k : Int)) := by rw [HST.out, if_neg (by simp), if_pos hle]
                have HF := hide hst2
                clear hW hF hG hA hW7 hF7 hG7 hA7 hT7 hb6 hb7 hle hst2
                go_wp2
                go_quiet (fail)
                go_wp2_with fail
                rw [← hw7]
                refine (f_any 8 k _).mono ?_
                rintro e w8 ⟨rfl, hb8'⟩
                have hb8 := undrewN hb8'
                clear w0 w1' fw0 fw1 t0 t1 cy cz hb8'
                obtain ⟨hW7, hF7, hG7, hA7⟩ := H7.out
                have hW8 := blk_below hW7 hb8
                have hF8 := blk_below hF7 hb8
                have hG8 := blk_below hG7 hb8
                have hA8 := bcat2 hA7 hb8
                obtain ⟨w0, w1', fw0, fw1⟩ := hW8.two
                have H8 := hide (putW3 hW8 hF8 hG8 hA8 (.int .i64 8) (.int .i64 k))
                clear hW7 hF7 hG7 hA7 hW8 hF8 hG8 hA8 hb8
                go_wp2
                go_roundw
                case rel => exact ⟨k + 1, 8, k, by omega, by go_num, H8.out.1, H8.out.2.1, H8.out.2.2.1, H8.out.2.2.2, .inr ⟨by decide, HF.out⟩⟩
                case measure => simp [intOf]; omega
            · have hcb : (c6 != 0) = true := by simpa using hc6
              have hst2 : mfault l = (c6, (k : Int)) := by rw [HST.out, if_pos hc6]
              have HF := hide hst2
              have HFA := hide (f_any c6 k w7)
              clear hW hF hG hA hW7 hF7 hG7 hA7 hT7 hb6 hb7 hst2
              go_wp2_with fail
              rw [← hw7]
              refine HFA.out.mono ?_
              rintro e w8 ⟨rfl, hb8⟩
              clear w0 w1' fw0 fw1 t0 t1 cy cz
              obtain ⟨hW7, hF7, hG7, hA7⟩ := H7.out
              have hW8 := blk_below hW7 hb8
              have hF8 := blk_below hF7 hb8
              have hG8 := blk_below hG7 hb8
              have hA8 := bcat2 hA7 hb8
              obtain ⟨w0, w1', fw0, fw1⟩ := hW8.two
              have H8 := hide (putW3 hW8 hF8 hG8 hA8 (.int .i64 c6) (.int .i64 k))
              clear hW7 hF7 hG7 hA7 hW8 hF8 hG8 hA8 hb8
              go_wp2
              go_roundw
              case rel => exact ⟨k + 1, c6, k, by omega, by go_num, H8.out.1, H8.out.2.1, H8.out.2.2.1, H8.out.2.2.2, .inr ⟨hc6, HF.out⟩⟩
              case measure => simp [intOf]; omega
          · have hkk : k = l.length := by omega
            have hki : ¬ (k : Int) < (l.length : Int) := by omega
            have hst2 : mfault l = (0, 0) := by rw [hst, show l.length - k = 0 by omega]; rfl
            rw [hst2] at hcd
            cases hcd
            exact absurd rfl hmf
        · obtain ⟨rfl, rfl⟩ : c1 = c ∧ d1 = d := by rw [hst] at hcd; cases hcd; exact ⟨rfl, rfl⟩
          have hcb : (c1 == 0) = false := by simpa using hc1
          have hcb2 : (c1 != 0) = true := by simpa using hc1
          clear hst hcd
          have hor : ((k : Int) < (l.length : Int)) ∨ ¬ ((k : Int) < (l.length : Int)) := Decidable.em _
          rcases hor with hki | hki
          all_goals (
            obtain ⟨w0, w1', _, _⟩ := hW.two
            obtain ⟨f0, f1, _, _⟩ := hF.two
            obtain ⟨g0, g1, _, _⟩ := hG.two
            have HLI := hide (lists_any _ _ l l wr (HWw.out.2.1.below hA) (HWw.out.2.2.1.below hA))
            rw [show decide (l = l) = true from decide_eq_true rfl] at HLI
            have HB := hide (And.intro (bcat HWw.out.1 hA HWw.out.1.size) (And.intro hF (And.intro hW hG)))
            clear hW hF hG hA
            go_wp2_with fail
            refine HLI.out.mono ?_
            rintro e w6 ⟨rfl, hb6⟩
            clear w0 w1' f0 f1 g0 g1
            obtain ⟨hB5, hF5, hW5, hG5⟩ := HB.out
            obtain ⟨w0, w1', _, _⟩ := (blk_below hW5 hb6).two
            obtain ⟨g0, g1, _, _⟩ := (blk_below hG5 hb6).two
            have HNG := hide (noGroup_none w6)
            have HB6 := hide (bcat hB5 hb6 hB5.size)
            clear hB5 hF5 hW5 hG5 hb6
            go_wp2_with fail
            refine HNG.out.mono ?_
            rintro e w7 ⟨rfl, hb7⟩
            go_wp2
            go_ret
            exact ⟨rfl, bcat HB6.out hb7 HB6.out.size⟩)
end Go.Proofs.Ytgphcfmiamiojaa
