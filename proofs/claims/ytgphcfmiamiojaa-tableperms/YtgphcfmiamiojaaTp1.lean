/- The law TablePerms. No condition. -/
import Derived.Test.YtgphcfmiamiojaaBegun
import Derived.Test.YtgphcfmiamiojaaGen
namespace Go.Proofs.Ytgphcfmiamiojaa
open Go Go.RowKit
open Pm

theorem blk_drewN {W : World} {b : Nat} {e : TypeId} {vs : List Value} (h : Blk W b e vs) (k : Nat) : Blk (W.drewN k) b e vs := h
theorem undrewN {a b : World} {k : Nat} (h : Below (a.drewN k).heap.size (a.drewN k) b) : Below a.heap.size a b := ⟨h.os, h.tape, h.output, h.size, h.block⟩
theorem putW3 {W w2 : World} {x y p q r s : Value} (hW : Blk W (w2.heap.size + 1 + 1) 29 [x, y]) (hF : Blk W (w2.heap.size + 1) 29 [p, q]) (hG : Blk W w2.heap.size 27 [r, s]) (hA : Below w2.heap.size w2 W) (c d : Value) :
    Blk ((W.setCell ⟨w2.heap.size + 1 + 1, 0, none⟩ c).setCell ⟨w2.heap.size + 1 + 1, 1, none⟩ d) (w2.heap.size + 1 + 1) 29 [c, d] ∧ Blk ((W.setCell ⟨w2.heap.size + 1 + 1, 0, none⟩ c).setCell ⟨w2.heap.size + 1 + 1, 1, none⟩ d) (w2.heap.size + 1) 29 [p, q] ∧ Blk ((W.setCell ⟨w2.heap.size + 1 + 1, 0, none⟩ c).setCell ⟨w2.heap.size + 1 + 1, 1, none⟩ d) w2.heap.size 27 [r, s] ∧ Below w2.heap.size w2 ((W.setCell ⟨w2.heap.size + 1 + 1, 0, none⟩ c).setCell ⟨w2.heap.size + 1 + 1, 1, none⟩ d) :=
  ⟨(hW.set 0 _).set 1 _, (hF.other (p := ⟨w2.heap.size + 1 + 1, 0, none⟩) (by simp) c).other (p := ⟨w2.heap.size + 1 + 1, 1, none⟩) (by simp) d, (hG.other (p := ⟨w2.heap.size + 1 + 1, 0, none⟩) (by simp; omega) c).other (p := ⟨w2.heap.size + 1 + 1, 1, none⟩) (by simp; omega) d, (hA.setCell (p := ⟨w2.heap.size + 1 + 1, 0, none⟩) (by simp; omega) _).setCell (p := ⟨w2.heap.size + 1 + 1, 1, none⟩) (by simp; omega) _⟩
theorem putW {W w : World} {b : Nat} {x y : Value} (hR : Blk W b 29 [x, y]) (hB : Below w.heap.size w W) (hb : w.heap.size ≤ b) (p q : Value) :
    Blk ((W.setCell ⟨b, 0, none⟩ p).setCell ⟨b, 1, none⟩ q) b 29 [p, q] ∧ Below w.heap.size w ((W.setCell ⟨b, 0, none⟩ p).setCell ⟨b, 1, none⟩ q) :=
  ⟨(hR.set 0 _).set 1 _, (hB.setCell (p := ⟨b, 0, none⟩) hb _).setCell (p := ⟨b, 1, none⟩) hb _⟩

set_option maxRecDepth 100000 in
set_option maxHeartbeats 8000000 in
theorem law_size (v : Value) (l : List (List Int)) (w : World) (hv : ∀ W, Below w.heap.size w W → 0 < W.heap.size → SlL W v l) (hb : ∀ p, p ∈ l → p.length * 8 ≤ 140737488355328) (hll : l.length ≤ 1000) (hmf : (mfault l).1 ≠ 0) (hsz : l.length < 1 ∨ 20 < l.length) :
    Calls Try.prog 3 #[v] w fun e w' => e = .returned (.bool true) ∧ Below w.heap.size w w' := by
  go_enter Try.func3, Try.ntmps3
  go_wp2_with fail
  refine (begun_any _).mono ?_
  rintro e w1 ⟨rfl, hb1, hp1⟩
  have hv1 := hv w1 hb1 hp1
  obtain ⟨a, cap, pb, po, rfl, h0, hc, hpl, hc1, hc2⟩ := id hv1
  have HV := hide (And.intro hv1 hb1)
  have HBD := hide hb
  have HC := hide (And.intro h0 hc)
  have hlli : ¬ (1000 : Int) < (l.length : Int) := by omega
  have hlld : decide ((1000 : Int) < (l.length : Int)) = false := decide_eq_false hlli
  have hcm : cap ≤ 9223372036854775807 := by unfold maxLen at hc2; omega
  clear hv hv1 hb h0 hc hc2
  go_wp2
  clear hlld
  go_loopw [3, 4] (fun x i wr => ∃ (k : Nat) (vs : List Value), k ≤ l.length ∧ i = .int .i64 k ∧ Qs wr w1.heap.size x vs ∧ Rws wr vs (l.take k) ∧ Below w1.heap.size w1 wr) (fun _ i _ => l.length - (intOf i).toNat)
  case atStart => exact ⟨0, [], Nat.zero_le _, rfl, .inl ⟨rfl, rfl⟩, Rws.nil _, Below.refl _ _⟩
  case round =>
    obtain ⟨k, vs, hk, rfl, hq, hr, hB⟩ := hrel
    obtain ⟨xa, xc, hxe⟩ := hq.shape
    subst hxe
    have hvl : vs.length = k := by rw [hr.1, List.length_take]; omega
    rw [hvl] at hq ⊢
    by_cases hlt : k < l.length
    · have hki : (k : Int) < (l.length : Int) := by omega
      obtain ⟨y, hyc, hys⟩ := HC.out.2 k hlt
      obtain rfl := HC.out.1 (by omega)
      have hyc2 := below_cell hB hyc
      have hbd := HBD.out (l[k]?.getD []) (by rw [List.getElem?_eq_getElem hlt]; exact List.getElem_mem _)
      have HO := hide (own_any y (l[k]?.getD []) wr (hys.below hB) hbd)
      have HQ := hide (And.intro hq (And.intro hr hB))
      clear hyc hys hbd hq hr hB
      go_wp2_with fail
      refine HO.out.mono ?_
      rintro e w2 ⟨r, rfl, hrow, hb2⟩
      obtain ⟨hq, hr, hB⟩ := HQ.out
      have hrf : RowF w2 r (l[k]?.getD []) := Row.rowF (show Row w2 wr.heap.size r (l[k]?.getD []) from hrow)
      have hq2 := hq.keep (W' := w2) (fun g hg => by obtain ⟨_, cur, hcc⟩ := hq.ge hg; exact hb2.block g hcc.lt)
      have hr2 := hr.keep (T3.below hb2)
      have hbase : w1.heap.size ≤ w2.heap.size := Nat.le_trans hB.size hb2.size
      obtain ⟨r5, W5, hrun, hq5, hr5, ⟨ra5, rc5, hr5e⟩, hB5, ht5, hk5⟩ := push_qs w2 w1.heap.size _ r vs (l.take k) (l[k]?.getD []) hq2 hr2 hbase hrf (by rw [List.length_take]; omega)
      obtain ⟨rr, rn, rc, rfl⟩ : ∃ ra n c, r = .slice ra n c := by obtain ⟨a9, c9, e⟩ := hrf.shape; exact ⟨_, _, _, e⟩
      have hsn : l.take (k + 1) = l.take k ++ [l[k]?.getD []] := by rw [List.take_succ_eq_append_getElem hlt, List.getElem?_eq_getElem hlt]; rfl
      have hkw : Below w1.heap.size w1 W5 := (bcat2 hB hb2).trans hB5
      rw [List.length_take, Nat.min_eq_left hk] at hr5e
      subst hr5e
      have HF := hide (And.intro hq5 (And.intro (show Rws W5 _ (l.take (k + 1)) by rw [hsn]; exact hr5) hkw))
      clear hq hr hB hrow hrf hq2 hr2 hq5 hr5 hB5 ht5 hk5 hkw hyc2 hsn hb2
      go_wp2_with (at_builtin; refine Lib.wpList_append_run _ rfl _ _ _ _ rfl _ _ rfl rfl _ _ (hrun _) ?_)
      go_roundw
      case rel => exact ⟨k + 1, _, by omega, by go_num, HF.out⟩
      case measure => simp [intOf]; omega
    · have hkk : k = l.length := by omega
      subst hkk
      have hki : ¬ (l.length : Int) < (l.length : Int) := by omega
      rw [List.take_length] at hr
      have hsx := hr.slL hq (by have := hB.size; omega)
      have hPB := perms_bad _ l wr hsx (fun p hp => by have := HBD.out p hp; unfold maxLen; omega) hmf
      obtain ⟨c, d, hcd⟩ : ∃ c d, mfault l = (c, d) := ⟨_, _, rfl⟩
      rw [hcd] at hPB hmf
      have HPB := hide hPB
      have HQ := hide (And.intro hsx hB)
      clear hq hr hB hsx hPB
      go_wp2_with fail
      refine HPB.out.mono ?_
      rintro e w2 ⟨rfl, hb2⟩
      unfold noG
      have hWw2 : Below w.heap.size w w2 := bcat (bcat HV.out.2 HQ.out.2 HV.out.2.size) hb2 (Nat.le_trans HV.out.2.size HQ.out.2.size)
      obtain ⟨w3, hw3⟩ : ∃ w3, w3 = ((w2.alloc (.cells #[.int .i64 0, .slice none 0 0] 27)).alloc (.cells #[.int .i64 c, .int .i64 d] 29)).alloc (.cells #[.int .i64 0, .int .i64 0] 29) := ⟨_, rfl⟩
      have hA3 : Below w2.heap.size w2 w3 := by rw [hw3]; exact (((balloc w2 _).alloc (by simp) _).alloc (by simp; omega) _)
      have hG3 : Blk w3 w2.heap.size 27 [.int .i64 0, .slice none 0 0] := by rw [hw3]; exact ((blk0 _ _).alloc _).alloc _
      have hF3 : Blk w3 (w2.heap.size + 1) 29 [.int .i64 c, .int .i64 d] := by
        rw [hw3]
        have : Blk ((w2.alloc (.cells #[.int .i64 0, .slice none 0 0] 27)).alloc (.cells #[.int .i64 c, .int .i64 d] 29)) (w2.alloc (.cells #[.int .i64 0, .slice none 0 0] 27)).heap.size 29 [.int .i64 c, .int .i64 d] := blk0 _ _
        rw [World.size_alloc] at this; exact this.alloc _
      have hW3 : Blk w3 (w2.heap.size + 1 + 1) 29 [.int .i64 0, .int .i64 0] := by
        rw [hw3]
        have : Blk (((w2.alloc (.cells #[.int .i64 0, .slice none 0 0] 27)).alloc (.cells #[.int .i64 c, .int .i64 d] 29)).alloc (.cells #[.int .i64 0, .int .i64 0] 29)) ((w2.alloc (.cells #[.int .i64 0, .slice none 0 0] 27)).alloc (.cells #[.int .i64 c, .int .i64 d] 29)).heap.size 29 [.int .i64 0, .int .i64 0] := blk0 _ _
        rw [World.size_alloc, World.size_alloc] at this; exact this
      have hB3 : Below w.heap.size w w3 := bcat hWw2 hA3 hWw2.size
      have hxs3 := HQ.out.1.below (bcat2 hb2 hA3)
      have hvs3 := HV.out.1.below (bcat2 (bcat2 HQ.out.2 hb2) hA3)
      have hws2 := hWw2.size
      have hcd2 : mfault l = (2, 0) := by unfold mfault; rw [if_pos hsz]
      obtain ⟨rfl, rfl⟩ : c = 2 ∧ d = 0 := by rw [hcd2] at hcd; cases hcd; exact ⟨rfl, rfl⟩
      have HW3 := hide (And.intro hG3 (And.intro hF3 (And.intro hW3 hA3)))
      have HWw := hide (And.intro hWw2 (And.intro (HQ.out.1.below hb2) (And.intro (HV.out.1.below (bcat2 HQ.out.2 hb2)) (bcat2 HQ.out.2 hb2))))
      have HFA := hide (f_any 2 0 w3)
      have hcell8 := hW3.two
      rw [hw3] at hcell8
      obtain ⟨y0, y1, fy0, fy1⟩ := hcell8
      clear hWw2 hA3 hG3 hF3 hW3 hB3 hxs3 hvs3 hb2 hcd hcd2 hki hlt
      have hor : (l.length : Int) < 1 ∨ (¬ (l.length : Int) < 1 ∧ (20 : Int) < (l.length : Int)) := by omega
      rcases hor with hs1 | ⟨hs1, hs2⟩
      all_goals (
        go_wp2_with fail
        rw [← hw3]
        refine HFA.out.mono ?_
        rintro e w4 ⟨rfl, hb4⟩
        obtain ⟨hG3, hF3, hW3, hA39⟩ := HW3.out
        have hG4 := blk_below hG3 hb4
        have hF4 := blk_below hF3 hb4
        have hW4 := blk_below hW3 hb4
        obtain ⟨z0, z1, fz0, fz1⟩ := hW4.two
        have HS := hide (And.intro (putW (w := w2) hW4 (bcat2 hA39 hb4) (by omega) (.int .i64 2) (.int .i64 0)) (And.intro (hG4.other (p := ⟨w2.heap.size + 1 + 1, 0, none⟩) (by simp; omega) (.int .i64 2) |>.other (p := ⟨w2.heap.size + 1 + 1, 1, none⟩) (by simp; omega) (.int .i64 0)) (hF4.other (p := ⟨w2.heap.size + 1 + 1, 0, none⟩) (by simp) (.int .i64 2) |>.other (p := ⟨w2.heap.size + 1 + 1, 1, none⟩) (by simp) (.int .i64 0))))
        clear hG3 hF3 hW3 hA39 hG4 hF4 hW4 y0 y1 fy0 fy1
        go_wp2
        obtain ⟨⟨hW5, hA5⟩, hG5, hF5⟩ := HS.out
        go_loopw [9] (fun iv wq => iv = .int .i64 0 ∧ Blk wq (w2.heap.size + 1 + 1) 29 [.int .i64 2, .int .i64 0] ∧ Blk wq (w2.heap.size + 1) 29 [.int .i64 2, .int .i64 0] ∧ Blk wq w2.heap.size 27 [.int .i64 0, .slice none 0 0] ∧ Below w2.heap.size w2 wq) (fun _ _ => 0)
        case atStart => exact ⟨rfl, hW5, hF5, hG5, hA5⟩
        case round =>
          clear hW5 hF5 hG5 hA5 z0 z1 fz0 fz1
          obtain ⟨rfl, hW, hF, hG, hA⟩ := hrel
          have hcb : (2 : Int) ≠ 0 := by decide
          obtain ⟨w0, w1', _, _⟩ := hW.two
          obtain ⟨f0, f1, _, _⟩ := hF.two
          obtain ⟨g0, g1, _, _⟩ := hG.two
          have HLI := hide (lists_any _ _ l l wr (HWw.out.2.1.below hA) (HWw.out.2.2.1.below hA))
          rw [show decide (l = l) = true from decide_eq_true rfl] at HLI
          have HB := hide (And.intro (bcat HWw.out.1 hA HWw.out.1.size) (And.intro hF (And.intro hW hG)))
          clear hW hF hG hA
          go_wp2_with fail
          refine HLI.out.mono ?_
          rintro e w6 ⟨rfl, hb6⟩
          clear w0 w1' f0 f1 g0 g1
          obtain ⟨hB5, hF5, hW5, hG5⟩ := HB.out
          obtain ⟨w0, w1', _, _⟩ := (blk_below hW5 hb6).two
          obtain ⟨g0, g1, _, _⟩ := (blk_below hG5 hb6).two
          have HNG := hide (noGroup_none w6)
          have HB6 := hide (bcat hB5 hb6 hB5.size)
          clear hB5 hF5 hW5 hG5 hb6
          go_wp2_with fail
          refine HNG.out.mono ?_
          rintro e w7 ⟨rfl, hb7⟩
          go_wp2
          go_ret
          exact ⟨rfl, bcat HB6.out hb7 HB6.out.size⟩)
end Go.Proofs.Ytgphcfmiamiojaa
