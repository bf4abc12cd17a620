/- The law TablePerms where all are permutations. No condition. -/
import Derived.Test.YtgphcfmiamiojaaTp2
namespace Go.Proofs.Ytgphcfmiamiojaa
open Go Go.RowKit
open Pm

theorem pf_lt {l T : List (List Int)} {n : Nat} (hl : Prms l n) (h : AllP l n T) {a b : Nat} (ha : a < T.length) (hb : b < T.length) : pf T a b < T.length := List.idxOf_lt_length_iff.2 (h.prod hl ha hb)
theorem pf_at {l T : List (List Int)} {n : Nat} (hl : Prms l n) (h : AllP l n T) {a b : Nat} (ha : a < T.length) (hb : b < T.length) : T[pf T a b]?.getD [] = mulL (T[a]?.getD []) (T[b]?.getD []) := by
  have h3 := pf_lt hl h ha hb
  have h4 : T[T.idxOf (mulL (T[a]?.getD []) (T[b]?.getD []))]'h3 = mulL (T[a]?.getD []) (T[b]?.getD []) := List.getElem_idxOf h3
  rw [List.getElem?_eq_getElem h3]; exact h4
theorem mkT_get {n : Nat} (f : Nat → Nat → Nat) {i : Nat} (hi : i < n * n) : (mkT n f)[i]?.getD 0 = (f (i / n) (i % n) : Int) := by
  unfold mkT
  rw [List.getElem?_map, List.getElem?_range hi]; rfl
theorem tab_pf {l T : List (List Int)} {n : Nat} (hl : Prms l n) (h : AllP l n T) (h60 : T.length ≤ 60) : IsTab T.length (mkT T.length (pf T)) :=
  ⟨h.pos, h60, mkT_len _ _, fun i hi => by
    rw [mkT_get _ hi]
    have h1 : i / T.length < T.length := Nat.div_lt_of_lt_mul hi
    have h2 : i % T.length < T.length := Nat.mod_lt _ h.pos
    have := pf_lt hl h h1 h2
    omega⟩
theorem tm_pf {n : Nat} {f : Nat → Nat → Nat} {a b : Nat} (ha : a < n) (hb : b < n) : tm n (mkT n f) a b = f a b := by
  unfold tm
  rw [mkT_get _ (place_lt ha hb), (dm hb).1, (dm hb).2]; rfl
set_option maxRecDepth 100000 in
set_option maxHeartbeats 8000000 in
theorem law_fine (v : Value) (l : List (List Int)) (w : World) (hv : ∀ W, Below w.heap.size w W → 0 < W.heap.size → SlL W v l) (hb : ∀ p, p ∈ l → p.length * 8 ≤ 140737488355328) (hll : l.length ≤ 1000) (hmf : (mfault l).1 = 0) (hsz : ¬ (l.length < 1 ∨ 20 < l.length)) :
    Calls Try.prog 3 #[v] w fun e w' => e = .returned (.bool true) ∧ Below w.heap.size w w' := by
  go_enter Try.func3, Try.ntmps3
  go_wp2_with fail
  refine (begun_any _).mono ?_
  rintro e w1 ⟨rfl, hb1, hp1⟩
  have hv1 := hv w1 hb1 hp1
  obtain ⟨a, cap, pb, po, rfl, h0, hc, hpl, hc1, hc2⟩ := id hv1
  have HV := hide (And.intro hv1 hb1)
  have HBD := hide hb
  have HC := hide (And.intro h0 hc)
  have hlli : ¬ (1000 : Int) < (l.length : Int) := by omega
  have hlld : decide ((1000 : Int) < (l.length : Int)) = false := decide_eq_false hlli
  have hcm : cap ≤ 9223372036854775807 := by unfold maxLen at hc2; omega
  clear hv hv1 hb h0 hc hc2
  go_wp2
  clear hlld
  go_loopw [3, 4] (fun x i wr => ∃ (k : Nat) (vs : List Value), k ≤ l.length ∧ i = .int .i64 k ∧ Qs wr w1.heap.size x vs ∧ Rws wr vs (l.take k) ∧ Below w1.heap.size w1 wr) (fun _ i _ => l.length - (intOf i).toNat)
  case atStart => exact ⟨0, [], Nat.zero_le _, rfl, .inl ⟨rfl, rfl⟩, Rws.nil _, Below.refl _ _⟩
  case round =>
    obtain ⟨k, vs, hk, rfl, hq, hr, hB⟩ := hrel
    obtain ⟨xa, xc, hxe⟩ := hq.shape
    subst hxe
    have hvl : vs.length = k := by rw [hr.1, List.length_take]; omega
    rw [hvl] at hq ⊢
    by_cases hlt : k < l.length
    · have hki : (k : Int) < (l.length : Int) := by omega
      obtain ⟨y, hyc, hys⟩ := HC.out.2 k hlt
      obtain rfl := HC.out.1 (by omega)
      have hyc2 := below_cell hB hyc
      have hbd := HBD.out (l[k]?.getD []) (by rw [List.getElem?_eq_getElem hlt]; exact List.getElem_mem _)
      have HO := hide (own_any y (l[k]?.getD []) wr (hys.below hB) hbd)
      have HQ := hide (And.intro hq (And.intro hr hB))
      clear hyc hys hbd hq hr hB
      go_wp2_with fail
      refine HO.out.mono ?_
      rintro e w2 ⟨r, rfl, hrow, hb2⟩
      obtain ⟨hq, hr, hB⟩ := HQ.out
      have hrf : RowF w2 r (l[k]?.getD []) := Row.rowF (show Row w2 wr.heap.size r (l[k]?.getD []) from hrow)
      have hq2 := hq.keep (W' := w2) (fun g hg => by obtain ⟨_, cur, hcc⟩ := hq.ge hg; exact hb2.block g hcc.lt)
      have hr2 := hr.keep (T3.below hb2)
      have hbase : w1.heap.size ≤ w2.heap.size := Nat.le_trans hB.size hb2.size
      obtain ⟨r5, W5, hrun, hq5, hr5, ⟨ra5, rc5, hr5e⟩, hB5, ht5, hk5⟩ := push_qs w2 w1.heap.size _ r vs (l.take k) (l[k]?.getD []) hq2 hr2 hbase hrf (by rw [List.length_take]; omega)
      obtain ⟨rr, rn, rc, rfl⟩ : ∃ ra n c, r = .slice ra n c := by obtain ⟨a9, c9, e⟩ := hrf.shape; exact ⟨_, _, _, e⟩
      have hsn : l.take (k + 1) = l.take k ++ [l[k]?.getD []] := by rw [List.take_succ_eq_append_getElem hlt, List.getElem?_eq_getElem hlt]; rfl
      have hkw : Below w1.heap.size w1 W5 := (bcat2 hB hb2).trans hB5
      rw [List.length_take, Nat.min_eq_left hk] at hr5e
      subst hr5e
      have HF := hide (And.intro hq5 (And.intro (show Rws W5 _ (l.take (k + 1)) by rw [hsn]; exact hr5) hkw))
      clear hq hr hB hrow hrf hq2 hr2 hq5 hr5 hB5 ht5 hk5 hkw hyc2 hsn hb2
      go_wp2_with (at_builtin; refine Lib.wpList_append_run _ rfl _ _ _ _ rfl _ _ rfl rfl _ _ (hrun _) ?_)
      go_roundw
      case rel => exact ⟨k + 1, _, by omega, by go_num, HF.out⟩
      case measure => simp [intOf]; omega
    · have hkk : k = l.length := by omega
      subst hkk
      have hki : ¬ (l.length : Int) < (l.length : Int) := by omega
      rw [List.take_length] at hr
      have hsx := hr.slL hq (by have := hB.size; omega)
      have hPF := perms_fine _ l _ wr hsx (fun p hp => by have := HBD.out p hp; unfold maxLen; omega) hmf rfl
      obtain ⟨hm0, hne, h20, hprm, hn⟩ := mfault_good hmf
      obtain ⟨n, hnn⟩ : ∃ n, (l[0]?.getD []).length = n := ⟨_, rfl⟩
      rw [hnn] at hPF hprm hn
      have HPF := hide hPF
      have HQ := hide (And.intro hsx hB)
      have HPR := hide hprm
      have HMF := hide hmf
      clear hq hr hB hsx hPF hprm hmf hnn
      go_wp2_with fail
      refine HPF.out.mono ?_
      rintro e w2 ⟨hfine, hb2⟩
      rcases hfine with ⟨T, hA, h60, U, S, rfl, hU, hS⟩ | ⟨⟨T, h61, hrise, hgen⟩, rfl⟩
      · obtain ⟨ua, uc, _, _, rfl, _⟩ := id hU
        obtain ⟨sa, sc, _, _, rfl, _⟩ := id hS
        rw [mkT_len] at hU ⊢
        obtain ⟨M, hM⟩ : ∃ M, T.length * T.length = M := ⟨_, rfl⟩
        rw [hM] at hU ⊢
        have HTT := hide (And.intro hA (And.intro h60 (And.intro hU hS)))
        clear hA hU hS
        have hWw2 : Below w.heap.size w w2 := bcat (bcat HV.out.2 HQ.out.2 HV.out.2.size) hb2 (Nat.le_trans HV.out.2.size HQ.out.2.size)
        obtain ⟨w3, hw3⟩ : ∃ w3, w3 = ((w2.alloc (.cells #[.int .i64 T.length, .slice ua M uc] 27)).alloc (.cells #[.int .i64 0, .int .i64 0] 29)).alloc (.cells #[.int .i64 0, .int .i64 0] 29) := ⟨_, rfl⟩
        have hA3 : Below w2.heap.size w2 w3 := by rw [hw3]; exact (((balloc w2 _).alloc (by simp) _).alloc (by simp; omega) _)
        have hG3 : Blk w3 w2.heap.size 27 [.int .i64 T.length, .slice ua M uc] := by rw [hw3]; exact ((blk0 _ _).alloc _).alloc _
        have hF3 : Blk w3 (w2.heap.size + 1) 29 [.int .i64 0, .int .i64 0] := by
          rw [hw3]
          have : Blk ((w2.alloc (.cells #[.int .i64 T.length, .slice ua M uc] 27)).alloc (.cells #[.int .i64 0, .int .i64 0] 29)) (w2.alloc (.cells #[.int .i64 T.length, .slice ua M uc] 27)).heap.size 29 [.int .i64 0, .int .i64 0] := blk0 _ _
          rw [World.size_alloc] at this; exact this.alloc _
        have hW3 : Blk w3 (w2.heap.size + 1 + 1) 29 [.int .i64 0, .int .i64 0] := by
          rw [hw3]
          have : Blk (((w2.alloc (.cells #[.int .i64 T.length, .slice ua M uc] 27)).alloc (.cells #[.int .i64 0, .int .i64 0] 29)).alloc (.cells #[.int .i64 0, .int .i64 0] 29)) ((w2.alloc (.cells #[.int .i64 T.length, .slice ua M uc] 27)).alloc (.cells #[.int .i64 0, .int .i64 0] 29)).heap.size 29 [.int .i64 0, .int .i64 0] := blk0 _ _
          rw [World.size_alloc, World.size_alloc] at this; exact this
        have hB3 : Below w.heap.size w w3 := bcat hWw2 hA3 hWw2.size
        have hxs3 := HQ.out.1.below (bcat2 hb2 hA3)
        have hvs3 := HV.out.1.below (bcat2 (bcat2 HQ.out.2 hb2) hA3)
        have hws2 := hWw2.size
        have HWw := hide (And.intro hWw2 (And.intro (HQ.out.1.below hb2) (And.intro (HV.out.1.below (bcat2 HQ.out.2 hb2)) (bcat2 HQ.out.2 hb2))))
        have hs1 : ¬ (l.length : Int) < 1 := by omega
        have hs2 : ¬ (20 : Int) < (l.length : Int) := by omega
        have HS := hide (And.intro hG3 (And.intro hF3 (And.intro hW3 hA3)))
        obtain ⟨y0, y1, fy0, fy1⟩ := hW3.two
        rw [hw3] at y0 y1 fy0 fy1
        clear hWw2 hA3 hG3 hF3 hW3 hB3 hxs3 hvs3 hb2 hki hlt
        go_wp2
        rw [← hw3]
        obtain ⟨hG5, hF5, hW5, hA5⟩ := HS.out
        clear y0 y1 fy0 fy1
        go_loopw [9] (fun iv wq => ∃ (k : Nat) (c1 d1 : Int), k ≤ l.length ∧ iv = .int .i64 k ∧ Blk wq (w2.heap.size + 1 + 1) 29 [.int .i64 c1, .int .i64 d1] ∧ Blk wq (w2.heap.size + 1) 29 [.int .i64 0, .int .i64 0] ∧ Blk wq w2.heap.size 27 [.int .i64 T.length, .slice ua M uc] ∧ Below w2.heap.size w2 wq ∧ ((c1 = 0 ∧ d1 = 0 ∧ mfault l = mfl l (l.length - k) k) ∨ (c1 ≠ 0 ∧ mfault l = (c1, d1)))) (fun iv _ => l.length - (intOf iv).toNat)
        case atStart => exact ⟨0, 0, 0, Nat.zero_le _, rfl, hW5, hF5, hG5, hA5, .inl ⟨rfl, rfl, by unfold mfault; rw [if_neg hsz]; rfl⟩⟩
        case round =>
          clear hW5 hF5 hG5 hA5 HS
          obtain ⟨k, c1, d1, hk, rfl, hW, hF, hG, hA, hst⟩ := hrel
          rcases hst with ⟨rfl, rfl, hst⟩ | ⟨hc1, hst⟩
          · by_cases hkl : k < l.length
            · have hki : (k : Int) < (l.length : Int) := by omega
              obtain ⟨w0, w1', fw0, fw1⟩ := hW.two
              obtain ⟨y, hyc, hys⟩ := HC.out.2 k hkl
              obtain ⟨z, hzc, hzs⟩ := HC.out.2 0 (by omega)
              obtain rfl := HC.out.1 (by omega)
              have hA1 : Below w1.heap.size w1 wr := bcat2 HWw.out.2.2.2 hA
              have cy := below_cell hA1 hyc
              obtain ⟨r, hr⟩ : ∃ r, l.length - k = r + 1 := ⟨l.length - k - 1, by omega⟩
              have hstep : mfault l = if (fault (l[k]?.getD [])).1 ≠ 0 then ((fault (l[k]?.getD [])).1, (k : Int)) else if (l[k]?.getD []).length ≠ (l[0]?.getD []).length then (8, (k : Int)) else mfl l (l.length - (k + 1)) (k + 1) := by
                rw [hst, hr, mfl, show l.length - (k + 1) = r by omega]
              obtain ⟨p, hp⟩ : ∃ p, l[k]?.getD [] = p := ⟨_, rfl⟩
              obtain ⟨q, hq⟩ : ∃ q, l[0]?.getD [] = q := ⟨_, rfl⟩
              rw [hp] at hys hstep
              rw [hq] at hzs hstep
              obtain ⟨ya, yc, _, _, rfl, _⟩ := id hys
              obtain ⟨za, zc, _, _, rfl, _⟩ := id hzs
              have cz : wr.cell? ⟨pb, po, none⟩ = some (.slice za q.length zc) := by simpa using below_cell hA1 hzc
              have HPF := hide (permFault_any _ p wr (hys.below hA1))
              have HZ := hide (And.intro cy cz)
              obtain ⟨c6, d6, hcd6⟩ : ∃ c6 d6, fault p = (c6, d6) := ⟨_, _, rfl⟩
              rw [hcd6] at HPF hstep
              have HST := hide hstep
              have HALL := hide (And.intro hW (And.intro hF (And.intro hG hA)))
              clear hst hr hstep hp hq hcd6 hW hF hG hA hyc hys hzc hzs hA1 cz
              go_wp2_with fail
              refine HPF.out.mono ?_
              rintro e w6 ⟨rfl, hb6⟩
              clear w0 w1' fw0 fw1 cy
              obtain ⟨w7, hw7⟩ : ∃ w7, w7 = w6.alloc (.cells #[.int .i64 c6, .int .i64 d6] 29) := ⟨_, rfl⟩
              have hT7 : Blk w7 w6.heap.size 29 [.int .i64 c6, .int .i64 d6] := by rw [hw7]; exact blk0 _ _
              have hb7 : Below wr.heap.size wr w7 := by rw [hw7]; exact hb6.alloc hb6.size _
              obtain ⟨hW, hF, hG, hA⟩ := HALL.out
              have hW7 := blk_below hW hb7
              have hF7 := blk_below hF hb7
              have hG7 := blk_below hG hb7
              have hA7 := bcat2 hA hb7
              have cy := below_cell hb7 HZ.out.1
              have cz := below_cell hb7 HZ.out.2
              obtain ⟨t0, t1, _, _⟩ := hT7.two
              obtain ⟨w0, w1', fw0, fw1⟩ := hW7.two
              have hs7 : w2.heap.size + 1 + 1 < w7.heap.size := hW7.lt
              have H7 := hide (And.intro hW7 (And.intro hF7 (And.intro hG7 hA7)))
              have hsz6 : wr.heap.size ≤ w6.heap.size := hb6.size
              have hsz8 : w2.heap.size + 1 + 1 < w6.heap.size := by have := hW.lt; omega
              rw [hw7] at t0 t1 cy cz w0 w1' fw0 fw1
              by_cases hc6 : c6 = 0
              · subst hc6
                by_cases hle : p.length = q.length
                · have hlei : (p.length : Int) = (q.length : Int) := by omega
                  have hleb : ((p.length : Int) != (q.length : Int)) = false := by simp [hlei]
                  have hst2 : mfault l = mfl l (l.length - (k + 1)) (k + 1) := by rw [HST.out, if_neg (by simp), if_neg (by simpa using hle)]
                  have HF := hide hst2
                  clear hW hF hG hA hW7 hF7 hG7 hA7 hT7 hb6 hb7 hle hlei hst2
                  go_wp2
                  go_quiet (fail)
                  go_wp2
                  rw [← hw7]
                  go_roundw
                  case rel => exact ⟨k + 1, 0, 0, by omega, by go_num, blk_drewN H7.out.1 _, blk_drewN H7.out.2.1 _, blk_drewN H7.out.2.2.1 _, bdrewN H7.out.2.2.2 _, .inl ⟨rfl, rfl, HF.out⟩⟩
                  case measure => simp [intOf]; omega
                · have hleb : ((p.length : Int) != (q.length : Int)) = true := by simp; omega
                  have hst2 : mfault l = (8, (k : Int)) := by rw [HST.out, if_neg (by simp), if_pos hle]
                  have HF := hide hst2
                  clear hW hF hG hA hW7 hF7 hG7 hA7 hT7 hb6 hb7 hle hst2
                  go_wp2
                  go_quiet (fail)
                  go_wp2_with fail
                  rw [← hw7]
                  refine (f_any 8 k _).mono ?_
                  rintro e w8 ⟨rfl, hb8'⟩
                  have hb8 := undrewN hb8'
                  clear w0 w1' fw0 fw1 t0 t1 cy cz hb8'
                  obtain ⟨hW7, hF7, hG7, hA7⟩ := H7.out
                  have hW8 := blk_below hW7 hb8
                  have hF8 := blk_below hF7 hb8
                  have hG8 := blk_below hG7 hb8
                  have hA8 := bcat2 hA7 hb8
                  obtain ⟨w0, w1', fw0, fw1⟩ := hW8.two
                  have H8 := hide (putW3 hW8 hF8 hG8 hA8 (.int .i64 8) (.int .i64 k))
                  clear hW7 hF7 hG7 hA7 hW8 hF8 hG8 hA8 hb8
                  go_wp2
                  go_roundw
                  case rel => exact ⟨k + 1, 8, k, by omega, by go_num, H8.out.1, H8.out.2.1, H8.out.2.2.1, H8.out.2.2.2, .inr ⟨by decide, HF.out⟩⟩
                  case measure => simp [intOf]; omega
              · have hcb : (c6 != 0) = true := by simpa using hc6
                have hst2 : mfault l = (c6, (k : Int)) := by rw [HST.out, if_pos hc6]
                have HF := hide hst2
                have HFA := hide (f_any c6 k w7)
                clear hW hF hG hA hW7 hF7 hG7 hA7 hT7 hb6 hb7 hst2
                go_wp2_with fail
                rw [← hw7]
                refine HFA.out.mono ?_
                rintro e w8 ⟨rfl, hb8⟩
                clear w0 w1' fw0 fw1 t0 t1 cy cz
                obtain ⟨hW7, hF7, hG7, hA7⟩ := H7.out
                have hW8 := blk_below hW7 hb8
                have hF8 := blk_below hF7 hb8
                have hG8 := blk_below hG7 hb8
                have hA8 := bcat2 hA7 hb8
                obtain ⟨w0, w1', fw0, fw1⟩ := hW8.two
                have H8 := hide (putW3 hW8 hF8 hG8 hA8 (.int .i64 c6) (.int .i64 k))
                clear hW7 hF7 hG7 hA7 hW8 hF8 hG8 hA8 hb8
                go_wp2
                go_roundw
                case rel => exact ⟨k + 1, c6, k, by omega, by go_num, H8.out.1, H8.out.2.1, H8.out.2.2.1, H8.out.2.2.2, .inr ⟨hc6, HF.out⟩⟩
                case measure => simp [intOf]; omega
            · have hkk : k = l.length := by omega
              have hki : ¬ (k : Int) < (l.length : Int) := by omega
              have hst2 : mfault l = (0, 0) := by rw [hst, show l.length - k = 0 by omega]; rfl
              have HWX := hide (And.intro hW (And.intro hF (And.intro hG hA)))
              have HGE := hide (gen_ok _ l n wr (HWw.out.2.2.1.below hA) HPR.out hne h20 hn)
              obtain ⟨w0, w1', fw0, fw1⟩ := hW.two
              clear hW hF hG hA hst hst2
              go_wp2_with fail
              refine HGE.out.mono ?_
              rintro e w6 ⟨hgen6, hb6⟩
              obtain ⟨hW, hF, hG, hA⟩ := HWX.out
              have hW6 := blk_below hW hb6
              have hF6 := blk_below hF hb6
              have hG6 := blk_below hG hb6
              have hA6 := bcat2 hA hb6
              clear w0 w1' fw0 fw1 hW hF hG hA HWX
              rcases hgen6 with ⟨T2, vs2, r, hA2, h602, rfl, hq2, hr2⟩ | ⟨⟨L, hL, hnd, hgd⟩, rfl⟩
              · obtain rfl : T2 = T := hA2.unique HTT.out.1
                have hpos2 := hA2.pos
                have hSr := hr2.slL hq2 (by have := hW6.lt; omega)
                obtain ⟨g, off, oc, hre, hocm, _⟩ := hq2.cells (by have := hr2.1; omega)
                rw [hr2.1] at hre
                subst hre
                have hcmp : ∀ W : World, Sem.run Try.prog (binOp BinOp.eql 22 (.slice (some ⟨g, off, none⟩) T2.length oc) (.slice none 0 0)) W = .ok (.bool false) W := fun W => by rfl
                obtain ⟨w0, w1', fw0, fw1⟩ := hW6.two
                obtain ⟨f0, f1, _, _⟩ := hF6.two
                have HLI := hide (lists_any _ _ l l w6 (HWw.out.2.1.below hA6) (HWw.out.2.2.1.below hA6))
                rw [show decide (l = l) = true from decide_eq_true rfl] at HLI
                have H6 := hide (And.intro hW6 (And.intro hG6 (And.intro hA6 hSr)))
                clear hW6 hF6 hG6 hA6 hSr hq2 hr2 hA2
                go_wp2_with fail
                refine HLI.out.mono ?_
                rintro e w7 ⟨rfl, hb7⟩
                obtain ⟨hW6, hG6, hA6, hSr⟩ := H6.out
                have hW7 := blk_below hW6 hb7
                have hG7 := blk_below hG6 hb7
                have hA7 := bcat2 hA6 hb7
                have hSr7 := hSr.below hb7
                have hS7 := HTT.out.2.2.2.below hA7
                have hU7 := HTT.out.2.2.1.sl.below hA7
                clear w0 w1' fw0 fw1 f0 f1 hW6 hG6 hA6 hSr hb7
                obtain ⟨w0, w1', fw0, fw1⟩ := hW7.two
                obtain ⟨g0, g1, _, _⟩ := hG7.two
                have HLJ := hide (lists_any _ _ T2 T2 w7 hS7 hSr7)
                rw [show decide (T2 = T2) = true from decide_eq_true rfl] at HLJ
                have hnb : ((T2.length : Int) != (T2.length : Int)) = false := by simp
                have H7 := hide (And.intro hG7 (And.intro hA7 (And.intro hSr7 hU7)))
                clear hW7 hG7 hA7 hSr7 hS7 hU7
                go_wp2_with fail
                refine HLJ.out.mono ?_
                rintro e w8 ⟨rfl, hb8⟩
                obtain ⟨hG7, hA7, hSr7, hU7⟩ := H7.out
                have hG8 := blk_below hG7 hb8
                have hA8 := bcat2 hA7 hb8
                have hSr8 := hSr7.below hb8
                have hU8 := hU7.below hb8
                clear w0 w1' fw0 fw1 g0 g1 hG7 hA7 hSr7 hU7 hb8
                obtain ⟨g0, g1, _, _⟩ := hG8.two
                have hM8 : (T2.length : Int) * (T2.length : Int) = (M : Int) := by rw [← hM, Int.natCast_mul]
                have hMle : M ≤ 3600 := by rw [← hM]; exact Nat.mul_le_mul h60 h60
                have hMw : IntKind.i64.wrap (M : Int) = (M : Int) := by rw [IntKind.wrap_i64]; omega
                have hmb : ((M : Int) != (M : Int)) = false := by simp
                have H8 := hide (And.intro hG8 (And.intro hA8 (And.intro hSr8 hU8)))
                have hprx := fun (j : Nat) (hj : j < T2.length) => (HTT.out.1.at_ hj).prm HPR.out
                clear hG8 hA8 hSr8 hU8
                go_wp2
                clear g0 g1
                go_loopw [12] (fun iv wq => ∃ x : Nat, x ≤ T2.length ∧ iv = .int .i64 x ∧ Below w8.heap.size w8 wq) (fun iv _ => T2.length - (intOf iv).toNat)
                case atStart => exact ⟨0, Nat.zero_le _, rfl, Below.refl _ _⟩
                case round =>
                  obtain ⟨x, hx, rfl, hBx⟩ := hrel
                  obtain ⟨g0, g1, _, _⟩ := (blk_below H8.out.1 hBx).two
                  by_cases hxl : x < T2.length
                  · have hxi : (x : Int) < (T2.length : Int) := by omega
                    go_wp2
                    clear g0 g1
                    go_loopw [13] (fun iv wq => ∃ y : Nat, y ≤ T2.length ∧ iv = .int .i64 y ∧ Below w8.heap.size w8 wq) (fun iv _ => T2.length - (intOf iv).toNat)
                    case atStart => exact ⟨0, Nat.zero_le _, rfl, hBx⟩
                    case round =>
                      clear hBx
                      obtain ⟨y, hy, rfl, hBy⟩ := hrel
                      obtain ⟨g0, g1, _, _⟩ := (blk_below H8.out.1 hBy).two
                      by_cases hyl : y < T2.length
                      · have hyi : (y : Int) < (T2.length : Int) := by omega
                        have hlt := pf_lt HPR.out HTT.out.1 hxl hyl
                        have hat := pf_at HPR.out HTT.out.1 hxl hyl
                        have HMO := hide (M_ok T2.length _ _ x y wr (tab_pf HPR.out HTT.out.1 HTT.out.2.1) (H8.out.2.2.2.below hBy) hxl hyl)
                        rw [tm_pf hxl hyl] at HMO
                        obtain ⟨z, hz⟩ : ∃ z, pf T2 x y = z := ⟨_, rfl⟩
                        rw [hz] at hlt hat HMO
                        obtain ⟨_, _, sb, so, hse, hs0, hsc, _, _, _⟩ := id H8.out.2.2.1
                        have hse2 := hs0 (by omega)
                        cases hse
                        cases hse2
                        obtain ⟨xv, cx, hxs⟩ := hsc x hxl
                        obtain ⟨yv, cy, hys⟩ := hsc y hyl
                        obtain ⟨zv, cz, hzs⟩ := hsc z hlt
                        have hpx := hprx x hxl
                        have hpy := hprx y hyl
                        rw [hat] at hzs
                        generalize T2[x]?.getD [] = p at hxs hpx hzs
                        generalize T2[y]?.getD [] = q at hys hpy hzs
                        have cx1 := below_cell hBy cx
                        have cy1 := below_cell hBy cy
                        have cz1 := below_cell hBy cz
                        have HRW := hide (And.intro hxs (And.intro hys hzs))
                        have HGB := hide (blk_below H8.out.1 hBy)
                        have HBY := hide hBy
                        have HPP := hide (And.intro hpx hpy)
                        clear hxs hys hzs cx cy cz hat hz hsc hs0 hBy hpx hpy
                        go_wp2_with fail
                        refine HMO.out.mono ?_
                        rintro e w9 ⟨rfl, hb9⟩
                        have hB9 := bcat2 HBY.out hb9
                        have cx := below_cell hb9 cx1
                        have cy := below_cell hb9 cy1
                        have cz := below_cell hb9 cz1
                        obtain ⟨h0, _, _, _⟩ := (blk_below HGB.out hb9).two
                        have h09 : 0 < w9.heap.size := by have := (blk_below HGB.out hb9).lt; omega
                        have HTH := hide (fun (V : World) (h : Below w9.heap.size w9 V) => then_ok xv yv p q V (HRW.out.1.below (bcat2 hB9 h)) (HRW.out.2.1.below (bcat2 hB9 h)) HPP.out.1.1 (by rw [HPP.out.1.2, HPP.out.2.2]) (by rw [HPP.out.1.2]; exact hn))
                        have HIN := hide (fun (V : World) (r : Value) (h : Below w9.heap.size w9 V) (hr : RowF V r (mulL p q)) => ints_any zv r (mulL p q) (mulL p q) V (HRW.out.2.2.below (bcat2 hB9 h)) (hr.sl (by have := h.size; omega)))
                        rw [show decide (mulL p q = mulL p q) = true from decide_eq_true rfl] at HIN
                        have hS : ∀ W, Below w9.heap.size w9 W → (Below w9.heap.size w9 W ∧ W.cell? ⟨w2.heap.size, 0, none⟩ = some (.int .i64 T2.length) ∧ W.cell? ⟨g, off + x, none⟩ = some xv ∧ W.cell? ⟨g, off + y, none⟩ = some yv ∧ W.cell? ⟨g, off + z, none⟩ = some zv) := fun W h => ⟨h, below_cell h h0, below_cell h cx, below_cell h cy, below_cell h cz⟩
                        have hS0 := hS _ (bdrew (Below.refl _ w9))
                        have hzi : (z : Int) < (T2.length : Int) := by omega
                        have hz0 : decide ((z : Int) < 0) = false := decide_eq_false (by omega)
                        have hz1 : decide ((T2.length : Int) ≤ (z : Int)) = false := decide_eq_false (by omega)
                        have hz2 : decide (T2.length ≤ z) = false := decide_eq_false (by omega)
                        clear cx1 cy1 cz1 g0 g1 hb9
                        go_wp2_with fail
                        clear h0 cx cy cz
                        go_region_held3 (fun W => Below w9.heap.size w9 W ∧ W.cell? ⟨w2.heap.size, 0, none⟩ = some (.int .i64 T2.length) ∧ W.cell? ⟨g, off + x, none⟩ = some xv ∧ W.cell? ⟨g, off + y, none⟩ = some yv ∧ W.cell? ⟨g, off + z, none⟩ = some zv)
                          (first | exact hS0 | assumption | exact hS _ (bcat2 (And.left ‹_ ∧ _›) hl1) | exact hS _ (bcat2 (And.left ‹_ ∧ _›) hl2))
                          (first
                            | (go_at_call 14; refine (HTH.out _ (And.left ‹_ ∧ _›)).mono ?_; rintro e1 W1 ⟨r1, rfl, hr1, hl1⟩)
                            | (go_at_call 13; refine (HIN.out _ r1 (And.left ‹_ ∧ _›) (Row.rowF hr1)).mono ?_; rintro e2 W2 ⟨rfl, hl2⟩))
                        obtain ⟨hB10, _⟩ := ‹Below w9.heap.size w9 W2 ∧ _›
                        have hB11 := bcat2 hB9 hB10
                        clear hS hS0 hl1 hl2 hr1 hB10
                        go_wp2
                        go_roundw
                        case rel => exact ⟨y + 1, by omega, by go_num, hB11⟩
                        case measure => simp [intOf]; omega
                      · have hyy : y = T2.length := by omega
                        have hyi : ¬ (y : Int) < (T2.length : Int) := by omega
                        go_wp2
                        go_roundw
                        case rel => exact ⟨x + 1, by omega, by go_num, hBy⟩
                        case measure => simp [intOf]; omega
                  · have hxi : ¬ (x : Int) < (T2.length : Int) := by omega
                    have hfin := bcat (bcat HWw.out.1 H8.out.2.1 HWw.out.1.size) hBx (by have := HWw.out.1.size; have := H8.out.2.1.size; omega)
                    go_wp2
                    go_ret
                    exact ⟨rfl, hfin⟩
              · exact absurd (HTT.out.1.much hnd hgd) (by omega)
          · exact absurd (by have := HMF.out; rw [hst] at this; exact this) hc1
      · unfold noG
        have HTM := hide (And.intro hrise hgen)
        clear hrise hgen
        have hWw2 : Below w.heap.size w w2 := bcat (bcat HV.out.2 HQ.out.2 HV.out.2.size) hb2 (Nat.le_trans HV.out.2.size HQ.out.2.size)
        obtain ⟨w3, hw3⟩ : ∃ w3, w3 = ((w2.alloc (.cells #[.int .i64 0, .slice none 0 0] 27)).alloc (.cells #[.int .i64 9, .int .i64 0] 29)).alloc (.cells #[.int .i64 0, .int .i64 0] 29) := ⟨_, rfl⟩
        have hA3 : Below w2.heap.size w2 w3 := by rw [hw3]; exact (((balloc w2 _).alloc (by simp) _).alloc (by simp; omega) _)
        have hG3 : Blk w3 w2.heap.size 27 [.int .i64 0, .slice none 0 0] := by rw [hw3]; exact ((blk0 _ _).alloc _).alloc _
        have hF3 : Blk w3 (w2.heap.size + 1) 29 [.int .i64 9, .int .i64 0] := by
          rw [hw3]
          have : Blk ((w2.alloc (.cells #[.int .i64 0, .slice none 0 0] 27)).alloc (.cells #[.int .i64 9, .int .i64 0] 29)) (w2.alloc (.cells #[.int .i64 0, .slice none 0 0] 27)).heap.size 29 [.int .i64 9, .int .i64 0] := blk0 _ _
          rw [World.size_alloc] at this; exact this.alloc _
        have hW3 : Blk w3 (w2.heap.size + 1 + 1) 29 [.int .i64 0, .int .i64 0] := by
          rw [hw3]
          have : Blk (((w2.alloc (.cells #[.int .i64 0, .slice none 0 0] 27)).alloc (.cells #[.int .i64 9, .int .i64 0] 29)).alloc (.cells #[.int .i64 0, .int .i64 0] 29)) ((w2.alloc (.cells #[.int .i64 0, .slice none 0 0] 27)).alloc (.cells #[.int .i64 9, .int .i64 0] 29)).heap.size 29 [.int .i64 0, .int .i64 0] := blk0 _ _
          rw [World.size_alloc, World.size_alloc] at this; exact this
        have hB3 : Below w.heap.size w w3 := bcat hWw2 hA3 hWw2.size
        have hxs3 := HQ.out.1.below (bcat2 hb2 hA3)
        have hvs3 := HV.out.1.below (bcat2 (bcat2 HQ.out.2 hb2) hA3)
        have hws2 := hWw2.size
        have HWw := hide (And.intro hWw2 (And.intro (HQ.out.1.below hb2) (And.intro (HV.out.1.below (bcat2 HQ.out.2 hb2)) (bcat2 HQ.out.2 hb2))))
        have hs1 : ¬ (l.length : Int) < 1 := by omega
        have hs2 : ¬ (20 : Int) < (l.length : Int) := by omega
        have HS := hide (And.intro hG3 (And.intro hF3 (And.intro hW3 hA3)))
        obtain ⟨y0, y1, fy0, fy1⟩ := hW3.two
        rw [hw3] at y0 y1 fy0 fy1
        clear hWw2 hA3 hG3 hF3 hW3 hB3 hxs3 hvs3 hb2 hki hlt
        go_wp2
        rw [← hw3]
        obtain ⟨hG5, hF5, hW5, hA5⟩ := HS.out
        clear y0 y1 fy0 fy1
        go_loopw [9] (fun iv wq => ∃ (k : Nat) (c1 d1 : Int), k ≤ l.length ∧ iv = .int .i64 k ∧ Blk wq (w2.heap.size + 1 + 1) 29 [.int .i64 c1, .int .i64 d1] ∧ Blk wq (w2.heap.size + 1) 29 [.int .i64 9, .int .i64 0] ∧ Blk wq w2.heap.size 27 [.int .i64 0, .slice none 0 0] ∧ Below w2.heap.size w2 wq ∧ ((c1 = 0 ∧ d1 = 0 ∧ mfault l = mfl l (l.length - k) k) ∨ (c1 ≠ 0 ∧ mfault l = (c1, d1)))) (fun iv _ => l.length - (intOf iv).toNat)
        case atStart => exact ⟨0, 0, 0, Nat.zero_le _, rfl, hW5, hF5, hG5, hA5, .inl ⟨rfl, rfl, by unfold mfault; rw [if_neg hsz]; rfl⟩⟩
        case round =>
          clear hW5 hF5 hG5 hA5 HS
          obtain ⟨k, c1, d1, hk, rfl, hW, hF, hG, hA, hst⟩ := hrel
          rcases hst with ⟨rfl, rfl, hst⟩ | ⟨hc1, hst⟩
          · by_cases hkl : k < l.length
            · have hki : (k : Int) < (l.length : Int) := by omega
              obtain ⟨w0, w1', fw0, fw1⟩ := hW.two
              obtain ⟨y, hyc, hys⟩ := HC.out.2 k hkl
              obtain ⟨z, hzc, hzs⟩ := HC.out.2 0 (by omega)
              obtain rfl := HC.out.1 (by omega)
              have hA1 : Below w1.heap.size w1 wr := bcat2 HWw.out.2.2.2 hA
              have cy := below_cell hA1 hyc
              obtain ⟨r, hr⟩ : ∃ r, l.length - k = r + 1 := ⟨l.length - k - 1, by omega⟩
              have hstep : mfault l = if (fault (l[k]?.getD [])).1 ≠ 0 then ((fault (l[k]?.getD [])).1, (k : Int)) else if (l[k]?.getD []).length ≠ (l[0]?.getD []).length then (8, (k : Int)) else mfl l (l.length - (k + 1)) (k + 1) := by
                rw [hst, hr, mfl, show l.length - (k + 1) = r by omega]
              obtain ⟨p, hp⟩ : ∃ p, l[k]?.getD [] = p := ⟨_, rfl⟩
              obtain ⟨q, hq⟩ : ∃ q, l[0]?.getD [] = q := ⟨_, rfl⟩
              rw [hp] at hys hstep
              rw [hq] at hzs hstep
              obtain ⟨ya, yc, _, _, rfl, _⟩ := id hys
              obtain ⟨za, zc, _, _, rfl, _⟩ := id hzs
              have cz : wr.cell? ⟨pb, po, none⟩ = some (.slice za q.length zc) := by simpa using below_cell hA1 hzc
              have HPF := hide (permFault_any _ p wr (hys.below hA1))
              have HZ := hide (And.intro cy cz)
              obtain ⟨c6, d6, hcd6⟩ : ∃ c6 d6, fault p = (c6, d6) := ⟨_, _, rfl⟩
              rw [hcd6] at HPF hstep
              have HST := hide hstep
              have HALL := hide (And.intro hW (And.intro hF (And.intro hG hA)))
              clear hst hr hstep hp hq hcd6 hW hF hG hA hyc hys hzc hzs hA1 cz
              go_wp2_with fail
              refine HPF.out.mono ?_
              rintro e w6 ⟨rfl, hb6⟩
              clear w0 w1' fw0 fw1 cy
              obtain ⟨w7, hw7⟩ : ∃ w7, w7 = w6.alloc (.cells #[.int .i64 c6, .int .i64 d6] 29) := ⟨_, rfl⟩
              have hT7 : Blk w7 w6.heap.size 29 [.int .i64 c6, .int .i64 d6] := by rw [hw7]; exact blk0 _ _
              have hb7 : Below wr.heap.size wr w7 := by rw [hw7]; exact hb6.alloc hb6.size _
              obtain ⟨hW, hF, hG, hA⟩ := HALL.out
              have hW7 := blk_below hW hb7
              have hF7 := blk_below hF hb7
              have hG7 := blk_below hG hb7
              have hA7 := bcat2 hA hb7
              have cy := below_cell hb7 HZ.out.1
              have cz := below_cell hb7 HZ.out.2
              obtain ⟨t0, t1, _, _⟩ := hT7.two
              obtain ⟨w0, w1', fw0, fw1⟩ := hW7.two
              have hs7 : w2.heap.size + 1 + 1 < w7.heap.size := hW7.lt
              have H7 := hide (And.intro hW7 (And.intro hF7 (And.intro hG7 hA7)))
              have hsz6 : wr.heap.size ≤ w6.heap.size := hb6.size
              have hsz8 : w2.heap.size + 1 + 1 < w6.heap.size := by have := hW.lt; omega
              rw [hw7] at t0 t1 cy cz w0 w1' fw0 fw1
              by_cases hc6 : c6 = 0
              · subst hc6
                by_cases hle : p.length = q.length
                · have hlei : (p.length : Int) = (q.length : Int) := by omega
                  have hleb : ((p.length : Int) != (q.length : Int)) = false := by simp [hlei]
                  have hst2 : mfault l = mfl l (l.length - (k + 1)) (k + 1) := by rw [HST.out, if_neg (by simp), if_neg (by simpa using hle)]
                  have HF := hide hst2
                  clear hW hF hG hA hW7 hF7 hG7 hA7 hT7 hb6 hb7 hle hlei hst2
                  go_wp2
                  go_quiet (fail)
                  go_wp2
                  rw [← hw7]
                  go_roundw
                  case rel => exact ⟨k + 1, 0, 0, by omega, by go_num, blk_drewN H7.out.1 _, blk_drewN H7.out.2.1 _, blk_drewN H7.out.2.2.1 _, bdrewN H7.out.2.2.2 _, .inl ⟨rfl, rfl, HF.out⟩⟩
                  case measure => simp [intOf]; omega
                · have hleb : ((p.length : Int) != (q.length : Int)) = true := by simp; omega
                  have hst2 : mfault l = (8, (k : Int)) := by rw [HST.out, if_neg (by simp), if_pos hle]
                  have HF := hide hst2
                  clear hW hF hG hA hW7 hF7 hG7 hA7 hT7 hb6 hb7 hle hst2
                  go_wp2
                  go_quiet (fail)
                  go_wp2_with fail
                  rw [← hw7]
                  refine (f_any 8 k _).mono ?_
                  rintro e w8 ⟨rfl, hb8'⟩
                  have hb8 := undrewN hb8'
                  clear w0 w1' fw0 fw1 t0 t1 cy cz hb8'
                  obtain ⟨hW7, hF7, hG7, hA7⟩ := H7.out
                  have hW8 := blk_below hW7 hb8
                  have hF8 := blk_below hF7 hb8
                  have hG8 := blk_below hG7 hb8
                  have hA8 := bcat2 hA7 hb8
                  obtain ⟨w0, w1', fw0, fw1⟩ := hW8.two
                  have H8 := hide (putW3 hW8 hF8 hG8 hA8 (.int .i64 8) (.int .i64 k))
                  clear hW7 hF7 hG7 hA7 hW8 hF8 hG8 hA8 hb8
                  go_wp2
                  go_roundw
                  case rel => exact ⟨k + 1, 8, k, by omega, by go_num, H8.out.1, H8.out.2.1, H8.out.2.2.1, H8.out.2.2.2, .inr ⟨by decide, HF.out⟩⟩
                  case measure => simp [intOf]; omega
              · have hcb : (c6 != 0) = true := by simpa using hc6
                have hst2 : mfault l = (c6, (k : Int)) := by rw [HST.out, if_pos hc6]
                have HF := hide hst2
                have HFA := hide (f_any c6 k w7)
                clear hW hF hG hA hW7 hF7 hG7 hA7 hT7 hb6 hb7 hst2
                go_wp2_with fail
                rw [← hw7]
                refine HFA.out.mono ?_
                rintro e w8 ⟨rfl, hb8⟩
                clear w0 w1' fw0 fw1 t0 t1 cy cz
                obtain ⟨hW7, hF7, hG7, hA7⟩ := H7.out
                have hW8 := blk_below hW7 hb8
                have hF8 := blk_below hF7 hb8
                have hG8 := blk_below hG7 hb8
                have hA8 := bcat2 hA7 hb8
                obtain ⟨w0, w1', fw0, fw1⟩ := hW8.two
                have H8 := hide (putW3 hW8 hF8 hG8 hA8 (.int .i64 c6) (.int .i64 k))
                clear hW7 hF7 hG7 hA7 hW8 hF8 hG8 hA8 hb8
                go_wp2
                go_roundw
                case rel => exact ⟨k + 1, c6, k, by omega, by go_num, H8.out.1, H8.out.2.1, H8.out.2.2.1, H8.out.2.2.2, .inr ⟨hc6, HF.out⟩⟩
                case measure => simp [intOf]; omega
            · have hkk : k = l.length := by omega
              have hki : ¬ (k : Int) < (l.length : Int) := by omega
              have hst2 : mfault l = (0, 0) := by rw [hst, show l.length - k = 0 by omega]; rfl
              have HWX := hide (And.intro hW (And.intro hF (And.intro hG hA)))
              have HGE := hide (gen_ok _ l n wr (HWw.out.2.2.1.below hA) HPR.out hne h20 hn)
              obtain ⟨w0, w1', fw0, fw1⟩ := hW.two
              clear hW hF hG hA hst hst2
              go_wp2_with fail
              refine HGE.out.mono ?_
              rintro e w6 ⟨hgen6, hb6⟩
              obtain ⟨hW, hF, hG, hA⟩ := HWX.out
              have hW6 := blk_below hW hb6
              have hF6 := blk_below hF hb6
              have hG6 := blk_below hG hb6
              have hA6 := bcat2 hA hb6
              clear w0 w1' fw0 fw1 hW hF hG hA HWX
              rcases hgen6 with ⟨T2, vs2, r, hA2, h602, rfl, hq2, hr2⟩ | ⟨⟨L, hL, hnd, hgd⟩, rfl⟩
              · exact absurd (nodup_sub_len T T2 HTM.out.1.nodup (fun p hp => (hA2.2 p).2 ((HTM.out.2 p hp).gd HPR.out))) (by omega)
              · have hcmp : ∀ W : World, Sem.run Try.prog (binOp BinOp.eql 22 (.slice none 0 0) (.slice none 0 0)) W = .ok (.bool true) W := fun W => by rfl
                have HFA := hide (f_any 9 0 w6)
                have H6 := hide (And.intro hW6 (And.intro hF6 (And.intro hG6 hA6)))
                clear hW6 hF6 hG6 hA6
                go_wp2_with fail
                refine HFA.out.mono ?_
                rintro e w8 ⟨rfl, hb8⟩
                obtain ⟨hW6, hF6, hG6, hA6⟩ := H6.out
                have hW8 := blk_below hW6 hb8
                obtain ⟨w0, w1', fw0, fw1⟩ := hW8.two
                obtain ⟨hW, hF, hG, hA⟩ := putW3 hW8 (blk_below hF6 hb8) (blk_below hG6 hb8) (bcat2 hA6 hb8) (.int .i64 9) (.int .i64 0)
                clear hW6 hF6 hG6 hA6 hW8 hb8
                obtain ⟨w0, w1', _, _⟩ := hW.two
                obtain ⟨f0, f1, _, _⟩ := hF.two
                obtain ⟨g0, g1, _, _⟩ := hG.two
                have HLI := hide (lists_any _ _ l l _ (HWw.out.2.1.below hA) (HWw.out.2.2.1.below hA))
                rw [show decide (l = l) = true from decide_eq_true rfl] at HLI
                have HB := hide (And.intro (bcat HWw.out.1 hA HWw.out.1.size) (And.intro hF (And.intro hW hG)))
                clear hW hF hG hA
                go_wp2_with fail
                refine HLI.out.mono ?_
                rintro e w6 ⟨rfl, hb6⟩
                clear w0 w1' f0 f1 g0 g1
                obtain ⟨hB5, hF5, hW5, hG5⟩ := HB.out
                obtain ⟨w0, w1', _, _⟩ := (blk_below hW5 hb6).two
                obtain ⟨g0, g1, _, _⟩ := (blk_below hG5 hb6).two
                have HNG := hide (noGroup_none w6)
                have HB6 := hide (bcat hB5 hb6 hB5.size)
                clear hB5 hF5 hW5 hG5 hb6
                go_wp2_with fail
                refine HNG.out.mono ?_
                rintro e w7 ⟨rfl, hb7⟩
                go_wp2
                go_ret
                exact ⟨rfl, bcat HB6.out hb7 HB6.out.size⟩
          · exact absurd (by have := HMF.out; rw [hst] at this; exact this) hc1
end Go.Proofs.Ytgphcfmiamiojaa
