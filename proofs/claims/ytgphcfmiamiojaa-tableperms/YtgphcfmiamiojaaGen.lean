/- What the document's Generated gives. No condition. -/
import Derived.Test.YtgphcfmiamiojaaGb
namespace Go.Proofs.Ytgphcfmiamiojaa
open Go Go.RowKit
open Pm

/-- What Generated gives: the things in their order, or nothing where there are more than sixty. -/
def GenA (l : List (List Int)) (n base : Nat) (w' : World) (e : Ending) : Prop :=
  (∃ T vs r, AllP l n T ∧ T.length ≤ 60 ∧ e = .returned r ∧ Qs w' base r vs ∧ Rws w' vs T) ∨ ((∃ L : List (List Int), 60 < L.length ∧ L.Nodup ∧ ∀ p, p ∈ L → Gd l n p) ∧ e = .returned (.slice none 0 0))
theorem Qs.cells {W : World} {base : Nat} {v : Value} {vs : List Value} (h : Qs W base v vs) (h0 : 0 < vs.length) : ∃ g off cap, v = .slice (some ⟨g, off, none⟩) vs.length cap ∧ cap ≤ maxLen ∧ ∀ i, i < vs.length → ∃ x, vs[i]? = some x ∧ W.cell? ⟨g, off + i, none⟩ = some x := by
  rcases h with ⟨_, rfl⟩ | ⟨g, off, cap, cur, rfl, hg, hbk, h1, h2, h3, h4⟩
  · simp at h0
  · exact ⟨g, off, cap, rfl, h3, fun i hi => ⟨vs[i], List.getElem?_eq_getElem hi, by rw [hbk.cell]; exact h4 i _ (List.getElem?_eq_getElem hi)⟩⟩
theorem trip {W W' : World} {base b : Nat} {ov : Value} {vs : List Value} {L : List (List Int)} (h1 : Boxed W b 22 ov) (h2 : Qs W base ov vs) (h3 : Rws W vs L) (hb : Below W.heap.size W W') : Boxed W' b 22 ov ∧ Qs W' base ov vs ∧ Rws W' vs L :=
  ⟨Boxed.below h1 hb, h2.keep fun g hg => by obtain ⟨_, cur, hc⟩ := h2.ge hg; exact hb.block g hc.lt, h3.keep (T3.below hb)⟩
set_option maxRecDepth 100000 in
set_option maxHeartbeats 8000000 in
theorem gen_ok (v : Value) (l : List (List Int)) (n : Nat) (w : World) (hv : SlL w v l) (hl : Prms l n) (hne : l ≠ []) (h20 : l.length ≤ 20) (hn : n ≤ 1000) :
    Calls Try.prog 9 #[v, .int .i64 60] w fun e w' => GenA l n w.heap.size w' e ∧ Below w.heap.size w w' := by
  have hvl := hv
  obtain ⟨a, cap, pb, po, rfl, h0, hc, hpl, hc1, hc2⟩ := hv
  have hl0 : 0 < l.length := by cases l with
    | nil => exact absurd rfl hne
    | cons x t => simp
  obtain rfl := h0 hl0
  obtain ⟨x0, hx0, hxs0⟩ := hc 0 hl0
  have hlen0 : (l[0]?.getD []).length = n := (hl _ (by rw [List.getElem?_eq_getElem hl0]; exact List.getElem_mem _)).2
  obtain ⟨xa, xc, _, _, rfl, _⟩ := hxs0
  rw [hlen0] at hx0
  have hx1 : w.cell? ⟨pb, po, none⟩ = some (.slice xa n xc) := by simpa using hx0
  have hl0i : (0 : Int) < (l.length : Int) := by omega
  have HV := hide hvl
  have HL := hide hl
  have HC := hide hc
  have HST := hide (stays_own n w hn)
  have hcm : cap ≤ 9223372036854775807 := by unfold maxLen at hc2; omega
  clear hvl hl hne h0 hc hx0 hlen0 hc2
  go_enter Try.func9, Try.ntmps9
  go_wp2_with fail
  refine HST.out.mono ?_
  rintro e w1 ⟨r, rfl, hrow, hb1⟩
  have hs1 := hb1.size
  have hrf := hrow.rowF
  obtain ⟨ra, rc, hre⟩ := hrf.shape
  rw [idL_len] at hre
  subst hre
  have hb2 : Below w.heap.size w ((w1.alloc (.cells #[.slice ra n rc] 24)).alloc (.cells #[.slice (some ⟨w1.heap.size, 0, none⟩) 1 1] 22)) := (hb1.alloc hs1 _).alloc (by simp; omega) _
  have hX : Blk ((w1.alloc (.cells #[.slice ra n rc] 24)).alloc (.cells #[.slice (some ⟨w1.heap.size, 0, none⟩) 1 1] 22)) w1.heap.size 24 [.slice ra n rc] := (blk1 w1 _ 24).alloc _
  have hbx : Boxed ((w1.alloc (.cells #[.slice ra n rc] 24)).alloc (.cells #[.slice (some ⟨w1.heap.size, 0, none⟩) 1 1] 22)) (w1.heap.size + 1) 22 (.slice (some ⟨w1.heap.size, 0, none⟩) 1 1) := by
    have := Boxed.new (w1.alloc (.cells #[.slice ra n rc] 24)) 22 (.slice (some ⟨w1.heap.size, 0, none⟩) 1 1)
    rwa [World.size_alloc] at this
  have hq0 : Qs ((w1.alloc (.cells #[.slice ra n rc] 24)).alloc (.cells #[.slice (some ⟨w1.heap.size, 0, none⟩) 1 1] 22)) w.heap.size (.slice (some ⟨w1.heap.size, 0, none⟩) 1 1) [.slice ra n rc] :=
    .inr ⟨w1.heap.size, 0, 1, _, by simp, hs1, hX, by simp, by simp, by unfold maxLen; omega, fun j x h => by rw [Nat.zero_add]; exact h⟩
  have hr0 : Rws ((w1.alloc (.cells #[.slice ra n rc] 24)).alloc (.cells #[.slice (some ⟨w1.heap.size, 0, none⟩) 1 1] 22)) [.slice ra n rc] [idL n] := by
    have hk : T3 w1 ((w1.alloc (.cells #[.slice ra n rc] 24)).alloc (.cells #[.slice (some ⟨w1.heap.size, 0, none⟩) 1 1] 22)) := T3.below ((balloc w1 _).alloc (by simp) _)
    exact (Rws.nil _).snoc (hrf.keep hk)
  have hG0 : Gb ((w1.alloc (.cells #[.slice ra n rc] 24)).alloc (.cells #[.slice (some ⟨w1.heap.size, 0, none⟩) 1 1] 22)) w.heap.size (w1.heap.size + 1) [idL n] := ⟨_, _, hbx, hq0, hr0, by omega⟩
  obtain ⟨b, hbe⟩ : ∃ b, w1.heap.size + 1 = b := ⟨_, rfl⟩
  have hwb : w.heap.size ≤ b := by omega
  have HG0 := hide (And.intro hG0 hb2)
  have hc25 := fun (x : Value) (W : World) => call25 x (.pointer (some ⟨b, 0, none⟩)) W
  clear hrow hrf hb1 hX hbx hq0 hr0 hG0 hb2
  go_wp2
  obtain ⟨hG0, hb2⟩ := HG0.out
  rw [hbe] at hG0
  go_loopw [7] (fun iv wr => ∃ (i : Nat) (L : List (List Int)), iv = .int .i64 i ∧ i ≤ L.length ∧ L.length ≤ 60 ∧ Gb wr w.heap.size b L ∧ Grw l L n i ∧ Below w.heap.size w wr) (fun iv _ => 61 - (intOf iv).toNat)
  case atStart => exact ⟨0, [idL n], rfl, by simp, by simp, hG0, Grw.start l n, hb2⟩
  case round =>
    clear hG0 hb2 hbe hs1
    obtain ⟨i, L, rfl, hi, h60, hG, hI, hB⟩ := hrel
    have hG9 := hG
    obtain ⟨ov, vs, h1, h2, h3, h4⟩ := hG9
    obtain ⟨oa, oc, hoe⟩ := h2.shape
    rw [h3.1] at hoe
    subst hoe
    have bx := h1.cell
    by_cases hlt : i < L.length
    · have hii : (i : Int) < (L.length : Int) := by omega
      have HS := hide (And.intro hG (And.intro hI hB))
      clear h1 h2 h3 h4 hG hI hB
      go_wp2
      obtain ⟨hG, hI, hB⟩ := HS.out
      clear bx
      go_loopw [8] (fun kv wr => ∃ (k : Nat) (L : List (List Int)), kv = .int .i64 k ∧ k ≤ l.length ∧ i < L.length ∧ L.length ≤ 60 ∧ Gb wr w.heap.size b L ∧ Grw l L n i ∧ (∀ t, t < k → mulL (L[i]?.getD []) (l[t]?.getD []) ∈ L) ∧ Below w.heap.size w wr) (fun kv _ => l.length - (intOf kv).toNat)
      case atStart => exact ⟨0, L, rfl, Nat.zero_le _, hlt, h60, hG, hI, fun t ht => by omega, hB⟩
      case round =>
        clear hG hI hB hii hlt h60 hi HS
        obtain ⟨k, L, rfl, hk, hlt, h60, hG, hI, hdn, hB⟩ := hrel
        obtain ⟨ov, vs, h1, h2, h3, h4⟩ := hG
        by_cases hkl : k < l.length
        · have hlen := h3.1
          obtain ⟨g, off, oc, hoe, hocm, hcs⟩ := h2.cells (by omega)
          subst hoe
          obtain ⟨xv, hxv, cx⟩ := hcs i (by omega)
          obtain ⟨yv, hyc, hys⟩ := HC.out k hkl
          have cy := below_cell hB hyc
          have hrx : RowF wr xv (L[i]?.getD []) := h3.2 i xv _ hxv (by rw [List.getElem?_eq_getElem hlt]; rfl)
          have hmem : l[k]?.getD [] ∈ l := by rw [List.getElem?_eq_getElem hkl]; exact List.getElem_mem _
          have hpp := (hI.gd (L[i]?.getD []) (by rw [List.getElem?_eq_getElem hlt]; exact List.getElem_mem _)).prm HL.out
          have hqq := HL.out _ hmem
          have hpush := fun h => hI.push hlt hkl h
          obtain ⟨p, hp⟩ : ∃ p, L[i]?.getD [] = p := ⟨_, rfl⟩
          obtain ⟨q, hq⟩ : ∃ q, l[k]?.getD [] = q := ⟨_, rfl⟩
          rw [hp] at hrx hpp hpush hdn
          rw [hq] at hys hqq hpush
          have h0w : 0 < wr.heap.size := by have := h1.lt; omega
          have HTH := hide (fun (V : World) (h : Below wr.heap.size wr V) => then_ok xv yv p q V ((hrx.sl h0w).below h) (hys.below (bcat2 hB h)) hpp.1 (by rw [hpp.2, hqq.2]) (by rw [hpp.2]; exact hn))
          have bx := h1.cell
          rw [hlen] at bx
          have hii : (i : Int) < (L.length : Int) := by omega
          have hkk : (k : Int) < (l.length : Int) := by omega
          have hml : (mulL p q).length = n := by rw [mulL_len, hpp.2]
          have HALL := hide (And.intro h1 (And.intro h2 (And.intro h3 (And.intro hI (And.intro hdn (And.intro hB (And.intro hpush (And.intro hp (And.intro hq hml)))))))))
          have hS : ∀ W, Below wr.heap.size wr W → (Below wr.heap.size wr W ∧ W.cell? ⟨b, 0, none⟩ = some (.slice (some ⟨g, off, none⟩) L.length oc) ∧ W.cell? ⟨g, off + i, none⟩ = some xv ∧ W.cell? ⟨pb, po + k, none⟩ = some yv) := fun W h => ⟨h, below_cell h bx, below_cell h cx, below_cell h cy⟩
          have hS0 := hS _ (bdrew (Below.refl _ wr))
          clear h1 h2 h3 hI hdn hB hpush hp hq hml hpp hqq hys hyc hrx hmem hcs hxv
          go_wp2_with fail
          clear bx cx cy
          go_region_held3 (fun W => Below wr.heap.size wr W ∧ W.cell? ⟨b, 0, none⟩ = some (.slice (some ⟨g, off, none⟩) L.length oc) ∧ W.cell? ⟨g, off + i, none⟩ = some xv ∧ W.cell? ⟨pb, po + k, none⟩ = some yv)
            (first | exact hS0 | assumption | exact hS _ (bcat2 (And.left ‹_ ∧ _›) hl1))
            (first | (go_at_call 14; refine (HTH.out _ (And.left ‹_ ∧ _›)).mono ?_; rintro e1 W1 ⟨r1, rfl, hr1, hl1⟩))
          obtain ⟨hB1, _⟩ := ‹Below wr.heap.size wr W1 ∧ _›
          obtain ⟨h1, h2, h3, hI, hdn, hB, hpush, hp, hq, hml⟩ := HALL.out
          obtain ⟨j1, j2, j3⟩ := trip h1 h2 h3 hB1
          have hrm := hr1.rowF
          obtain ⟨ma, mc, hme⟩ := hrm.shape
          rw [hml] at hme
          subst hme
          have h0W : 0 < W1.heap.size := by have := j1.lt; omega
          have HIN := hide (in_ok b _ _ L (mulL p q) W1 j1 (j3.slL j2 h0W) (hrm.sl h0W))
          have hBw := bcat2 hB hB1
          have HJ := hide (And.intro j1 (And.intro j2 (And.intro j3 (And.intro hrm (And.intro hI (And.intro hdn (And.intro hBw (And.intro hpush (And.intro hp hq)))))))))
          clear hS hS0 hl1 hr1 hB1 h1 h2 h3 hI hdn hB hpush hp hq hml j1 j2 j3 hrm hBw
          by_cases hm : mulL p q ∈ L
          · rw [show decide (mulL p q ∈ L) = true from decide_eq_true hm] at HIN
            have HM := hide hm
            clear hm
            go_wp2_with fail
            refine HIN.out.mono ?_
            rintro e w3 ⟨rfl, hb3⟩
            obtain ⟨j1, j2, j3, hrm, hI, hdn, hBw, hpush, hp, hq⟩ := HJ.out
            obtain ⟨i1, i2, i3⟩ := trip j1 j2 j3 hb3
            have HF := hide (And.intro (show Gb w3 w.heap.size b L from ⟨_, vs, i1, i2, i3, h4⟩) (And.intro hI (bcat2 hBw hb3)))
            clear j1 j2 j3 hrm hI hdn hBw hpush hp hq i1 i2 i3 hb3
            go_wp2
            go_roundw
            case rel => exact ⟨k + 1, L, by go_num, by omega, hlt, h60, HF.out.1, HF.out.2.1, fun t ht => by
              obtain ⟨j1, j2, j3, hrm, hI, hdn, hBw, hpush, hp, hq⟩ := HJ.out
              rw [hp]
              by_cases e : t = k
              · rw [e, hq]; exact HM.out
              · exact hdn t (by omega), HF.out.2.2⟩
            case measure => simp [intOf]; omega
          · rw [show decide (mulL p q ∈ L) = false from decide_eq_false hm] at HIN
            have HM := hide hm
            clear hm
            go_wp2_with fail
            refine HIN.out.mono ?_
            rintro e w3 ⟨rfl, hb3⟩
            obtain ⟨j1, j2, j3, hrm, hI, hdn, hBw, hpush, hp, hq⟩ := HJ.out
            obtain ⟨i1, i2, i3⟩ := trip j1 j2 j3 hb3
            obtain ⟨r5, W5, hrun, c5, f5, ⟨ra5, rc5, hr5⟩, hx5, hg5, hB5⟩ := push_gb w3 w.heap.size b _ _ vs L (mulL p q) i1 i2 i3 h4 (hrm.keep (T3.below hb3)) (by omega)
            have bx3 := i1.cell
            have hB6 : Below w.heap.size w (W5.setCell ⟨b, 0, none⟩ r5) := (bcat2 hBw hb3).trans hB5
            have HF := hide (And.intro hg5 (And.intro (hpush HM.out) hB6))
            rw [hlen] at c5 bx3 hrun
            subst hr5
            clear j1 j2 j3 hrm hI hdn hBw hpush hp hq i1 i2 i3 hb3 hg5 hB5 hB6 hx5
            by_cases h61 : L.length + 1 ≤ 60
            · have h61i : ¬ (60 : Int) < (L.length : Int) + 1 := by omega
              have h61d : decide ((60 : Int) < (L.length : Int) + 1) = false := decide_eq_false h61i
              go_wp2_with (at_builtin; refine Lib.wpList_append_run _ rfl _ _ _ _ rfl _ _ rfl rfl _ _ (hrun _) ?_)
              go_roundw
              case rel => exact ⟨k + 1, L ++ [mulL p q], by go_num, by omega, by rw [List.length_append]; omega, by simpa using h61, HF.out.1, HF.out.2.1, fun t ht => by
                obtain ⟨j1, j2, j3, hrm, hI, hdn, hBw, hpush, hp, hq⟩ := HJ.out
                rw [getD_append hlt, hp]
                by_cases e : t = k
                · rw [e, hq]; simp
                · exact List.mem_append_left _ (hdn t (by omega)), HF.out.2.2⟩
              case measure => simp [intOf]; omega
            · have h61i : (60 : Int) < (L.length : Int) + 1 := by omega
              have h61d : decide ((60 : Int) < (L.length : Int) + 1) = true := decide_eq_true h61i
              go_wp2_with (at_builtin; refine Lib.wpList_append_run _ rfl _ _ _ _ rfl _ _ rfl rfl _ _ (hrun _) ?_)
              go_ret
              exact ⟨.inr ⟨⟨L ++ [mulL p q], by rw [List.length_append, List.length_singleton]; omega, HF.out.2.1.nd, HF.out.2.1.gd⟩, rfl⟩, HF.out.2.2⟩
        · have hkk : k = l.length := by omega
          subst hkk
          have hki : ¬ (l.length : Int) < (l.length : Int) := by omega
          go_wp2
          go_roundw
          case rel => exact ⟨i + 1, L, by go_num, by omega, h60, ⟨ov, vs, h1, h2, h3, h4⟩, hI.next hdn, hB⟩
          case measure => simp [intOf]; omega
    · have hil : i = L.length := by omega
      subst hil
      have hnl : ¬ (L.length : Int) < (L.length : Int) := by omega
      have hall := hI.all
      have hnd := hI.nd
      obtain ⟨m9, hm9⟩ : ∃ m9, L.length = m9 := ⟨_, rfl⟩
      have HS := hide (And.intro hG (And.intro hall (And.intro hnd hB)))
      clear h1 h2 h3 h4 hG hI hB hall hnd
      go_wp2
      obtain ⟨hG, hall, hnd, hB⟩ := HS.out
      clear bx
      go_loopw [10] (fun iv wr => ∃ (i : Nat) (L : List (List Int)), iv = .int .i64 i ∧ i ≤ m9 ∧ L.length = m9 ∧ Gb wr w.heap.size b L ∧ (∀ p, p ∈ L ↔ Gd l n p) ∧ L.Nodup ∧ Stt L i ∧ Below w.heap.size w wr) (fun iv _ => m9 - (intOf iv).toNat)
      case atStart => exact ⟨0, L, rfl, Nat.zero_le _, hm9, hG, hall, hnd, fun a c h1 h2 => by omega, hB⟩
      case round =>
        clear hG hall hnd hB
        rw [hm9] at h60
        clear HS hi hlt hnl
        obtain ⟨i, L, rfl, hi, hlm, hG, hall, hnd, hst, hB⟩ := hrel
        have hG9 := hG
        obtain ⟨ov, vs, h1, h2, h3, h4⟩ := hG9
        obtain ⟨oa, oc, hoe⟩ := h2.shape
        rw [h3.1, hlm] at hoe
        subst hoe
        have bx := h1.cell
        by_cases hlt : i < m9
        · have hii : (i : Int) < (m9 : Int) := by omega
          have HS := hide (And.intro hG (And.intro hall (And.intro hnd (And.intro hst (And.intro hB hlm)))))
          clear h1 h2 h3 h4 hG hall hnd hst hB hlm
          go_wp2
          obtain ⟨hG, hall, hnd, hst, hB, hlm⟩ := HS.out
          clear bx
          go_loopw [11] (fun kv wr => ∃ (k : Nat) (L : List (List Int)), kv = .int .i64 k ∧ i < k ∧ k ≤ m9 ∧ L.length = m9 ∧ Gb wr w.heap.size b L ∧ (∀ p, p ∈ L ↔ Gd l n p) ∧ L.Nodup ∧ Stt L i ∧ Sti L i k ∧ Below w.heap.size w wr) (fun kv _ => m9 - (intOf kv).toNat)
          case atStart => exact ⟨i + 1, L, by go_num, by omega, by omega, hlm, hG, hall, hnd, hst, fun c h1 h2 => by omega, hB⟩
          case round =>
            clear hG hall hnd hst hB hlm HS
            obtain ⟨k, L, rfl, hik, hk, hlm, hG, hall, hnd, hst, hsi, hB⟩ := hrel
            obtain ⟨ov, vs, h1, h2, h3, h4⟩ := hG
            have hlen := h3.1
            by_cases hkl : k < m9
            · obtain ⟨g, off, oc, hoe, hocm, hcs⟩ := h2.cells (by omega)
              subst hoe
              obtain ⟨xv, hxv, cx⟩ := hcs i (by omega)
              obtain ⟨yv, hyv, cy⟩ := hcs k (by omega)
              have hrx : RowF wr xv (L[i]?.getD []) := h3.2 i xv _ hxv (by rw [List.getElem?_eq_getElem (by omega)]; rfl)
              have hry : RowF wr yv (L[k]?.getD []) := h3.2 k yv _ hyv (by rw [List.getElem?_eq_getElem (by omega)]; rfl)
              have hpx := ((hall (L[i]?.getD [])).1 (by rw [List.getElem?_eq_getElem (by omega)]; exact List.getElem_mem _)).prm HL.out
              have hpy := ((hall (L[k]?.getD [])).1 (by rw [List.getElem?_eq_getElem (by omega)]; exact List.getElem_mem _)).prm HL.out
              have h0w : 0 < wr.heap.size := by have := h1.lt; omega
              have HLS := hide (fun (V : World) (h : Below wr.heap.size wr V) => less_ok yv xv _ _ V ((hry.sl h0w).below h) ((hrx.sl h0w).below h) (by rw [hpx.2, hpy.2]))
              have bx := h1.cell
              rw [hlen, hlm] at bx
              have hii : (i : Int) < (m9 : Int) := by omega
              have hkk : (k : Int) < (m9 : Int) := by omega
              have HALL := hide (And.intro h1 (And.intro h2 (And.intro h3 (And.intro hall (And.intro hnd (And.intro hst (And.intro hsi hB)))))))
              have HXY := hide (And.intro hxv hyv)
              have hS : ∀ W, Below wr.heap.size wr W → (Below wr.heap.size wr W ∧ W.cell? ⟨b, 0, none⟩ = some (.slice (some ⟨g, off, none⟩) m9 oc) ∧ W.cell? ⟨g, off + i, none⟩ = some xv ∧ W.cell? ⟨g, off + k, none⟩ = some yv) := fun W h => ⟨h, below_cell h bx, below_cell h cx, below_cell h cy⟩
              have hS0 := hS _ (bdrew (Below.refl _ wr))
              obtain ⟨sx, sn, sc, rfl⟩ : ∃ sx sn sc, xv = .slice sx sn sc := by obtain ⟨a9, c9, e⟩ := hrx.shape; exact ⟨_, _, _, e⟩
              obtain ⟨tx, tn, tc, rfl⟩ : ∃ sx sn sc, yv = .slice sx sn sc := by obtain ⟨a9, c9, e⟩ := hry.shape; exact ⟨_, _, _, e⟩
              clear h1 h2 h3 hall hnd hst hsi hB hrx hry hpx hpy hcs hxv hyv
              by_cases hless : cmpL (L[k]?.getD []) (L[i]?.getD []) < 0
              · rw [show decide (cmpL (L[k]?.getD []) (L[i]?.getD []) < 0) = true from decide_eq_true hless] at HLS
                have HLE := hide hless
                clear hless
                go_wp2_with fail
                clear bx cx cy
                go_region_held3 (fun W => Below wr.heap.size wr W ∧ W.cell? ⟨b, 0, none⟩ = some (.slice (some ⟨g, off, none⟩) m9 oc) ∧ W.cell? ⟨g, off + i, none⟩ = some (.slice sx sn sc) ∧ W.cell? ⟨g, off + k, none⟩ = some (.slice tx tn tc))
                  (first | exact hS0 | assumption | exact hS _ (bcat2 (And.left ‹_ ∧ _›) hl1))
                  (first | (go_at_call 26; refine (HLS.out _ (And.left ‹_ ∧ _›)).mono ?_; rintro e1 W1 ⟨rfl, hl1⟩))
                all_goals (
                  obtain ⟨hB1, bx, cx, cy⟩ := ‹Below wr.heap.size wr W1 ∧ _›
                  obtain ⟨h1, h2, h3, hall, hnd, hst, hsi, hB⟩ := HALL.out
                  obtain ⟨j1, j2, j3⟩ := trip h1 h2 h3 hB1
                  obtain ⟨hg5, hB5, f1, f2, hne⟩ := swap_gb W1 w.heap.size b g off oc i k _ _ vs L j1 j2 j3 h4 hik (by omega) HXY.out.1 HXY.out.2
                  have hperm := swq_perm (L := L) (by omega) hik
                  have HF := hide (And.intro hg5 (And.intro ((bcat2 hB hB1).trans hB5) (And.intro (fun p => (hperm.mem_iff (a := p)).trans (hall p)) (And.intro (hperm.nodup_iff.2 hnd) (And.intro (hst.swap (by omega) hik) (hsi.swap (by omega) hik HLE.out))))))
                  have hne1 : ¬ b = g := hne
                  have hne2 : ¬ g = b := fun e => hne e.symm
                  have hne3 : ¬ off + i = off + k := by omega
                  have hne4 : ¬ off + k = off + i := by omega
                  have hne5 : ¬ i = k := by omega
                  have hne6 : ¬ k = i := by omega
                  clear h1 h2 h3 hall hnd hst hsi hB j1 j2 j3 hg5 hB5 hperm hne hS hS0 hl1 hB1
                  go_wp2
                  go_region
                  all_goals (
                    go_wp2
                    go_roundw
                    case rel => exact ⟨k + 1, swq L i k, by go_num, by omega, by omega, by rw [swq_len]; exact hlm, HF.out.1.drew, HF.out.2.2.1, HF.out.2.2.2.1, HF.out.2.2.2.2.1, HF.out.2.2.2.2.2, bdrew HF.out.2.1⟩
                    case measure => simp [intOf]; omega))
              · rw [show decide (cmpL (L[k]?.getD []) (L[i]?.getD []) < 0) = false from decide_eq_false hless] at HLS
                have HLE := hide hless
                clear hless
                go_wp2_with fail
                clear bx cx cy
                go_region_held3 (fun W => Below wr.heap.size wr W ∧ W.cell? ⟨b, 0, none⟩ = some (.slice (some ⟨g, off, none⟩) m9 oc) ∧ W.cell? ⟨g, off + i, none⟩ = some (.slice sx sn sc) ∧ W.cell? ⟨g, off + k, none⟩ = some (.slice tx tn tc))
                  (first | exact hS0 | assumption | exact hS _ (bcat2 (And.left ‹_ ∧ _›) hl1))
                  (first | (go_at_call 26; refine (HLS.out _ (And.left ‹_ ∧ _›)).mono ?_; rintro e1 W1 ⟨rfl, hl1⟩))
                all_goals (
                  obtain ⟨hB1, bx, cx, cy⟩ := ‹Below wr.heap.size wr W1 ∧ _›
                  obtain ⟨h1, h2, h3, hall, hnd, hst, hsi, hB⟩ := HALL.out
                  obtain ⟨j1, j2, j3⟩ := trip h1 h2 h3 hB1
                  have HF := hide (And.intro (show Gb W1 w.heap.size b L from ⟨_, vs, j1, j2, j3, h4⟩) (And.intro (bcat2 hB hB1) (hsi.stay hnd (by omega) hik (by have := HLE.out; omega))))
                  clear h1 h2 h3 hsi hB j1 j2 j3 hS hS0 hl1 hB1
                  go_wp2
                  go_roundw
                  case rel => exact ⟨k + 1, L, by go_num, by omega, by omega, hlm, HF.out.1, hall, hnd, hst, HF.out.2.2, HF.out.2.1⟩
                  case measure => simp [intOf]; omega)
            · have hkk : k = m9 := by omega
              subst hkk
              have hki : ¬ (k : Int) < (k : Int) := by omega
              obtain ⟨oa, oc, hoe⟩ := h2.shape
              rw [hlen, hlm] at hoe
              subst hoe
              have bx := h1.cell
              have HF := hide (And.intro (show Gb wr w.heap.size b L from ⟨_, vs, h1, h2, h3, h4⟩) (And.intro hB (hst.next (by rw [hlm]; exact hsi))))
              clear h1 h2 h3 h4 hst hsi hB
              go_wp2
              go_roundw
              case rel => exact ⟨i + 1, L, by go_num, by omega, hlm, HF.out.1, hall, hnd, HF.out.2.2, HF.out.2.1⟩
              case measure => simp [intOf]; omega
        · have him : i = m9 := by omega
          subst him
          have hki : ¬ (i : Int) < (i : Int) := by omega
          have hrise : RiseL L := Stt.rise (by rw [hlm]; exact hst)
          have HF := hide (show GenA l n w.heap.size wr (.returned (.slice oa i oc)) ∧ Below w.heap.size w wr from ⟨.inl ⟨L, vs, _, ⟨hrise, hall⟩, by omega, rfl, h2, h3⟩, hB⟩)
          clear h1 h2 h3 h4 hst hB hG hall hnd hrise
          go_wp2
          go_ret
          exact HF.out
end Go.Proofs.Ytgphcfmiamiojaa
