/- The document's IsNormal, and what is wrong with a normal subgroup. -/
import Derived.Test.YtodabkjadejekaaDoorSbf
import Derived.Test.YtodabkjadejekaaDoorNrm
import Derived.Test.YtodabkjadejekaaDoorDw
namespace Go.Proofs.YtodabkjadejekaaDoor
open Go Go.RowKit

theorem rcj_lt {n e x a : Nat} {zs : List Int} (g : IsGrp n zs e) (hx : x < n) (ha : a < n) : Fin.cj (tm n zs) (iv n zs e) x a < n := List.mem_range.1 (Fin.cj_mem (grp_fg g) (grp_iv g) (List.mem_range.2 hx) (List.mem_range.2 ha))
end Go.Proofs.YtodabkjadejekaaDoor

namespace Go.Proofs.YtodabkjadejekaaDoor
open Go Go.RowKit

def isn (n : Nat) (zs : List Int) (e : Nat) (xs : List Nat) : Bool := (List.range n).all fun a => xs.all fun x => decide (Fin.cj (tm n zs) (iv n zs e) x a ∈ xs)
theorem isn_iff {n e : Nat} {zs : List Int} {xs : List Nat} : isn n zs e xs = true ↔ ∀ a, a < n → ∀ x, x ∈ xs → Fin.cj (tm n zs) (iv n zs e) x a ∈ xs := by
  unfold isn
  simp only [List.all_eq_true, List.mem_range, decide_eq_true_eq]

set_option maxRecDepth 100000 in
set_option maxHeartbeats 8000000 in
theorem isnorm_ok (n e : Nat) (v u : Value) (zs : List Int) (xs : List Nat) (w : World) (hv : Sl w v zs) (hg : IsGrp n zs e) (hu : Sl w u (li xs)) (hx : ∀ x, x ∈ xs → x < n) (hxl : xs.length ≤ 100000) :
    Calls Tryd.prog 73 #[.agg #[.int .i64 n, v], u] w fun x w' => x = .returned (.bool (isn n zs e xs)) ∧ Below w.heap.size w w' := by
  have HSUB := hide (isn_iff (n := n) (zs := zs) (e := e) (xs := xs))
  have hn := hg.tab.le
  have hB0 : Below w.heap.size w (w.alloc (.cells #[.int .i64 n, v] 24)) := balloc w _
  have hX0 : BoxG (w.alloc (.cells #[.int .i64 n, v] 24)) w.heap.size n v := blk0 _ _
  obtain ⟨ua, ucap, pb, po, rfl, hur, hup, huq, hum⟩ := id hu
  have HUR := hide hur
  have HX := hide hx
  have HHS := hide (fun a W (h : Below w.heap.size w W) => has_sl _ xs a W (hu.below h))
  clear hur hx hum
  rw [li_len] at *
  have HUL := hide (li_len xs)
  go_enter Tryd.func73, Tryd.ntmps73
  go_wp2
  generalize w.alloc (.cells #[.int .i64 n, v] 24) = w2 at *
  go_loopw [5] (fun i wr => ∃ k : Nat, k ≤ n ∧ i = .int .i64 k ∧ (∀ t, t < k → ∀ y, y ∈ xs → Fin.cj (tm n zs) (iv n zs e) y t ∈ xs) ∧ Below w2.heap.size w2 wr) (fun i _ => n - (intOf i).toNat)
  case atStart => exact ⟨0, Nat.zero_le _, rfl, fun t ht => by omega, Below.refl _ _⟩
  case round =>
    obtain ⟨k, hk, rfl, hno, hB⟩ := hrel
    have HNO := hide hno
    clear hno
    have hXr := blk_below hX0 hB
    obtain ⟨g0, g1, _, _⟩ := hXr.two
    by_cases hlt : k < n
    · have hki : (k : Int) < (n : Int) := by omega
      go_wp2
      clear g0 g1
      generalize hwo : wr = wrO at *
      go_loopw [6] (fun i wr' => ∃ j : Nat, j ≤ xs.length ∧ i = .int .i64 j ∧ (∀ t, (ht : t < xs.length) → t < j → Fin.cj (tm n zs) (iv n zs e) xs[t] k ∈ xs) ∧ Below wrO.heap.size wrO wr') (fun i _ => xs.length - (intOf i).toNat)
      case atStart => exact ⟨0, Nat.zero_le _, rfl, fun t _ ht => by omega, Below.refl _ _⟩
      case round =>
        obtain ⟨j, hj, rfl, hnj, hBj⟩ := hrel
        have HNJ := hide hnj
        clear hnj
        have hBw := bcat2 hB0 (bcat2 hB hBj)
        by_cases hltj : j < xs.length
        · have hcj := (HUR.out.below hBw hup).cell j (by rw [HUL.out]; exact hltj)
          rw [li_get hltj] at hcj
          obtain rfl := HUR.out.at_ (by rw [HUL.out]; omega)
          obtain ⟨y, hye⟩ : ∃ y, xs[j] = y := ⟨_, rfl⟩
          have hym : y ∈ xs := by rw [← hye]; exact List.getElem_mem hltj
          have hyn : y < n := HX.out _ hym
          rw [hye] at hcj
          have HYE := hide hye
          clear hye
          have hji : (j : Int) < (xs.length : Int) := by omega
          obtain ⟨g0, g1, _, _⟩ := (blk_below hXr hBj).two
          have hvr := hv.below hBw
          have HMM := hide (fun W (h : Below wr.heap.size wr W) => rcj_ok n e y k v zs W hg (hvr.below h) hyn hlt)
          have HH := hide (fun W (h : Below wr.heap.size wr W) => HHS.out (Fin.cj (tm n zs) (iv n zs e) y k) W (bcat2 hBw h))
          have hS : ∀ W, Below wr.heap.size wr W → (Below wr.heap.size wr W ∧ W.cell? ⟨w.heap.size, 0, none⟩ = some (.int .i64 n) ∧ W.cell? ⟨w.heap.size, 1, none⟩ = some v ∧ W.cell? ⟨pb, po + j, none⟩ = some (.int .i64 y)) := fun W h => ⟨h, below_cell h g0, below_cell h g1, below_cell h hcj⟩
          have hS0 := hS _ (bdrew (Below.refl _ wr))
          clear g0 g1 hcj
          by_cases htin : Fin.cj (tm n zs) (iv n zs e) y k ∈ xs
          · rw [decide_eq_true htin] at HH
            have HTQ := hide htin
            obtain ⟨t, ht⟩ : ∃ t, Fin.cj (tm n zs) (iv n zs e) y k = t := ⟨_, rfl⟩
            rw [ht] at HMM HH
            clear ht htin
            go_wp2_with fail
            go_region_held3 (fun W => Below wr.heap.size wr W ∧ W.cell? ⟨w.heap.size, 0, none⟩ = some (.int .i64 n) ∧ W.cell? ⟨w.heap.size, 1, none⟩ = some v ∧ W.cell? ⟨pb, po + j, none⟩ = some (.int .i64 y))
              (first | exact hS0 | assumption | exact hS _ (bcat2 (And.left ‹_›) hl1))
              (first
                | (go_at_call 48; refine (HMM.out _ (And.left ‹_›)).mono ?_; rintro e1 U1 ⟨rfl, hl1⟩)
                | (go_at_call 26; refine (HH.out _ (And.left ‹_›)).mono ?_; rintro e2 U2 ⟨rfl, hl1⟩))
            all_goals (
              have hB9 := And.left ‹Below wr.heap.size wr U2 ∧ _›
              clear hS hS0 HH HMM hl1
              go_wp2
              go_roundw
              case rel => exact ⟨j + 1, by omega, by go_num, fun t9 h1 h2 => by
                by_cases e9 : t9 = j
                · subst e9; rw [HYE.out]; exact HTQ.out
                · exact HNJ.out t9 h1 (by omega), bcat2 hBj hB9⟩
              case measure => simp [intOf]; omega)
          · rw [decide_eq_false htin] at HH
            have HD := hide (show isn n zs e xs = false by
              rw [← Bool.not_eq_true]
              exact fun h => htin (HSUB.out.1 h k hlt y hym))
            clear htin
            generalize Fin.cj (tm n zs) (iv n zs e) y k = t at *
            go_wp2_with fail
            go_region_held3 (fun W => Below wr.heap.size wr W ∧ W.cell? ⟨w.heap.size, 0, none⟩ = some (.int .i64 n) ∧ W.cell? ⟨w.heap.size, 1, none⟩ = some v ∧ W.cell? ⟨pb, po + j, none⟩ = some (.int .i64 y))
              (first | exact hS0 | assumption | exact hS _ (bcat2 (And.left ‹_›) hl1))
              (first
                | (go_at_call 48; refine (HMM.out _ (And.left ‹_›)).mono ?_; rintro e1 U1 ⟨rfl, hl1⟩)
                | (go_at_call 26; refine (HH.out _ (And.left ‹_›)).mono ?_; rintro e2 U2 ⟨rfl, hl1⟩))
            all_goals (
              have hB9 := And.left ‹Below wr.heap.size wr U2 ∧ _›
              go_wp2
              go_ret
              exact ⟨by rw [HD.out]; rfl, bcat2 hBw hB9⟩)
        · go_wp2
          go_roundw
          case rel => exact ⟨k + 1, by omega, by go_num, fun t h2 y hy => by
            by_cases e9 : t = k
            · subst e9
              obtain ⟨t9, h9, rfl⟩ := List.mem_iff_getElem.1 hy
              exact HNJ.out t9 h9 (by omega)
            · exact HNO.out t (by omega) y hy, bcat2 hB hBj⟩
          case measure => simp [intOf]; omega
    · have HD := hide (show isn n zs e xs = true from HSUB.out.2 (fun a ha => HNO.out a (by omega)))
      go_wp2
      go_ret
      exact ⟨by rw [HD.out]; rfl, bcat2 hB0 hB⟩
end Go.Proofs.YtodabkjadejekaaDoor

namespace Go.Proofs.YtodabkjadejekaaDoor
open Go Go.RowKit

theorem isn_eq {n e : Nat} {zs : List Int} {q : Nat → Bool} (g : IsGrp n zs e) : isn n zs e (lst n q) = nrmq n zs e q := by
  rw [Bool.eq_iff_iff, isn_iff, nrm_iff g]
  unfold Fin.Nm
  simp only [mem_lst, List.mem_range]
  exact ⟨fun h x a hx ha hq => (h a ha x ⟨hx, hq⟩).2, fun h a ha x hx => ⟨rcj_lt g hx.1 ha, h x a hx.1 ha hx.2⟩⟩
/-- What is wrong with a normal subgroup. -/
def qfault (N : Int) (zs l : List Int) : Int × Int := if (ufault N zs l).1 ≠ 0 then ufault N zs l else if nrmq N.toNat zs (one N.toNat zs).toNat (pset l) then (0, 0) else (4, 0)
theorem qfault_bad {N : Int} {zs l : List Int} (h : (ufault N zs l).1 ≠ 0) : qfault N zs l = ufault N zs l := by unfold qfault; rw [if_pos h]
theorem qfault_u {n e : Nat} {zs l : List Int} (g : IsGrp n zs e) (h : ufault n zs l = (0, 0)) : qfault n zs l = if nrmq n zs e (pset l) then (0, 0) else (4, 0) := by
  unfold qfault
  rw [h, if_neg (by simp), Int.toNat_natCast, g.one, Int.toNat_natCast]
set_option maxRecDepth 100000 in
set_option maxHeartbeats 4000000 in
theorem nfault_ok (N : Int) (v u : Value) (zs l : List Int) (w : World) (hv : Sl w v zs) (hu : Sl w u l) :
    Calls Tryd.prog 37 #[.agg #[.int .i64 N, v], u] w fun x w' => x = .returned (.agg #[.int .i64 (qfault N zs l).1, .int .i64 (qfault N zs l).2]) ∧ Below w.heap.size w w' := by
  obtain ⟨u1, u2, u3, rfl⟩ := hu.isSlice
  obtain ⟨w0, BG⟩ := Beg.new w N v
  have HU := hide (rsub_any N v (.slice u1 u2 u3) zs l w0 (hv.below BG.bel) (hu.below BG.bel))
  have HZ0 := hide (show w.heap.size + 2 ≤ w0.heap.size by rw [BG.eq]; simp)
  obtain ⟨c0, c1, _, _⟩ := BG.box.two
  rw [BG.eq] at c0 c1
  by_cases hc : (ufault N zs l).1 = 0
  · obtain ⟨n, e, rfl, hg, hl0, hsb, hu0⟩ := ufault_zero hc
    have hli := set_lst (show (lfault n l).1 = 0 by rw [hl0])
    have hxm : ∀ x, x ∈ lst n (pset l) → x < n := fun x hx => (mem_lst.1 hx).1
    have hxl : (lst n (pset l)).length ≤ 100000 := by
      have : (lst n (pset l)).length ≤ n := by unfold lst; exact Nat.le_trans (List.length_filter_le _ _) (by simp)
      have := hg.tab.le
      omega
    have HI := hide (fun W (h : Below w.heap.size w W) => isnorm_ok n e v (.slice u1 u2 u3) zs (lst n (pset l)) W (hv.below h) hg (by rw [← hli]; exact hu.below h) hxm hxl)
    rw [isn_eq hg] at HI
    rw [qfault_u hg hu0]
    rw [hu0] at HU
    simp only at HU
    clear hc hli hu0
    obtain ⟨b, hb⟩ : ∃ b, b = nrmq n zs e (pset l) := ⟨_, rfl⟩
    rw [← hb] at HI ⊢
    obtain ⟨c9, i9, h9⟩ : ∃ c9 i9 : Int, (if b = true then ((0 : Int), (0 : Int)) else (4, 0)) = (c9, i9) := ⟨_, _, rfl⟩
    rw [h9]
    simp only
    have H9 := hide h9
    clear h9 hb
    go_enter Tryd.func37, Tryd.ntmps37
    go_wp2_with fail
    rw [← BG.eq]
    clear c0 c1
    refine HU.out.mono ?_
    rintro x w1 ⟨rfl, hb1⟩
    have hb2 := bcat2 hb1 (balloc w1 (.cells #[.int .i64 0, .int .i64 0] 28))
    have hF2 := blk0 (w := w1) (T := 28) (.int .i64 0) (.int .i64 0)
    have hX2 := blk_below BG.box hb2
    have hR2 := blk_below BG.res hb2
    have hBw := bcat BG.bel hb2 BG.bel.size
    obtain ⟨t0, t1, _, _⟩ := hF2.two
    obtain ⟨k0, k1, _, _⟩ := hX2.two
    have hsz := Nat.le_trans HZ0.out hb1.size
    go_wp2_with fail
    clear k0 k1 t0 t1
    refine (HI.out _ hBw).mono ?_
    rintro x w3 ⟨rfl, hb3⟩
    have hF3 := blk_below hF2 hb3
    have hR3 := blk_below hR2 hb3
    have hBw3 := bcat2 hBw hb3
    cases b with
    | true =>
      obtain ⟨rfl, rfl⟩ : c9 = 0 ∧ i9 = 0 := by
        have := H9.out
        simp at this
        omega
      obtain ⟨t0, t1, _, _⟩ := hF3.two
      obtain ⟨y0, y1, fy0, fy1⟩ := hR3.two
      obtain ⟨s0, s1⟩ := hR3.self
      go_wp2
      exact bodyPost_ret (v := .agg #[.int .i64 0, .int .i64 0]) (by simp [results, Tryd.results37, go_sem, y0, y1]) rfl ⟨rfl, hBw3⟩
    | false =>
      obtain ⟨rfl, rfl⟩ : c9 = 4 ∧ i9 = 0 := by
        have := H9.out
        simp at this
        omega
      go_wp2_with fail
      refine (f_any 4 0 _).mono ?_
      rintro x w4 ⟨rfl, hb4⟩
      have hF4 := blk_below hF3 hb4
      have hR4 := blk_below hR3 hb4
      have hBw4 := bcat2 hBw3 hb4
      have hF5 := (hF4.set 0 (.int .i64 4)).set 1 (.int .i64 0)
      have hR5 := (hR4.other (p := ⟨w1.heap.size, 0, none⟩) (by simp; omega) (.int .i64 4)).other (p := ⟨w1.heap.size, 1, none⟩) (by simp; omega) (.int .i64 0)
      have hBw5 := (hBw4.setCell (p := ⟨w1.heap.size, 0, none⟩) (by simp; omega) (.int .i64 4)).setCell (p := ⟨w1.heap.size, 1, none⟩) (by simp; omega) (.int .i64 0)
      obtain ⟨t0, t1, ft0, ft1⟩ := hF4.two
      obtain ⟨a0, a1, _, _⟩ := hF5.two
      obtain ⟨y0, y1, fy0, fy1⟩ := hR5.two
      obtain ⟨hR6, hB6⟩ := put2 hR5 hBw5 (by omega) 4 0
      go_wp2
      obtain ⟨z0, z1, _, _⟩ := hR6.two
      exact bodyPost_ret (v := .agg #[.int .i64 4, .int .i64 0]) (by simp [results, Tryd.results37, go_sem, z0, z1]) rfl ⟨rfl, hB6⟩
  · rw [qfault_bad hc]
    obtain ⟨c, i, hci⟩ : ∃ c i, ufault N zs l = (c, i) := ⟨_, _, rfl⟩
    rw [hci] at HU hc ⊢
    simp only at HU hc ⊢
    clear hci
    have hcb : (c == 0) = false := by simpa using hc
    have hcd : ¬ c = 0 := hc
    go_enter Tryd.func37, Tryd.ntmps37
    go_wp2_with fail
    rw [← BG.eq]
    clear c0 c1
    refine HU.out.mono ?_
    rintro x w1 ⟨rfl, hb1⟩
    have hb2 := bcat2 hb1 (balloc w1 (.cells #[.int .i64 c, .int .i64 i] 28))
    have hF2 := blk0 (w := w1) (T := 28) (.int .i64 c) (.int .i64 i)
    have hR2 := blk_below BG.res hb2
    have hBw := bcat BG.bel hb2 BG.bel.size
    obtain ⟨t0, t1, _, _⟩ := hF2.two
    obtain ⟨y0, y1, fy0, fy1⟩ := hR2.two
    obtain ⟨hR6, hB6⟩ := put2 hR2 hBw (by omega) c i
    go_wp2
    obtain ⟨z0, z1, _, _⟩ := hR6.two
    exact bodyPost_ret (v := .agg #[.int .i64 c, .int .i64 i]) (by simp [results, Tryd.results37, go_sem, z0, z1]) rfl ⟨rfl, hB6⟩
end Go.Proofs.YtodabkjadejekaaDoor
