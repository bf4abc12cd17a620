/- What the document's Shifted and IsNormal answer. -/
import Derived.Test.YtccilfkaflpnbaaDoorShf
import Derived.Test.YtccilfkaflpnbaaDoorDedW
namespace Go.Proofs.YtccilfkaflpnbaaDoor
open Go Go.RowKit

set_option maxRecDepth 100000 in
set_option maxHeartbeats 4000000 in
theorem shf_ok (n e a : Nat) (v lv : Value) (zs : List Int) (xs : List Nat) (w : World) (g : IsGrp n zs e) (hv : Sl w v zs) (ha : a < n) (hsL : Sl w lv (li xs)) (hm : ∀ x, x ∈ xs → x < n) :
    Calls Tryd.prog 49 #[.agg #[.int .i64 n, v], lv, .int .i64 a] w fun x w' => ∃ r, x = .returned r ∧ Row w' w.heap.size r (li (lst n (cjl n zs e xs a))) ∧ Below w.heap.size w w' := by
  obtain ⟨l1, l2, l3, rfl⟩ := hsL.isSlice
  obtain ⟨w0, hw0⟩ : ∃ w0, w0 = ((w.alloc (.cells #[.int .i64 n, v] 24)).alloc (.cells #[.slice l1 l2 l3] 22)).alloc (.cells #[.int .i64 a] 3) := ⟨_, rfl⟩
  have hB0 : Below w.heap.size w w0 := by rw [hw0]; exact ((balloc w _).alloc (by simp) _).alloc (by simp; omega) _
  have hX0 : BoxG w0 w.heap.size n v := by rw [hw0]; exact ((blk0 (w := w) (T := 24) _ _).alloc _).alloc _
  have hL0 : Boxed w0 (w.heap.size + 1) 22 (.slice l1 l2 l3) := by
    have h := (Boxed.new (w.alloc (.cells #[.int .i64 n, v] 24)) 22 (.slice l1 l2 l3)).alloc (.cells #[.int .i64 a] 3)
    rw [World.size_alloc] at h
    rw [hw0]; exact h
  have hA0 : Boxed w0 (w.heap.size + 1 + 1) 3 (.int .i64 a) := by
    have h := Boxed.new ((w.alloc (.cells #[.int .i64 n, v] 24)).alloc (.cells #[.slice l1 l2 l3] 22)) 3 (.int .i64 a)
    rw [World.size_alloc, World.size_alloc] at h
    rw [hw0]; exact h
  obtain ⟨c0, c1, _, _⟩ := hX0.two
  rw [hw0] at c0 c1
  go_enter Tryd.func49, Tryd.ntmps49
  go_wp2_with fail
  rw [← hw0]
  clear hw0 c0 c1
  refine (rthose_ok n 106 v _ (cjl n zs e xs a) w0 g.tab.le (fun a W => call96 a _ _ _ W) (fun W x hW hx => shf1_ok n e x a (w.heap.size + 1) w.heap.size (w.heap.size + 1 + 1) v (.slice l1 l2 l3) zs xs W g ((hv.below hB0).below hW) ha (Boxed.below hL0 hW) ((hsL.below hB0).below hW) (blk_below hX0 hW) (Boxed.below hA0 hW) hm)).mono ?_
  rintro x w1 ⟨r, rfl, hr, hb1⟩
  go_wp2
  go_ret
  exact ⟨_, rfl, owns_mono hr hB0.size, bcat2 hB0 hb1⟩

def isn (n : Nat) (zs : List Int) (e : Nat) (xs : List Nat) : Bool := (List.range n).all fun a => xs.all fun x => decide (Fin.cj (tm n zs) (iv n zs e) x a ∈ xs)
theorem isn_iff {n e : Nat} {zs : List Int} {xs : List Nat} : isn n zs e xs = true ↔ ∀ a, a < n → ∀ x, x ∈ xs → Fin.cj (tm n zs) (iv n zs e) x a ∈ xs := by
  unfold isn
  simp only [List.all_eq_true, List.mem_range, decide_eq_true_eq]

set_option maxRecDepth 100000 in
set_option maxHeartbeats 8000000 in
theorem isnorm_ok (n e : Nat) (v u : Value) (zs : List Int) (xs : List Nat) (w : World) (hv : Sl w v zs) (hg : IsGrp n zs e) (hu : Sl w u (li xs)) (hx : ∀ x, x ∈ xs → x < n) (hxl : xs.length ≤ 100000) :
    Calls Tryd.prog 46 #[.agg #[.int .i64 n, v], u] w fun x w' => x = .returned (.bool (isn n zs e xs)) ∧ Below w.heap.size w w' := by
  have HSUB := hide (isn_iff (n := n) (zs := zs) (e := e) (xs := xs))
  have hn := hg.tab.le
  have hB0 : Below w.heap.size w (w.alloc (.cells #[.int .i64 n, v] 24)) := balloc w _
  have hX0 : BoxG (w.alloc (.cells #[.int .i64 n, v] 24)) w.heap.size n v := blk0 _ _
  obtain ⟨ua, ucap, pb, po, rfl, hur, hup, huq, hum⟩ := id hu
  have HUR := hide hur
  have HX := hide hx
  have HHS := hide (fun a W (h : Below w.heap.size w W) => has_sl _ xs a W (hu.below h))
  clear hur hx hum
  rw [li_len] at *
  have HUL := hide (li_len xs)
  go_enter Tryd.func46, Tryd.ntmps46
  go_wp2
  generalize w.alloc (.cells #[.int .i64 n, v] 24) = w2 at *
  go_loopw [5] (fun i wr => ∃ k : Nat, k ≤ n ∧ i = .int .i64 k ∧ (∀ t, t < k → ∀ y, y ∈ xs → Fin.cj (tm n zs) (iv n zs e) y t ∈ xs) ∧ Below w2.heap.size w2 wr) (fun i _ => n - (intOf i).toNat)
  case atStart => exact ⟨0, Nat.zero_le _, rfl, fun t ht => by omega, Below.refl _ _⟩
  case round =>
    obtain ⟨k, hk, rfl, hno, hB⟩ := hrel
    have HNO := hide hno
    clear hno
    have hXr := blk_below hX0 hB
    obtain ⟨g0, g1, _, _⟩ := hXr.two
    by_cases hlt : k < n
    · have hki : (k : Int) < (n : Int) := by omega
      go_wp2
      clear g0 g1
      generalize hwo : wr = wrO at *
      go_loopw [6] (fun i wr' => ∃ j : Nat, j ≤ xs.length ∧ i = .int .i64 j ∧ (∀ t, (ht : t < xs.length) → t < j → Fin.cj (tm n zs) (iv n zs e) xs[t] k ∈ xs) ∧ Below wrO.heap.size wrO wr') (fun i _ => xs.length - (intOf i).toNat)
      case atStart => exact ⟨0, Nat.zero_le _, rfl, fun t _ ht => by omega, Below.refl _ _⟩
      case round =>
        obtain ⟨j, hj, rfl, hnj, hBj⟩ := hrel
        have HNJ := hide hnj
        clear hnj
        have hBw := bcat2 hB0 (bcat2 hB hBj)
        by_cases hltj : j < xs.length
        · have hcj := (HUR.out.below hBw hup).cell j (by rw [HUL.out]; exact hltj)
          rw [li_get hltj] at hcj
          obtain rfl := HUR.out.at_ (by rw [HUL.out]; omega)
          obtain ⟨y, hye⟩ : ∃ y, xs[j] = y := ⟨_, rfl⟩
          have hym : y ∈ xs := by rw [← hye]; exact List.getElem_mem hltj
          have hyn : y < n := HX.out _ hym
          rw [hye] at hcj
          have HYE := hide hye
          clear hye
          have hji : (j : Int) < (xs.length : Int) := by omega
          obtain ⟨g0, g1, _, _⟩ := (blk_below hXr hBj).two
          have hvr := hv.below hBw
          have HMM := hide (fun W (h : Below wr.heap.size wr W) => rcj_ok n e y k v zs W hg (hvr.below h) hyn hlt)
          have HH := hide (fun W (h : Below wr.heap.size wr W) => HHS.out (Fin.cj (tm n zs) (iv n zs e) y k) W (bcat2 hBw h))
          have hS : ∀ W, Below wr.heap.size wr W → (Below wr.heap.size wr W ∧ W.cell? ⟨w.heap.size, 0, none⟩ = some (.int .i64 n) ∧ W.cell? ⟨w.heap.size, 1, none⟩ = some v ∧ W.cell? ⟨pb, po + j, none⟩ = some (.int .i64 y)) := fun W h => ⟨h, below_cell h g0, below_cell h g1, below_cell h hcj⟩
          have hS0 := hS _ (bdrew (Below.refl _ wr))
          clear g0 g1 hcj
          by_cases htin : Fin.cj (tm n zs) (iv n zs e) y k ∈ xs
          · rw [decide_eq_true htin] at HH
            have HTQ := hide htin
            obtain ⟨t, ht⟩ : ∃ t, Fin.cj (tm n zs) (iv n zs e) y k = t := ⟨_, rfl⟩
            rw [ht] at HMM HH
            clear ht htin
            go_wp2_with fail
            go_region_held3 (fun W => Below wr.heap.size wr W ∧ W.cell? ⟨w.heap.size, 0, none⟩ = some (.int .i64 n) ∧ W.cell? ⟨w.heap.size, 1, none⟩ = some v ∧ W.cell? ⟨pb, po + j, none⟩ = some (.int .i64 y))
              (first | exact hS0 | assumption | exact hS _ (bcat2 (And.left ‹_›) hl1))
              (first
                | (go_at_call 53; refine (HMM.out _ (And.left ‹_›)).mono ?_; rintro e1 U1 ⟨rfl, hl1⟩)
                | (go_at_call 52; refine (HH.out _ (And.left ‹_›)).mono ?_; rintro e2 U2 ⟨rfl, hl1⟩))
            all_goals (
              have hB9 := And.left ‹Below wr.heap.size wr U2 ∧ _›
              clear hS hS0 HH HMM hl1
              go_wp2
              go_roundw
              case rel => exact ⟨j + 1, by omega, by go_num, fun t9 h1 h2 => by
                by_cases e9 : t9 = j
                · subst e9; rw [HYE.out]; exact HTQ.out
                · exact HNJ.out t9 h1 (by omega), bcat2 hBj hB9⟩
              case measure => simp [intOf]; omega)
          · rw [decide_eq_false htin] at HH
            have HD := hide (show isn n zs e xs = false by
              rw [← Bool.not_eq_true]
              exact fun h => htin (HSUB.out.1 h k hlt y hym))
            clear htin
            generalize Fin.cj (tm n zs) (iv n zs e) y k = t at *
            go_wp2_with fail
            go_region_held3 (fun W => Below wr.heap.size wr W ∧ W.cell? ⟨w.heap.size, 0, none⟩ = some (.int .i64 n) ∧ W.cell? ⟨w.heap.size, 1, none⟩ = some v ∧ W.cell? ⟨pb, po + j, none⟩ = some (.int .i64 y))
              (first | exact hS0 | assumption | exact hS _ (bcat2 (And.left ‹_›) hl1))
              (first
                | (go_at_call 53; refine (HMM.out _ (And.left ‹_›)).mono ?_; rintro e1 U1 ⟨rfl, hl1⟩)
                | (go_at_call 52; refine (HH.out _ (And.left ‹_›)).mono ?_; rintro e2 U2 ⟨rfl, hl1⟩))
            all_goals (
              have hB9 := And.left ‹Below wr.heap.size wr U2 ∧ _›
              go_wp2
              go_ret
              exact ⟨by rw [HD.out]; rfl, bcat2 hBw hB9⟩)
        · go_wp2
          go_roundw
          case rel => exact ⟨k + 1, by omega, by go_num, fun t h2 y hy => by
            by_cases e9 : t = k
            · subst e9
              obtain ⟨t9, h9, rfl⟩ := List.mem_iff_getElem.1 hy
              exact HNJ.out t9 h9 (by omega)
            · exact HNO.out t (by omega) y hy, bcat2 hB hBj⟩
          case measure => simp [intOf]; omega
    · have HD := hide (show isn n zs e xs = true from HSUB.out.2 (fun a ha => HNO.out a (by omega)))
      go_wp2
      go_ret
      exact ⟨by rw [HD.out]; rfl, bcat2 hB0 hB⟩
end Go.Proofs.YtccilfkaflpnbaaDoor
