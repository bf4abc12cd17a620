/- What Perms of package table answers at whatever lists. No condition. -/
import Derived.Test.YtgphcfmiamiojaaPr1
namespace Go.Proofs.Ytgphcfmiamiojaa
open Go Go.RowKit
open Pm

def noG : Value := .agg #[.int .i64 0, .slice none 0 0]
theorem put22 {W w : World} {b1 b2 : Nat} {p q r s : Value} (h1 : Blk W b1 27 [p, q]) (h2 : Blk W b2 29 [r, s]) (hB : Below w.heap.size w W) (k1 : w.heap.size ≤ b1) (k2 : w.heap.size ≤ b2) (hne : b1 ≠ b2) (x y c d : Value) :
    Blk ((((W.setCell ⟨b1, 0, none⟩ x).setCell ⟨b1, 1, none⟩ y).setCell ⟨b2, 0, none⟩ c).setCell ⟨b2, 1, none⟩ d) b1 27 [x, y] ∧ Blk ((((W.setCell ⟨b1, 0, none⟩ x).setCell ⟨b1, 1, none⟩ y).setCell ⟨b2, 0, none⟩ c).setCell ⟨b2, 1, none⟩ d) b2 29 [c, d] ∧ Below w.heap.size w ((((W.setCell ⟨b1, 0, none⟩ x).setCell ⟨b1, 1, none⟩ y).setCell ⟨b2, 0, none⟩ c).setCell ⟨b2, 1, none⟩ d) ∧
    (∀ k, k ≠ b1 → k ≠ b2 → ((((W.setCell ⟨b1, 0, none⟩ x).setCell ⟨b1, 1, none⟩ y).setCell ⟨b2, 0, none⟩ c).setCell ⟨b2, 1, none⟩ d).heap[k]? = W.heap[k]?) := by
  refine ⟨?_, ?_, ?_, ?_⟩
  · have := (((h1.set 0 x).set 1 y).other (p := ⟨b2, 0, none⟩) (by simp; omega) c).other (p := ⟨b2, 1, none⟩) (by simp; omega) d
    simpa using this
  · have := ((((h2.other (p := ⟨b1, 0, none⟩) (by simp; omega) x).other (p := ⟨b1, 1, none⟩) (by simp; omega) y).set 0 c).set 1 d)
    simpa using this
  · exact (((hB.setCell (p := ⟨b1, 0, none⟩) k1 x).setCell (p := ⟨b1, 1, none⟩) k1 y).setCell (p := ⟨b2, 0, none⟩) k2 c).setCell (p := ⟨b2, 1, none⟩) k2 d
  · intro k e1 e2
    rw [Below.heap_setCell _ _ _ _ (by simpa using e2), Below.heap_setCell _ _ _ _ (by simpa using e2), Below.heap_setCell _ _ _ _ (by simpa using e1), Below.heap_setCell _ _ _ _ (by simpa using e1)]
theorem blk_drew {W : World} {b : Nat} {e : TypeId} {vs : List Value} (h : Blk W b e vs) : Blk W.drew b e vs := h
theorem start6 (w : World) : Below w.heap.size w ((w.alloc (.cells #[.int .i64 0, .slice none 0 0] 27)).alloc (.cells #[.int .i64 0, .int .i64 0] 29)) ∧ Blk ((w.alloc (.cells #[.int .i64 0, .slice none 0 0] 27)).alloc (.cells #[.int .i64 0, .int .i64 0] 29)) w.heap.size 27 [.int .i64 0, .slice none 0 0] ∧ Blk ((w.alloc (.cells #[.int .i64 0, .slice none 0 0] 27)).alloc (.cells #[.int .i64 0, .int .i64 0] 29)) (w.heap.size + 1) 29 [.int .i64 0, .int .i64 0] := by
  refine ⟨(balloc w _).alloc (by simp) _, (blk0 _ _).alloc _, ?_⟩
  have : Blk ((w.alloc (.cells #[.int .i64 0, .slice none 0 0] 27)).alloc (.cells #[.int .i64 0, .int .i64 0] 29)) (w.alloc (.cells #[.int .i64 0, .slice none 0 0] 27)).heap.size 29 [.int .i64 0, .int .i64 0] := blk0 _ _
  rwa [World.size_alloc] at this
set_option maxRecDepth 100000 in
set_option maxHeartbeats 8000000 in
theorem perms_bad (v : Value) (l : List (List Int)) (w : World) (hv : SlL w v l) (hm : ∀ p, p ∈ l → p.length ≤ maxLen) (h : (mfault l).1 ≠ 0) :
    Calls Try.prog 6 #[v] w fun e w' => e = .returned (.tuple #[noG, .slice none 0 0, .agg #[.int .i64 (mfault l).1, .int .i64 (mfault l).2]]) ∧ Below w.heap.size w w' := by
  have HMK := hide (fun (V : World) (h : Below w.heap.size w V) => makers_any v l V (hv.below h) hm)
  obtain ⟨c, d, hcd⟩ : ∃ c d, mfault l = (c, d) := ⟨_, _, rfl⟩
  rw [hcd] at HMK h ⊢
  have hcb : (c != 0) = true := by simpa using h
  have HW := hide (start6 w)
  have HMK2 := hide (HMK.out _ HW.out.1)
  clear hv hm hcd HMK h
  go_enter Try.func6, Try.ntmps6
  go_wp2_with fail
  refine HMK2.out.mono ?_
  rintro e w1 ⟨rfl, hb1⟩
  have hB1 := bcat HW.out.1 hb1 HW.out.1.size
  have hG1 := blk_below HW.out.2.1 hb1
  have hF1 := blk_below HW.out.2.2 hb1
  have hs1 := hF1.lt
  have hF2 : Blk (w1.alloc (.cells #[.int .i64 c, .int .i64 d] 29)) w1.heap.size 29 [.int .i64 c, .int .i64 d] := blk0 _ _
  obtain ⟨m0, m1, mf0, mf1⟩ := hF2.two
  obtain ⟨n0, n1, nf0, nf1⟩ := (hG1.alloc (.cells #[.int .i64 c, .int .i64 d] 29)).two
  obtain ⟨k0, k1, kf0, kf1⟩ := (hF1.alloc (.cells #[.int .i64 c, .int .i64 d] 29)).two
  have HP := hide (put22 (hG1.alloc (.cells #[.int .i64 c, .int .i64 d] 29)) (hF1.alloc (.cells #[.int .i64 c, .int .i64 d] 29)) (hB1.alloc hB1.size _) (Nat.le_refl _) (by omega) (by omega) (.int .i64 0) (.slice none 0 0) (.int .i64 c) (.int .i64 d))
  clear hG1 hF1 hF2 hb1
  have hz1 : ¬ w1.heap.size = w.heap.size := by omega
  have hz2 : ¬ w1.heap.size = w.heap.size + 1 := by omega
  go_wp2
  go_region
  all_goals go_wp2
  all_goals (
    obtain ⟨h1, h2, h3, _⟩ := HP.out
    obtain ⟨x0, x1, _, _⟩ := (blk_drew h1).two
    obtain ⟨x2, x3, _, _⟩ := (blk_drew h2).two
    have h4 := bdrew h3
    clear h1 h2 h3
    generalize World.drew _ = W at x0 x1 x2 x3 h4 ⊢
    exact bodyPost_ret (v := .tuple #[noG, .slice none 0 0, .agg #[.int .i64 c, .int .i64 d]]) (by simp [results, Try.results6, go_sem, x0, x1, x2, x3, noG]) rfl ⟨rfl, h4⟩)
end Go.Proofs.Ytgphcfmiamiojaa
