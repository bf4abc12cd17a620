/- What the closure of package sub's All answers. -/
import Derived.Test.YtelglfegpfhbpaaDoorSt2
namespace Go.Proofs.YtelglfegpfhbpaaDoor
open Go Go.RowKit

/-- How two lists compare by their lengths first. -/
def cmpN (xs ys : List Int) : Int := orL [cmpI xs.length ys.length, cmpL xs ys]
theorem two_sl (w : World) (c d : Int) : Sl (w.alloc (.cells #[.int .i64 c, .int .i64 d] 3)) (.slice (some ⟨w.heap.size, 0, none⟩) 2 2) [c, d] := by
  refine ⟨_, _, w.heap.size, 0, rfl, ⟨fun _ => rfl, fun j hj => ?_⟩, by simp, by simp, by unfold maxLen; omega⟩
  have h := blk0 (w := w) (T := 3) (.int .i64 c) (.int .i64 d)
  match j, hj with
  | 0, _ => exact h.cell 0
  | 1, _ => exact h.cell 1
set_option maxRecDepth 100000 in
set_option maxHeartbeats 2000000 in
theorem lcmp_ok (v u : Value) (xs ys : List Int) (w : World) (hv : Sl w v xs) (hu : Sl w u ys) (hx : xs.length ≤ 60) (hy : ys.length ≤ 60) :
    Calls Tryd.prog 77 #[v, u] w fun e w' => e = .returned (.int .i64 (cmpN xs ys)) ∧ ∃ o q, w' = (w.alloc o).drewN q := by
  have HS := hide (scmp_ok v u xs ys w hv hu hx hy)
  have HI := hide (cmpI_ok xs.length ys.length w)
  obtain ⟨xa, xcap, xb, xo, rfl, _⟩ := hv
  obtain ⟨ya, ycap, yb, yo, rfl, _⟩ := hu
  obtain ⟨c, hc⟩ : ∃ c, cmpI xs.length ys.length = c := ⟨_, rfl⟩
  obtain ⟨d, hd⟩ : ∃ d, cmpL xs ys = d := ⟨_, rfl⟩
  unfold cmpN
  rw [hc] at HI ⊢
  rw [hd] at HS ⊢
  clear hc hd
  go_enter Tryd.func77, Tryd.ntmps77
  go_wp2_with fail
  refine HI.out.mono ?_
  rintro e w1 ⟨rfl, rfl⟩
  go_wp2_with fail
  refine HS.out.mono ?_
  rintro e w2 ⟨rfl, rfl⟩
  go_wp2_with fail
  refine (or_ok _ [c, d] (w2.alloc (.cells #[.int .i64 c, .int .i64 d] 3)) (two_sl w2 c d) (by simp)).mono ?_
  rintro e w3 ⟨rfl, rfl⟩
  go_wp2
  go_ret
  exact ⟨rfl, _, 0, rfl⟩
end Go.Proofs.YtelglfegpfhbpaaDoor
