/- What the law's own helper permBegun answers: true, in every world in which the library's table of powers of ten lies as the program lays it; nothing that lay has turned. -/
import Derived.Test.YtjchmhngfnlbhaaDoorText
import Derived.Test.YtjchmhngfnlbhaaDoorRank
namespace Go.Proofs.YtjchmhngfnlbhaaDoor
open Go Go.RowKit Go.Sort

theorem begun_text : ptext [1, 2, 0, 3] = [40, 48, 32, 49, 32, 50, 41] := by
  have h1 : moved (cyc [1, 2, 0, 3]) = [[0, 1, 2]] := by decide
  have h2 : flat [[0, 1, 2]] = [40, 48, 32, 49, 32, 50, 41] := by
    have i0 : Lib.itoa 0 = [48] := (Lib.itoa_nonneg 0).trans (by rw [Lib.decDigits_one (by omega)]; rfl)
    have i1 : Lib.itoa 1 = [49] := (Lib.itoa_nonneg 1).trans (by rw [Lib.decDigits_one (by omega)]; rfl)
    have i2 : Lib.itoa 2 = [50] := (Lib.itoa_nonneg 2).trans (by rw [Lib.decDigits_one (by omega)]; rfl)
    simp [flat, ctext, part, i0, i1, i2]
  unfold ptext
  rw [h1, h2]
  rfl
theorem begun_rank : rk [2, 1, 0] 3 = 5 := by decide

theorem reads_new (w : World) (zs : List Int) : Reads (w.alloc (.cells (zs.map (Value.int .i64)).toArray 3)) (some ⟨w.heap.size, 0, none⟩) w.heap.size 0 zs := by
  have hb : Blk (w.alloc (.cells (zs.map (Value.int .i64)).toArray 3)) w.heap.size 3 (zs.map (Value.int .i64)) := World.alloc_heap_new w _
  exact ⟨fun _ => rfl, fun j hj => by rw [Nat.zero_add]; exact hb.int hj⟩

set_option maxRecDepth 100000 in
set_option maxHeartbeats 2000000 in
theorem begun_any (w : World) (htab : Tab w.heap.size w) : Calls Tryd.prog 14 #[] w fun e w' => e = .returned (.bool true) ∧ Below w.heap.size w w' := by
  go_enter Tryd.func14, Tryd.ntmps14
  go_wp2_with fail
  have hB0 : Below w.heap.size w (w.alloc (.cells #[.int .i64 1, .int .i64 2, .int .i64 0, .int .i64 3] 3)) := (Below.refl _ w).alloc (Nat.le_refl _) _
  refine (text_ok _ 4 w.heap.size 0 [1, 2, 0, 3] _ (reads_new w [1, 2, 0, 3]) (by simp) (by decide) ((htab.below hB0).mono (by simp))).mono ?_
  rintro e w1 ⟨rfl, hb1⟩
  rw [begun_text]
  have hB1 := hB0.trans (hb1.mono (by simp))
  go_wp2_with fail
  have hB2 : Below w.heap.size w ((w1.alloc (.cells #[.int .i64 0, .int .i64 0] 26)).alloc (.cells #[.int .i64 2, .int .i64 1, .int .i64 0] 3)) := (hB1.alloc hB1.size _).alloc (by have := hB1.size; simp; omega) _
  have hr2 : Reads ((w1.alloc (.cells #[.int .i64 0, .int .i64 0] 26)).alloc (.cells #[.int .i64 2, .int .i64 1, .int .i64 0] 3)) (some ⟨w1.heap.size + 1, 0, none⟩) (w1.heap.size + 1) 0 [2, 1, 0] := by
    have := reads_new (w1.alloc (.cells #[.int .i64 0, .int .i64 0] 26)) [2, 1, 0]
    rw [World.size_alloc] at this
    exact this
  have hc2 : Blk ((w1.alloc (.cells #[.int .i64 0, .int .i64 0] 26)).alloc (.cells #[.int .i64 2, .int .i64 1, .int .i64 0] 3)) w1.heap.size 26 [.int .i64 0, .int .i64 0] :=
    (show Blk (w1.alloc (.cells #[.int .i64 0, .int .i64 0] 26)) w1.heap.size 26 [.int .i64 0, .int .i64 0] from World.alloc_heap_new w1 _).alloc _
  have hs2 : ((w1.alloc (.cells #[.int .i64 0, .int .i64 0] 26)).alloc (.cells #[.int .i64 2, .int .i64 1, .int .i64 0] 3)).heap.size = w1.heap.size + 2 := by simp
  generalize (w1.alloc (.cells #[.int .i64 0, .int .i64 0] 26)).alloc (.cells #[.int .i64 2, .int .i64 1, .int .i64 0] 3) = w2 at hB2 hr2 hc2 hs2 ⊢
  have htab2 := (htab.below hB2).mono hB2.size
  have hdec : DecSpec (rk ([2, 1, 0] : List Int) ([2, 1, 0] : List Int).length) := decimal_small 5 (by omega)
  refine (rank_ok _ 3 (w1.heap.size + 1) 0 [2, 1, 0] w2 hr2 (by omega) (by decide) (by decide) (by decide) (by unfold maxLen; omega) htab2 hdec).mono ?_
  rintro e w3 ⟨rfl, hb3⟩
  have he : Lib.decDigits (rk ([2, 1, 0] : List Int) ([2, 1, 0] : List Int).length) = [53] := (Lib.decDigits_one (i := 5) (by omega)).trans rfl
  rw [he]
  have hB3 := hB2.trans (hb3.mono hB2.size)
  have hc3 : Blk w3 w1.heap.size 26 [.int .i64 0, .int .i64 0] := hc2.of_eq (hb3.block _ (by omega))
  have hc30 : w3.cell? ⟨w1.heap.size, 0, none⟩ = some (.int .i64 0) := hc3.cell 0
  have hlt3 := hc3.lt
  clear hr2 hs2 hdec he hB0 hb1
  go_wp2
  go_ret
  exact ⟨rfl, hB3.alloc hB3.size _⟩
end Go.Proofs.YtjchmhngfnlbhaaDoor
