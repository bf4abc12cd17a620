/- What beads.Bracelets answers where nothing is wrong, and the document's examples. -/
import Derived.Test.YtojnjfkonaeegaaDoorBra
import Derived.Test.YtojnjfkonaeegaaDoorBrj
namespace Go.Proofs.YtojnjfkonaeegaaDoor
open Go Go.RowKit
open YtojnjfkonaeegaaDoorQ (UN decimal_any Tab UN.below UN.mono val)

theorem Tab.up {w w' : World} (h : Tab w.heap.size w) (hb : Below w.heap.size w w') : Tab w'.heap.size w' := by
  obtain ⟨h1, g, h2, h3⟩ := YtojnjfkonaeegaaDoorQ.Tab.below h hb
  exact ⟨h1, g, h2, Nat.lt_of_lt_of_le h3 hb.size⟩

theorem brj_len {n : Nat} : ∀ (l : List (List Int)), (∀ x ∈ l, x.length ≤ n) → (brj n l).length ≤ l.length * n
  | [], _ => by simp [brj]
  | w :: r, h => by
    have h1 := brj_len r (fun x hx => h x (List.mem_cons_of_mem _ hx))
    have h2 := h w (List.mem_cons_self ..)
    simp only [brj, List.length_append, List.length_cons, Nat.add_mul]
    split
    · omega
    · simp; omega
theorem lws_count (n : Nat) (k : Int) : ∀ (f : Nat) (w : List Int), (lws n k f w).length ≤ f
  | 0, _ => by simp [lws]
  | f + 1, w => by
    simp only [lws, List.length_cons]
    split
    · simp
    · have := lws_count n k f (nxt n k w); omega
theorem lws_small {n f : Nat} {k : Int} (hn : 0 < n) (hf : f * n ≤ 1000000) : ∀ pre q post, pre ++ q :: post = lws n k f [0] → (brj n pre).length ≤ 1000000 := by
  intro pre q post h
  have h1 := lws_count n k f [0]
  have h2 := lws_len (n := n) (k := k) f [0] (by simp) (by simp; omega)
  rw [← h] at h1 h2
  have h3 := brj_len pre (n := n) (fun x hx => h2 x (List.mem_append_left _ hx))
  have h4 : pre.length * n ≤ f * n := Nat.mul_le_mul_right _ (by simp at h1; omega)
  omega

set_option maxRecDepth 100000 in
set_option maxHeartbeats 4000000 in
theorem bracelets_good (n k : Nat) (w : World) (h1 : 1 ≤ n) (h2 : n ≤ 1000) (h3 : 1 ≤ k) (h4 : k ≤ 1000) (htab : Tab w.heap.size w) :
    Calls Tryd.prog 27 #[.int .i64 n, .int .i64 k] w fun e w' => e = .returned (.tuple #[.string ⟨(Lib.decDigits (((lyw k (dvs n)).sum + (lyw k (dvs n)).sum + (k ^ ((n + 1) / 2) + k ^ (n / 2 + 1))) / 4)).toArray⟩, .agg #[.int .i64 0, .int .i64 0]]) ∧ Below w.heap.size w w' := by
  have hB0 : Below w.heap.size w (w.alloc (.cells #[.int .i64 0, .int .i64 0] 25)) := balloc w _
  have HC := hide (check_good n k (w.alloc (.cells #[.int .i64 0, .int .i64 0] 25)) h1 h2 h3 h4)
  have HB := hide (fun W => bracelets_ok n k W (by omega) h2 (by omega) h4)
  have hR := new26 w
  generalize ((lyw k (dvs n)).sum + (lyw k (dvs n)).sum + (k ^ ((n + 1) / 2) + k ^ (n / 2 + 1))) / 4 = N at *
  go_enter Tryd.func27, Tryd.ntmps27
  go_wp2_with fail
  refine HC.out.mono ?_
  rintro e w1 ⟨rfl, hb1⟩
  have hB1 := bcat hB0 hb1 (by simp)
  have hR2 := (hR.of_eq (hb1.block _ hR.lt)).alloc (.cells #[.int .i64 0, .int .i64 0] 25)
  have hB2 := hB1.alloc hB1.size (.cells #[.int .i64 0, .int .i64 0] 25)
  have hs1 : w.heap.size < w1.heap.size := (hR.of_eq (hb1.block _ hR.lt)).lt
  clear HC hB1 hb1 hB0 hR
  go_wp2_with fail
  generalize w1.alloc (.cells #[.int .i64 0, .int .i64 0] 25) = w2 at *
  refine (HB.out _).mono ?_
  rintro e w3 ⟨v, rfl, hU3, hb3⟩
  obtain ⟨a, m, c, rfl⟩ := UN.blk hU3
  have hB3 := bcat hB2 hb3 hB2.size
  have hR3 := hR2.of_eq (hb3.block _ hR2.lt)
  have hT3 := Tab.up htab hB3
  obtain ⟨qs, q1, q2, q3, q4, q5⟩ := hU3
  have HD := hide (decimal_any _ _ qs w3 q1 q2 q3 (by omega) hT3)
  rw [q4] at HD
  clear HB hB2 hR2 hb3 hT3 q1 q2 q3 q4 q5
  go_wp2_with fail
  refine HD.out.mono ?_
  rintro e w4 ⟨rfl, hb4⟩
  have hB4 := bcat hB3 hb4 hB3.size
  have hR4 := hR3.of_eq (hb4.block _ hR3.lt)
  obtain ⟨_, c0, c1, f0, f1, s0, s1⟩ := Two.mk' hR4
  clear HD hB3 hR3 hb4
  obtain ⟨T, hT⟩ : ∃ T, (⟨(Lib.decDigits N).toArray⟩ : ByteArray) = T := ⟨_, rfl⟩
  rw [hT]
  have HT := hide hT
  clear hT
  go_wp2
  exact bodyPost_ret (v := .tuple #[.string T, .agg #[.int .i64 0, .int .i64 0]]) (by simp [results, Tryd.results27, go_sem, c0, c1]) rfl ⟨by rw [HT.out], hB4⟩

theorem thirteen : Lib.decDigits (((lyw 2 (dvs 6)).sum + (lyw 2 (dvs 6)).sum + (2 ^ ((6 + 1) / 2) + 2 ^ (6 / 2 + 1))) / 4) = [49, 51] := by
  have h : ((lyw 2 (dvs 6)).sum + (lyw 2 (dvs 6)).sum + (2 ^ ((6 + 1) / 2) + 2 ^ (6 / 2 + 1))) / 4 = 13 := by decide
  rw [h, YtojnjfkonaeegaaDoorQ.dec_step (by omega), Lib.decDigits_one (i := 13 / 10) (by omega)]
  rfl
theorem eight : brj 3 (lws 3 2 10 [0]) = [0, 0, 0, 1, 0, 1, 1, 1] := by decide

set_option maxRecDepth 100000 in
set_option maxHeartbeats 4000000 in
theorem begun_any (w : World) (htab : Tab w.heap.size w) : Calls Tryd.prog 7 #[] w fun e w' => e = .returned (.bool true) ∧ Below w.heap.size w w' ∧ 0 < w'.heap.size := by
  have HB1 := hide (bracelets_good 6 2 w (by omega) (by omega) (by omega) (by omega) htab)
  rw [thirteen] at HB1
  go_enter Tryd.func7, Tryd.ntmps7
  go_wp2_with fail
  refine HB1.out.mono ?_
  rintro e w1 ⟨rfl, hb1⟩
  have hF1 := new26 w1
  have hB1 := hb1.alloc hb1.size (.cells #[.int .i64 0, .int .i64 0] 25)
  have HJ := hide (bruijn_good 3 2 10 (w1.alloc (.cells #[.int .i64 0, .int .i64 0] 25)) (by omega) (by omega) (by omega) (by omega) (by omega) (by decide) (lws_small (by omega) (by omega)))
  rw [show ((2 : Nat) : Int) = 2 from rfl, eight] at HJ
  clear HB1 hb1
  go_wp2_with fail
  generalize w1.alloc (.cells #[.int .i64 0, .int .i64 0] 25) = w2 at *
  refine HJ.out.mono ?_
  rintro e w3 ⟨v, rfl, hr3, hb3⟩
  obtain ⟨a, c, rfl⟩ := hr3.slice
  have hB3 := bcat hB1 hb3 hB1.size
  have hF3 := hF1.of_eq (hb3.block _ hF1.lt)
  have hlt3 := hF3.lt
  have hsv3 := hr3.sl (show 0 < w3.heap.size by omega)
  have hF4 := hF3.alloc (.cells #[.int .i64 0, .int .i64 0] 25)
  have hG4 := new26 w3
  have hsv4 := hsv3.below (balloc w3 (.cells #[.int .i64 0, .int .i64 0] 25))
  have hB4 := hB3.alloc hB3.size (.cells #[.int .i64 0, .int .i64 0] 25)
  have hL5 : Blk ((w3.alloc (.cells #[.int .i64 0, .int .i64 0] 25)).alloc (.cells #[.int .i64 0, .int .i64 0, .int .i64 0, .int .i64 1, .int .i64 0, .int .i64 1, .int .i64 1, .int .i64 1] 3)) (w3.heap.size + 1) 3 (([0, 0, 0, 1, 0, 1, 1, 1] : List Int).map (Value.int .i64)) := by
    have := World.alloc_heap_new (w3.alloc (.cells #[.int .i64 0, .int .i64 0] 25)) (.cells #[.int .i64 0, .int .i64 0, .int .i64 0, .int .i64 1, .int .i64 0, .int .i64 1, .int .i64 1, .int .i64 1] 3)
    rw [World.size_alloc] at this; exact this
  have hs5 := Sl.of_blk hL5 (n := 8) rfl (by simp)
  have HI := hide (ints_any _ _ _ _ _ (hsv4.below (balloc _ _)) hs5)
  have hB5 := hB4.alloc hB4.size (.cells #[.int .i64 0, .int .i64 0, .int .i64 0, .int .i64 1, .int .i64 0, .int .i64 1, .int .i64 1, .int .i64 1] 3)
  obtain ⟨f0, _, _, _⟩ := hF4.two
  obtain ⟨g0, _, _, _⟩ := hG4.two
  have hlt4 : w1.heap.size < w3.heap.size := hlt3
  clear HJ hr3 hb3 hB1 hF1 hF3 hsv3 hsv4 hL5 hs5 hF4 hG4
  go_wp2_with fail
  refine HI.out.mono ?_
  rintro e w6 ⟨rfl, hb6⟩
  have hB6 := bcat hB5 hb6 hB5.size
  have hp6 : 0 < w6.heap.size := by have := hb6.size; simp at this; omega
  go_wp2
  go_ret
  exact ⟨rfl, hB6, hp6⟩

end Go.Proofs.YtojnjfkonaeegaaDoor
