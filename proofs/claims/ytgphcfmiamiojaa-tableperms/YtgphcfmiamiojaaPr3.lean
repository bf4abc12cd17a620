/- What Perms of package table answers at permutations that make a group. No condition. -/
import Derived.Test.YtgphcfmiamiojaaPr2
namespace Go.Proofs.Ytgphcfmiamiojaa
open Go Go.RowKit
open Pm

theorem AllP.pos {l T : List (List Int)} {n : Nat} (h : AllP l n T) : 1 ≤ T.length := by
  have h1 := (h.2 _).2 (.one : Gd l n (idL n))
  have := List.length_pos_of_mem h1
  omega
/-- What Perms answers where there are no more than sixty things, and where there are. -/
def Fine (l : List (List Int)) (n base : Nat) (w' : World) (e : Ending) : Prop :=
  (∃ T, AllP l n T ∧ T.length ≤ 60 ∧ ∃ u S, e = .returned (.tuple #[.agg #[.int .i64 T.length, u], S, .agg #[.int .i64 0, .int .i64 0]]) ∧ SlF base w' u (mkT T.length (pf T)) ∧ SlL w' S T) ∨
  ((∃ T : List (List Int), 60 < T.length ∧ RiseL T ∧ ∀ p, p ∈ T → Gen l p) ∧ e = .returned (.tuple #[noG, .slice none 0 0, .agg #[.int .i64 9, .int .i64 0]]))
theorem t3_put {W W' : World} {b1 b2 : Nat} {xs ys : List Value} (h : ∀ k, k ≠ b1 → k ≠ b2 → W'.heap[k]? = W.heap[k]?) (h1 : Blk W b1 27 xs) (h2 : Blk W b2 29 ys) : T3 W W' := fun g c fz hg => h g (fun e => by
    subst e
    have e2 := hg.symm.trans (show W.heap[g]? = _ from h1)
    simp at e2) (fun e => by
    subst e
    have e2 := hg.symm.trans (show W.heap[g]? = _ from h2)
    simp at e2)
theorem SlF.kept {base : Nat} {w w' : World} {v : Value} {zs : List Int} (h : SlF base w v zs) (hk : ∀ b, base ≤ b → b < w.heap.size → w'.heap[b]? = w.heap[b]?) (hs : w.heap.size ≤ w'.heap.size) : SlF base w' v zs := by
  obtain ⟨a, cap, pb, po, h1, h2, h3, h4, h5, h6⟩ := h
  exact ⟨a, cap, pb, po, h1, h2.of_eq (hk pb h6 h3), by omega, h4, h5, h6⟩
theorem end6 {w3 W6 W7 : World} {b1 b2 base8 base2 : Nat} {xs ys vs : List Value} {u S : Value} {zs : List Int} {T : List (List Int)}
    (h4 : ∀ k, k ≠ b1 → k ≠ b2 → W7.heap[k]? = W6.heap[k]?) (hs : W6.heap.size ≤ W7.heap.size) (h5 : Blk W6 b1 27 xs) (h6 : Blk W6 b2 29 ys) (h7 : Below w3.heap.size w3 W6)
    (h8 : SlF base8 W6 u zs) (k1 : b1 < base8) (k2 : b2 < base8) (hq : Qs w3 base2 S vs) (k3 : b1 < base2) (k4 : b2 < base2) (hr : Rws w3 vs T) (h0 : 0 < W6.heap.size) :
    SlF base8 W7.drew u zs ∧ SlL W7.drew S T := by
  have hk : T3 w3 W7.drew := (T3.below h7).trans (show T3 W6 W7.drew from t3_put h4 h5 h6)
  refine ⟨h8.kept (fun b e1 e2 => h4 b (by omega) (by omega)) hs, (hr.keep hk).slL (hq.keep fun g hg => ?_) (Nat.lt_of_lt_of_le h0 hs)⟩
  obtain ⟨e1, cur, hc⟩ := hq.ge hg
  exact (h4 g (by omega) (by omega)).trans (h7.block g hc.lt)
set_option maxRecDepth 100000 in
set_option maxHeartbeats 8000000 in
theorem perms_fine (v : Value) (l : List (List Int)) (n : Nat) (w : World) (hv : SlL w v l) (hm : ∀ p, p ∈ l → p.length ≤ maxLen) (h : (mfault l).1 = 0) (hnl : (l[0]?.getD []).length = n) :
    Calls Try.prog 6 #[v] w fun e w' => Fine l n w.heap.size w' e ∧ Below w.heap.size w w' := by
  obtain ⟨hmf, hne, h20, hl, hn⟩ := mfault_good h
  rw [hnl] at hl hn
  have HMK := hide (fun (V : World) (h : Below w.heap.size w V) => makers_any v l V (hv.below h) hm)
  have HAL := hide (fun (V : World) (h : Below w.heap.size w V) => allP_ok v l n V (hv.below h) hl hne h20 hn)
  rw [hmf] at HMK
  have HL := hide hl
  have HW := hide (start6 w)
  have HMK2 := hide (HMK.out _ HW.out.1)
  clear hv hm HMK h hmf hne h20 hl hnl
  go_enter Try.func6, Try.ntmps6
  go_wp2_with fail
  refine HMK2.out.mono ?_
  rintro e w1 ⟨rfl, hb1⟩
  have hB1 := bcat HW.out.1 hb1 HW.out.1.size
  have hG1 := blk_below HW.out.2.1 hb1
  have hF1 := blk_below HW.out.2.2 hb1
  have hs1 := hF1.lt
  obtain ⟨w2, hw2⟩ : ∃ w2, w2 = w1.alloc (.cells #[.int .i64 0, .int .i64 0] 29) := ⟨_, rfl⟩
  have hF2 : Blk w2 w1.heap.size 29 [.int .i64 0, .int .i64 0] := by rw [hw2]; exact blk0 _ _
  have hG2 : Blk w2 w.heap.size 27 [.int .i64 0, .slice none 0 0] := by rw [hw2]; exact hG1.alloc (.cells #[.int .i64 0, .int .i64 0] 29)
  have hK2 : Blk w2 (w.heap.size + 1) 29 [.int .i64 0, .int .i64 0] := by rw [hw2]; exact hF1.alloc (.cells #[.int .i64 0, .int .i64 0] 29)
  have hB2 : Below w.heap.size w w2 := by rw [hw2]; exact hB1.alloc hB1.size _
  obtain ⟨m0, m1, mf0, mf1⟩ := hF2.two
  have hz1 : ¬ w1.heap.size = w.heap.size := by omega
  have hz2 : ¬ w1.heap.size = w.heap.size + 1 := by omega
  have HG := hide (And.intro hG2 (And.intro hK2 hB2))
  have HAL2 := hide (HAL.out _ hB2)
  have hs2 : w2.heap.size = w1.heap.size + 1 := by rw [hw2]; exact World.size_alloc _ _
  clear hG1 hF1 hF2 hb1 HAL hG2 hK2 hB1 hB2
  rw [hw2] at m0 m1 mf0 mf1
  go_wp2_with fail
  rw [← hw2]
  refine HAL2.out.mono ?_
  rintro e w3 ⟨r, vs, T, rfl, hq, hr, hrs, hgen, h80, hAll, hb3⟩
  clear m0 m1 mf0 mf1 hw2
  obtain ⟨hG2, hK2, hB2⟩ := HG.out
  have hB3 := bcat hB2 hb3 hB2.size
  have hG3 := blk_below hG2 hb3
  have hK3 := blk_below hK2 hb3
  have hs3 : w1.heap.size + 1 ≤ w3.heap.size := by have := hb3.size; omega
  have hSL := hr.slL hq (by omega)
  obtain ⟨ra, rc, rfl⟩ := hq.shape
  rw [hr.1] at hSL hq ⊢
  obtain ⟨w4, hw4⟩ : ∃ w4, w4 = w3.alloc (.cells #[.slice ra T.length rc] 22) := ⟨_, rfl⟩
  have hx4 : Boxed w4 w3.heap.size 22 (.slice ra T.length rc) := by rw [hw4]; exact Boxed.new w3 22 _
  have hG4 : Blk w4 w.heap.size 27 [.int .i64 0, .slice none 0 0] := by rw [hw4]; exact hG3.alloc (.cells #[.slice ra T.length rc] 22)
  have hK4 : Blk w4 (w.heap.size + 1) 29 [.int .i64 0, .int .i64 0] := by rw [hw4]; exact hK3.alloc (.cells #[.slice ra T.length rc] 22)
  have hB4 : Below w.heap.size w w4 := by rw [hw4]; exact hB3.alloc hB3.size _
  have hSL4 : SlL w4 (.slice ra T.length rc) T := by rw [hw4]; exact hSL.below (balloc w3 _)
  have hs4 : w4.heap.size = w3.heap.size + 1 := by rw [hw4]; exact World.size_alloc _ _
  have HQR := hide (And.intro hq hr)
  have xc := hx4.cell
  have hz3 : ¬ w3.heap.size = w.heap.size := by omega
  have hz4 : ¬ w3.heap.size = w.heap.size + 1 := by omega
  clear hq hr hSL hG3 hK3 hB3 hG2 hK2 hB2 hb3
  by_cases h60 : T.length ≤ 60
  · have h6d : decide ((60 : Int) < (T.length : Int)) = false := decide_eq_false (by omega)
    have h6n : ¬ (60 : Int) < (T.length : Int) := by omega
    have hA := hAll h60
    have HA := hide hA
    have hpos := hA.pos
    have HMB := hide (madeBy_ok T.length 20 #[.pointer (some ⟨w3.heap.size, 0, none⟩)] (pf T) w4 hpos h60 (fun a b W => call20 a b _ W)
      (fun W a b hW ha hb => perms1_ok l T n w3.heap.size a b _ W HL.out hn hA h60 (Boxed.below hx4 hW) (hSL4.below hW) ha hb))
    have HG4 := hide (And.intro hG4 (And.intro hK4 (And.intro hB4 (And.intro hx4 hSL4))))
    clear hA hAll hrs hgen hG4 hK4 hB4 hx4 hSL4
    rw [hw4] at xc
    go_wp2_with fail
    rw [← hw4]
    refine HMB.out.mono ?_
    rintro e w5 ⟨u, rfl, hu, hb5⟩
    have hw4' := hw4
    clear xc hw4
    obtain ⟨hG4, hK4, hB4, hx4, hSL4⟩ := HG4.out
    have hB5 := bcat hB4 hb5 hB4.size
    have hx5 := Boxed.below hx4 hb5
    have hs5 : w3.heap.size + 1 ≤ w5.heap.size := by have := hb5.size; omega
    have hG5 := blk_below hG4 hb5
    have hK5 := blk_below hK4 hb5
    obtain ⟨ua, uc, _, _, rfl, _⟩ := id hu
    rw [mkT_len] at *
    obtain ⟨M, hM⟩ : ∃ M, T.length * T.length = M := ⟨_, rfl⟩
    rw [hM] at hu ⊢
    obtain ⟨w6, hw6⟩ : ∃ w6, w6 = w5.alloc (.cells #[.int .i64 T.length, .slice ua M uc] 27) := ⟨_, rfl⟩
    have hg6 : Blk w6 w5.heap.size 27 [.int .i64 T.length, .slice ua M uc] := by rw [hw6]; exact blk0 _ _
    have hx6 : Boxed w6 w3.heap.size 22 (.slice ra T.length rc) := by rw [hw6]; exact hx5.alloc (.cells #[.int .i64 T.length, .slice ua M uc] 27)
    have hG6 : Blk w6 w.heap.size 27 [.int .i64 0, .slice none 0 0] := by rw [hw6]; exact hG5.alloc (.cells #[.int .i64 T.length, .slice ua M uc] 27)
    have hK6 : Blk w6 (w.heap.size + 1) 29 [.int .i64 0, .int .i64 0] := by rw [hw6]; exact hK5.alloc (.cells #[.int .i64 T.length, .slice ua M uc] 27)
    have hB6 : Below w.heap.size w w6 := by rw [hw6]; exact hB5.alloc hB5.size _
    have hb6 : Below w3.heap.size w3 w6 := by
      rw [hw6]
      exact (bcat (by rw [hw4']; exact balloc w3 _) hb5 (by omega)).alloc (by omega) _
    have hu6 : SlF w4.heap.size w6 (.slice ua M uc) (mkT T.length (pf T)) := hu.kept (w' := w6) (fun b h1 h2 => by rw [hw6]; exact Below.heap_alloc _ _ _ h2) (by rw [hw6, World.size_alloc]; omega)
    obtain ⟨g0, g1, _, _⟩ := hg6.two
    have xc := hx6.cell
    obtain ⟨n0, n1, nf0, nf1⟩ := hG6.two
    obtain ⟨k0, k1, kf0, kf1⟩ := hK6.two
    have hz5 : ¬ w5.heap.size = w.heap.size := by omega
    have hz6 : ¬ w5.heap.size = w.heap.size + 1 := by omega
    have hz7 : ¬ w5.heap.size = w3.heap.size := by omega
    have HP := hide (And.intro (put22 hG6 hK6 hB6 (Nat.le_refl _) (by omega) (by omega) (.int .i64 T.length) (.slice ua M uc) (.int .i64 0) (.int .i64 0)) (And.intro hG6 (And.intro hK6 (And.intro hb6 hu6))))
    clear hu hG4 hK4 hB4 hx4 hSL4 hB5 hx5 hb5 hG5 hK5 hg6 hx6 hG6 hK6 hB6 hb6 hu6 hM
    rw [hw6] at g0 g1 xc n0 n1 nf0 nf1 k0 k1 kf0 kf1
    go_wp2
    go_region
    all_goals go_wp2
    all_goals (
      obtain ⟨⟨h1, h2, h3, h4⟩, h5, h6, h7, h8⟩ := HP.out
      obtain ⟨h9, h10⟩ := end6 h4 (by rw [size_set, size_set, size_set, size_set]; exact Nat.le_refl _) h5 h6 h7 h8 (by omega) (by omega) HQR.out.1 (by omega) (by omega) HQR.out.2 (by have := h5.lt; omega)
      obtain ⟨x0, x1, _, _⟩ := (blk_drew h1).two
      obtain ⟨x2, x3, _, _⟩ := (blk_drew h2).two
      have h11 := bdrew h3
      rw [hw6] at x0 x1 x2 x3 h9 h10 h11
      clear h1 h2 h3 h4
      generalize World.drew _ = W at x0 x1 x2 x3 h9 h10 h11 ⊢
      exact bodyPost_ret (v := .tuple #[.agg #[.int .i64 T.length, .slice ua M uc], .slice ra T.length rc, .agg #[.int .i64 0, .int .i64 0]]) (by simp [results, Try.results6, go_sem, x0, x1, x2, x3]) rfl ⟨.inl ⟨T, HA.out, h60, _, _, rfl, h9.mono (by omega), h10⟩, h11⟩)
  · have h6d : decide ((60 : Int) < (T.length : Int)) = true := decide_eq_true (by omega)
    have h6n : (60 : Int) < (T.length : Int) := by omega
    have hsixty : 60 < T.length := by omega
    have HT := hide (And.intro hsixty (And.intro hrs hgen))
    obtain ⟨n0, n1, nf0, nf1⟩ := hG4.two
    obtain ⟨k0, k1, kf0, kf1⟩ := hK4.two
    have HP := hide (put22 hG4 hK4 hB4 (Nat.le_refl _) (by omega) (by omega) (.int .i64 0) (.slice none 0 0) (.int .i64 9) (.int .i64 0))
    clear hAll hrs hgen hG4 hK4 hB4 hx4 hSL4 hsixty
    rw [hw4] at n0 n1 nf0 nf1 k0 k1 kf0 kf1 xc
    go_wp2
    rw [← hw4]
    obtain ⟨h1, h2, h3, _⟩ := HP.out
    obtain ⟨x0, x1, _, _⟩ := h1.two
    obtain ⟨x2, x3, _, _⟩ := h2.two
    generalize (((w4.setCell ⟨w.heap.size, 0, none⟩ (.int .i64 0)).setCell ⟨w.heap.size, 1, none⟩ (.slice none 0 0)).setCell ⟨w.heap.size + 1, 0, none⟩ (.int .i64 9)).setCell ⟨w.heap.size + 1, 1, none⟩ (.int .i64 0) = W at x0 x1 x2 x3 h3 ⊢
    exact bodyPost_ret (v := .tuple #[noG, .slice none 0 0, .agg #[.int .i64 9, .int .i64 0]]) (by simp [results, Try.results6, go_sem, x0, x1, x2, x3, noG]) rfl ⟨.inr ⟨⟨T, HT.out⟩, rfl⟩, h3⟩
end Go.Proofs.Ytgphcfmiamiojaa
