/- What check tells of the words that it is handed, and the document's WordsFault of two. -/
import Derived.Test.YtakmfhnigpmngaaFb
namespace Go.Proofs.Ytakmfhnigpmngaa
open Go Go.RowKit

/-- The first word with which something is wrong. -/
def wsc : List (List Int) → Int
  | [] => 0
  | w :: r => if wfc w = 0 then wsc r else wfc w
def wsa : List (List Int) → Int
  | [] => 0
  | w :: r => if wfc w = 0 then wsa r else wfa w
theorem wsc_ok : ∀ {ws : List (List Int)}, (∀ t, t < ws.length → wfc (ws[t]?.getD []) = 0) → wsc ws = 0 ∧ wsa ws = 0
  | [], _ => ⟨rfl, rfl⟩
  | w :: r, h => by
    have h0 : wfc w = 0 := h 0 (by simp)
    have := wsc_ok (ws := r) (fun t ht => by simpa using h (t + 1) (by simpa using ht))
    unfold wsc wsa
    rw [if_pos h0, if_pos h0]; exact this
theorem wsc_at : ∀ {ws : List (List Int)} {k : Nat}, k < ws.length → (∀ t, t < k → wfc (ws[t]?.getD []) = 0) → wfc (ws[k]?.getD []) ≠ 0 → wsc ws = wfc (ws[k]?.getD []) ∧ wsa ws = wfa (ws[k]?.getD [])
  | w :: r, 0, _, _, h => by
    have h0 : wfc w ≠ 0 := h
    unfold wsc wsa
    rw [if_neg h0, if_neg h0]; exact ⟨rfl, rfl⟩
  | w :: r, k + 1, hk, hall, h => by
    have h0 : wfc w = 0 := hall 0 (by omega)
    have := wsc_at (ws := r) (k := k) (by simpa using hk) (fun t ht => by simpa using hall (t + 1) (by omega)) (by simpa using h)
    unfold wsc wsa
    rw [if_pos h0, if_pos h0]; simpa using this
theorem wsc_one (w : List Int) : wsc [w] = wfc w ∧ wsa [w] = wfa w := by
  unfold wsc wsa
  by_cases h : wfc w = 0
  · rw [if_pos h, if_pos h, h, (wd_of_code h).code.2]; exact ⟨rfl, rfl⟩
  · rw [if_neg h, if_neg h]; exact ⟨rfl, rfl⟩
theorem wsc_zero {ws : List (List Int)} (h : ∀ w, w ∈ ws → Wd w) : wsc ws = 0 ∧ wsa ws = 0 := wsc_ok (fun t ht => by
  rw [List.getElem?_eq_getElem ht]; exact (h _ (List.getElem_mem ht)).code.1)
theorem wsc_all : ∀ {ws : List (List Int)}, wsc ws = 0 → ∀ w, w ∈ ws → Wd w
  | v :: r, h, w, hw => by
    unfold wsc at h
    by_cases hv : wfc v = 0
    · rw [if_pos hv] at h
      rcases List.mem_cons.1 hw with rfl | hw
      · exact wd_of_code hv
      · exact wsc_all h w hw
    · rw [if_neg hv] at h; exact absurd h hv

/-- A slice of slices of ints. -/
def SlW (w : World) (v : Value) (ws : List (List Int)) : Prop := ∃ a cap pb po, v = .slice a ws.length cap ∧ (0 < ws.length → a = some ⟨pb, po, none⟩) ∧ (∀ j, j < ws.length → ∃ u, w.cell? ⟨pb, po + j, none⟩ = some u ∧ Sl w u (ws[j]?.getD [])) ∧ pb < w.heap.size ∧ ws.length ≤ cap ∧ cap ≤ maxLen
theorem SlW.below {w w' : World} {v : Value} {ws : List (List Int)} (h : SlW w v ws) (hb : Below w.heap.size w w') : SlW w' v ws := by
  obtain ⟨a, cap, pb, po, hv, h1, h2, h3, h4, h5⟩ := h
  refine ⟨a, cap, pb, po, hv, h1, fun j hj => ?_, Nat.lt_of_lt_of_le h3 hb.size, h4, h5⟩
  obtain ⟨u, hu, hs⟩ := h2 j hj
  exact ⟨u, below_cell hb hu, hs.below hb⟩
theorem SlW.one {w : World} {u : Value} {zs : List Int} (h : Sl w u zs) : SlW (w.alloc (.cells #[u] 22)) (.slice (some ⟨w.heap.size, 0, none⟩) 1 1) [zs] := by
  refine ⟨_, 1, w.heap.size, 0, rfl, fun _ => rfl, fun j hj => ?_, by simp, by simp, by unfold maxLen; omega⟩
  have : j = 0 := by simp at hj; omega
  subst this
  exact ⟨u, (show Blk (w.alloc (.cells #[u] 22)) w.heap.size 22 [u] from World.alloc_heap_new w _).cell 0, h.below (balloc w _)⟩
theorem SlW.two {w : World} {u v : Value} {zs ys : List Int} (h : Sl w u zs) (k : Sl w v ys) : SlW (w.alloc (.cells #[u, v] 22)) (.slice (some ⟨w.heap.size, 0, none⟩) 2 2) [zs, ys] := by
  refine ⟨_, 2, w.heap.size, 0, rfl, fun _ => rfl, fun j hj => ?_, by simp, by simp, by unfold maxLen; omega⟩
  have : j = 0 ∨ j = 1 := by simp at hj; omega
  rcases this with rfl | rfl
  · exact ⟨u, (show Blk (w.alloc (.cells #[u, v] 22)) w.heap.size 22 [u, v] from World.alloc_heap_new w _).cell 0, h.below (balloc w _)⟩
  · exact ⟨v, (show Blk (w.alloc (.cells #[u, v] 22)) w.heap.size 22 [u, v] from World.alloc_heap_new w _).cell 1, k.below (balloc w _)⟩
theorem SlW.three {w : World} {u v x : Value} {zs ys xs : List Int} (h : Sl w u zs) (k : Sl w v ys) (l : Sl w x xs) : SlW (w.alloc (.cells #[u, v, x] 22)) (.slice (some ⟨w.heap.size, 0, none⟩) 3 3) [zs, ys, xs] := by
  refine ⟨_, 3, w.heap.size, 0, rfl, fun _ => rfl, fun j hj => ?_, by simp, by simp, by unfold maxLen; omega⟩
  have : j = 0 ∨ j = 1 ∨ j = 2 := by simp at hj; omega
  rcases this with rfl | rfl | rfl
  · exact ⟨u, (show Blk (w.alloc (.cells #[u, v, x] 22)) w.heap.size 22 [u, v, x] from World.alloc_heap_new w _).cell 0, h.below (balloc w _)⟩
  · exact ⟨v, (show Blk (w.alloc (.cells #[u, v, x] 22)) w.heap.size 22 [u, v, x] from World.alloc_heap_new w _).cell 1, k.below (balloc w _)⟩
  · exact ⟨x, (show Blk (w.alloc (.cells #[u, v, x] 22)) w.heap.size 22 [u, v, x] from World.alloc_heap_new w _).cell 2, l.below (balloc w _)⟩

set_option maxRecDepth 100000 in
set_option maxHeartbeats 2000000 in
theorem wsfault_any (v u : Value) (zs ys : List Int) (w : World) (hv : Sl w v zs) (hu : Sl w u ys) :
    Calls Try.prog 19 #[v, u] w fun e w' => e = .returned (.agg #[.int .i64 (wsc [zs, ys]), .int .i64 (wsa [zs, ys])]) ∧ Below w.heap.size w w' := by
  have H1 := hide (fun W (h : Below w.heap.size w W) => wfault_any v zs W (hv.below h))
  have H2 := hide (fun W (h : Below w.heap.size w W) => wfault_any u ys W (hu.below h))
  have hB0 := balloc w (.cells #[.int .i64 0, .int .i64 0] 26)
  have hR0 := new26 w
  obtain ⟨a, cap, pb, po, rfl, hr, hp, hcap, hcm⟩ := hv
  obtain ⟨a', cap', pb', po', rfl, hr', hp', hcap', hcm'⟩ := hu
  by_cases hc : wfc zs = 0
  · have ha : wfa zs = 0 := (wd_of_code hc).code.2
    have hc2 : wsc [zs, ys] = wfc ys := by rw [show wsc [zs, ys] = _ from if_pos hc]; exact (wsc_one ys).1
    have ha2 : wsa [zs, ys] = wfa ys := by rw [show wsa [zs, ys] = _ from if_pos hc]; exact (wsc_one ys).2
    rw [hc2, ha2]
    rw [hc, ha] at H1
    clear hc ha hc2 ha2
    generalize wfc ys = c at *
    generalize wfa ys = d at *
    go_enter Try.func19, Try.ntmps19
    go_wp2_with fail
    refine (H1.out _ hB0).mono ?_
    rintro e w1 ⟨rfl, hl1⟩
    have hB1 := bcat hB0 hl1 hB0.size
    have hR1 : Blk w1 w.heap.size 26 [.int .i64 0, .int .i64 0] := hR0.of_eq (hl1.block _ hR0.lt)
    have hB2 := hB1.alloc hB1.size (.cells #[.int .i64 0, .int .i64 0] 26)
    have hR2 := hR1.alloc (.cells #[.int .i64 0, .int .i64 0] 26)
    have hF2 := new26 w1
    have hne := hR1.lt
    go_wp2_with fail
    refine (H2.out _ hB2).mono ?_
    rintro e w2 ⟨rfl, hl2⟩
    have hB3 := bcat hB2 hl2 hB2.size
    have hR3 : Blk w2 w.heap.size 26 [.int .i64 0, .int .i64 0] := hR2.of_eq (hl2.block _ hR2.lt)
    have hF3 : Blk w2 w1.heap.size 26 [.int .i64 0, .int .i64 0] := hF2.of_eq (hl2.block _ hF2.lt)
    obtain ⟨x0, x1, y0, y1⟩ := hR3.two
    obtain ⟨p0, p1, q0, q1⟩ := hF3.two
    have hge := hB1.size
    have hnn : ¬ w1.heap.size = w.heap.size := by omega
    go_wp2
    refine bodyPost_ret (v := .agg #[.int .i64 c, .int .i64 d]) (by simp [results, Try.results19, go_sem, x0, x1]) rfl ⟨rfl, ?_⟩
    exact (((hB3.setCell (p := ⟨w1.heap.size, 0, none⟩) hge _).setCell (p := ⟨w1.heap.size, 1, none⟩) hge _).setCell (p := ⟨w.heap.size, 0, none⟩) (Nat.le_refl _) _).setCell (p := ⟨w.heap.size, 1, none⟩) (Nat.le_refl _) _
  · have hc2 : wsc [zs, ys] = wfc zs := if_neg hc
    have ha2 : wsa [zs, ys] = wfa zs := if_neg hc
    rw [hc2, ha2]
    have hcb : (wfc zs == 0) = false := by simpa using hc
    clear hc hc2 ha2
    generalize wfc zs = c at *
    generalize wfa zs = d at *
    go_enter Try.func19, Try.ntmps19
    go_wp2_with fail
    refine (H1.out _ hB0).mono ?_
    rintro e w1 ⟨rfl, hl1⟩
    have hB1 := bcat hB0 hl1 hB0.size
    have hR1 : Blk w1 w.heap.size 26 [.int .i64 0, .int .i64 0] := hR0.of_eq (hl1.block _ hR0.lt)
    have hne := hR1.lt
    have hnn : ¬ w1.heap.size = w.heap.size := by omega
    obtain ⟨x0, x1, y0, y1⟩ := hR1.two
    have hR9 : Blk (((w1.setCell ⟨w.heap.size, 0, none⟩ (.int .i64 c)).setCell ⟨w.heap.size, 1, none⟩ (.int .i64 d)).alloc (.cells #[.int .i64 c, .int .i64 d] 26)) w.heap.size 26 [.int .i64 c, .int .i64 d] := ((hR1.set 0 _).set 1 _).alloc _
    obtain ⟨z0, z1, _, _⟩ := hR9.two
    go_wp2
    refine bodyPost_ret (v := .agg #[.int .i64 c, .int .i64 d]) (by simp [results, Try.results19, go_sem, z0, z1]) rfl ⟨rfl, ?_⟩
    first
      | exact ((hB1.alloc hB1.size _).setCell (p := ⟨w.heap.size, 0, none⟩) (Nat.le_refl _) _).setCell (p := ⟨w.heap.size, 1, none⟩) (Nat.le_refl _) _
      | exact ((hB1.setCell (p := ⟨w.heap.size, 0, none⟩) (Nat.le_refl _) _).setCell (p := ⟨w.heap.size, 1, none⟩) (Nat.le_refl _) _).alloc (by rw [size_set, size_set]; exact hB1.size) _

set_option maxRecDepth 100000 in
set_option maxHeartbeats 2000000 in
theorem checks_any (v : Value) (ws : List (List Int)) (w : World) (hv : SlW w v ws) :
    Calls Try.prog 36 #[v] w fun e w' => e = .returned (.agg #[.int .i64 (wsc ws), .int .i64 (wsa ws)]) ∧ Below w.heap.size w w' := by
  obtain ⟨a, cap, pb, po, rfl, hat, hcells, hp, hcap, hcm⟩ := hv
  unfold maxLen at hcm
  have HC := hide hcells
  have hB0 := balloc w (.cells #[.int .i64 0, .int .i64 0] 26)
  have hR0 := new26 w
  clear hcells
  go_enter Try.func36, Try.ntmps36
  go_wp2_with fail
  go_loopw [8] (fun i wr => ∃ k : Nat, k ≤ ws.length ∧ i = .int .i64 k ∧ Blk wr w.heap.size 26 [.int .i64 0, .int .i64 0] ∧ Below w.heap.size w wr ∧ (∀ t, t < k → wfc (ws[t]?.getD []) = 0)) (fun i _ => ws.length - (intOf i).toNat)
  case atStart => exact ⟨0, Nat.zero_le _, rfl, hR0, hB0, fun t ht => by omega⟩
  case round =>
    clear hB0 hR0
    obtain ⟨k, hk, rfl, hR, hB, hall⟩ := hrel
    have HA := hide hall
    clear hall
    have hge := hB.size
    have hne := hR.lt
    by_cases hlt : k < ws.length
    · obtain rfl := hat (by omega)
      obtain ⟨u, hu, hs⟩ := HC.out k hlt
      have hu1 := below_cell hB hu
      have HK := hide (check_any u _ wr (hs.below hB))
      have HAT := hide (fun h => wsc_at hlt HA.out h)
      have HD := hide (fun h => (wd_of_code (w := ws[k]?.getD []) h).code.2)
      clear hu hs
      obtain ⟨zs, hzs⟩ : ∃ zs, ws[k]?.getD [] = zs := ⟨_, rfl⟩
      rw [hzs] at HK HAT HD
      have HZ := hide hzs
      clear hzs
      have hkl : (k : Int) < (ws.length : Int) := by omega
      by_cases hc : wfc zs = 0
      · have ha := HD.out hc
        rw [hc, ha] at HK
        have HCZ := hide hc
        clear hc ha HAT HD
        go_wp2_with fail
        refine HK.out.mono ?_
        rintro e w1 ⟨rfl, hl1⟩
        have hB1 := bcat hB hl1 hge
        have hR1 : Blk w1 w.heap.size 26 [.int .i64 0, .int .i64 0] := hR.of_eq (hl1.block _ hne)
        go_wp2
        go_roundw
        case rel => exact ⟨k + 1, by omega, by go_num, hR1.alloc _, hB1.alloc hB1.size _, fun t ht => by
            by_cases e : t = k
            · rw [e, HZ.out]; exact HCZ.out
            · exact HA.out t (by omega)⟩
        case measure => simp [intOf]; omega
      · obtain ⟨he1, he2⟩ := HAT.out hc
        have HE1 := hide he1
        have HE2 := hide he2
        have hcb : (wfc zs == 0) = false := by simpa using hc
        have hcn : (wfc zs != 0) = true := by simpa using hc
        clear hc he1 he2 HAT HD
        generalize wfc zs = c at *
        generalize wfa zs = d at *
        go_wp2_with fail
        refine HK.out.mono ?_
        rintro e w1 ⟨rfl, hl1⟩
        have hB1 := bcat hB hl1 hge
        have hR1 : Blk w1 w.heap.size 26 [.int .i64 0, .int .i64 0] := hR.of_eq (hl1.block _ hne)
        have hne1 := hR1.lt
        have hnn : ¬ w1.heap.size = w.heap.size := by omega
        obtain ⟨x0, x1, y0, y1⟩ := hR1.two
        have hR9 : Blk (((w1.setCell ⟨w.heap.size, 0, none⟩ (.int .i64 c)).setCell ⟨w.heap.size, 1, none⟩ (.int .i64 d)).alloc (.cells #[.int .i64 c, .int .i64 d] 26)) w.heap.size 26 [.int .i64 c, .int .i64 d] := ((hR1.set 0 _).set 1 _).alloc _
        obtain ⟨z0, z1, _, _⟩ := hR9.two
        go_wp2
        refine bodyPost_ret (v := .agg #[.int .i64 c, .int .i64 d]) (by simp [results, Try.results36, go_sem, z0, z1]) rfl ⟨by rw [HE1.out, HE2.out], ?_⟩
        exact ((hB1.setCell (p := ⟨w.heap.size, 0, none⟩) (Nat.le_refl _) _).setCell (p := ⟨w.heap.size, 1, none⟩) (Nat.le_refl _) _).alloc (by rw [size_set, size_set]; exact hB1.size) _
    · obtain ⟨he1, he2⟩ := wsc_ok (ws := ws) (fun t ht => HA.out t (by omega))
      have HE1 := hide he1
      have HE2 := hide he2
      clear he1 he2
      obtain ⟨x0, x1, y0, y1⟩ := hR.two
      go_wp2
      refine bodyPost_ret (v := .agg #[.int .i64 0, .int .i64 0]) (by simp [results, Try.results36, go_sem, x0, x1]) rfl ⟨by rw [HE1.out, HE2.out], ?_⟩
      exact (hB.setCell (p := ⟨w.heap.size, 0, none⟩) (Nat.le_refl _) _).setCell (p := ⟨w.heap.size, 1, none⟩) (Nat.le_refl _) _

end Go.Proofs.Ytakmfhnigpmngaa
