/- What the document's Homs answers: all homomorphisms, put in order, or that there are more than asked. What package hom's all yields, as mathematics: each homomorphism that fits, once. The document's search for homomorphisms and the program's, as mathematics: both have each homomorphism once; the program's stand in order; so, put in order, they are the same. What the document's fault of a permutation and its Inverse answer. Inner automorphisms, as mathematics: what is left of the conjugations, sorted, when those that are there ahead are struck; as many as the centre has cosets. What package hom's Inner and Autos answer at a table that is no group, and Autos at a group of more than 24 things. Least makers are the same, whoever finds them. What package hom's Autos answers where there are more than 1000. Condition: the library's table of places lies as its text lays it. What the document's Then answers. Package sub's Centre, at everything. Condition: the library's table of places lies as its text lays it. Automorphisms and inner ones, as mathematics: what Autos lists are permutations that keep products; one of them, behind an inner one, behind its inverse, is an inner one. What the document's Lists, and listsAs of the laws, answer. For the law HomAutos: the document's OneToOne, the law's closure (inner automorphisms, each once, in order), and the mathematics of both. Isomorphisms as mathematics: orders are kept, so both groups have the same orders as often; what hom's single yields between two groups of the same size are all isomorphisms. The isomorphism theorems as mathematics: two homomorphisms of one group onto two others that lead the same things to the one have isomorphic images. -/
import Derived.Test.YtlhjeenijcokoaaGreatDoorZ7
import Derived.Test.YtlhjeenijcokoaaGreatDoorZ8
import Derived.Test.YtlhjeenijcokoaaGreatDoorZ4
namespace Go.Proofs.YtlhjeenijcokoaaGreatDoor
open Go Go.RowKit

/-- A list of orders, as far as k things are gone through. -/
def flO (o : Nat → Nat) (m k : Nat) : List Int := li ((List.range k).map o) ++ List.replicate (m - k) 0
theorem flO_len {o : Nat → Nat} {m k : Nat} (h : k ≤ m) : (flO o m k).length = m := by simp [flO, li]; omega
theorem flO_set {o : Nat → Nat} {m k : Nat} (h : k < m) : (flO o m k).set k (o k : Int) = flO o m (k + 1) := by
  unfold flO
  obtain ⟨j, hj⟩ : ∃ j, m - k = j + 1 := ⟨m - k - 1, by omega⟩
  have hl : (li ((List.range k).map o)).length = k := by simp [li]
  rw [List.set_append_right _ _ (by rw [hl]; exact Nat.le_refl _), hl, Nat.sub_self, hj, List.replicate_succ, List.set_cons_zero, show m - (k + 1) = j by omega, List.range_succ]
  simp [li]
theorem flO_zero {o : Nat → Nat} {m : Nat} : flO o m 0 = List.replicate m 0 := by simp [flO, li]
theorem flO_all {o : Nat → Nat} {m : Nat} : flO o m m = li ((List.range m).map o) := by simp [flO]
theorem rep_int (m : Nat) : (List.replicate m (0 : Int)).map (Value.int .i64) = List.replicate m (.int .i64 0) := by simp
theorem below_of {B : Nat} {W0 W1 W : World} (h : Below W1.heap.size W1 W0) (k : Below B W0 W) (hB : W1.heap.size ≤ B) : Below W1.heap.size W1 W := h.trans (k.mono hB)
/-- What Homs answers. -/
structure HmR (n : Nat) (zs : List Int) (e m : Nat) (ys : List Int) (d most : Nat) (w : World) (x : Ending) (w' : World) : Prop where
  bel : Below w.heap.size w w'
  ans : ∃ ks : List Nat, (∀ k, k ∈ ks → k < n) ∧ ks.length ≤ n ∧ (∀ x, x < n → Mkd n zs e (fun a => decide (a ∈ ks)) x) ∧
    (((dhF n zs e m ys d ks ks.length []).length ≤ most ∧ ∃ (r : Value) (us : List Value) (ms : List (List Int)), x = .returned (.tuple #[r, .bool true]) ∧ w'.ownsRow w.heap.size 22 1 r us.length us ∧ Lsts w' w.heap.size r us ms ∧ ms.Perm (dhF n zs e m ys d ks ks.length []) ∧ srt ms) ∨
     (¬ (dhF n zs e m ys d ks ks.length []).length ≤ most ∧ x = .returned (.tuple #[.slice none 0 0, .bool false])))
theorem dhF_len {n e m d : Nat} {zs ys : List Int} {ks : List Nat} (g : IsGrp n zs e) (h : IsGrp m ys d) (hk : ∀ k, k ∈ ks → k < n) : ∀ (f : Nat) (js : List Nat), (∀ j, j ∈ js → j < m) → ∀ l, l ∈ dhF n zs e m ys d ks f js → l.length = n
  | 0, js, hj, l, hl => by
    unfold dhF at hl
    cases hR : ext n zs e m ys d (ks.zip js) with
    | none => rw [hR] at hl; cases hl
    | some S =>
      rw [hR] at hl
      have hl : l = S.1 := by simpa using hl
      rw [hl]
      exact (ext_grow g h (fun p hp => ⟨hk _ (List.of_mem_zip hp).1, hj _ (List.of_mem_zip hp).2⟩) hR).1.len
  | f + 1, js, hj, l, hl => by
    unfold dhF at hl
    obtain ⟨b, hb, hl⟩ := List.mem_flatMap.1 hl
    split at hl
    · exact dhF_len g h hk f (js ++ [b]) (fun j hjm => by
        rcases List.mem_append.1 hjm with h9 | h9
        · exact hj j h9
        · simp at h9; rw [h9]; exact List.mem_range.1 hb) l hl
    · cases hl
set_option maxRecDepth 100000 in
set_option maxHeartbeats 8000000 in
theorem homs_ok (n e m d most : Nat) (v y : Value) (zs ys : List Int) (w : World) (hv : Sl w v zs) (hg : IsGrp n zs e) (hy : Sl w y ys) (hh : IsGrp m ys d) (hmost : most ≤ 10000) :
    Calls Tryz.prog 17 #[.agg #[.int .i64 n, v], .agg #[.int .i64 m, y], .int .i64 most] w (HmR n zs e m ys d most w) := by
  obtain ⟨v1, v2, v3, rfl⟩ := hv.isSlice
  obtain ⟨y1, y2, y3, rfl⟩ := hy.isSlice
  obtain ⟨i0, hi3, hz0, hz1, hz2⟩ := info_parts info3b
  have hn60 := hg.tab.le
  have hm60 := hh.tab.le
  obtain ⟨w0, hw0⟩ : ∃ w0, w0 = ((w.alloc (.cells #[.int .i64 n, .slice v1 v2 v3] 24)).alloc (.cells #[.int .i64 m, .slice y1 y2 y3] 24)).alloc (.cells #[.int .i64 most] 3) := ⟨_, rfl⟩
  have hs0a : w0.heap.size ≤ w.heap.size + 3 := by rw [hw0]; simp
  have hs0b : w.heap.size + 3 ≤ w0.heap.size := by rw [hw0]; simp
  have hB0 : Below w.heap.size w w0 := by rw [hw0]; exact ((balloc w _).alloc (by simp) _).alloc (by simp; omega) _
  have hG0 : BoxG w0 w.heap.size n (.slice v1 v2 v3) := by rw [hw0]; exact Blk.alloc (Blk.alloc (blk0 _ _) _) _
  have hH0 : BoxG w0 (w.heap.size + 1) m (.slice y1 y2 y3) := by
    rw [hw0]
    have := Blk.alloc (blk0 (w := w.alloc (.cells #[.int .i64 n, .slice v1 v2 v3] 24)) (T := 24) (.int .i64 m) (.slice y1 y2 y3)) (.cells #[.int .i64 most] 3)
    rwa [World.size_alloc] at this
  have hM0 : Boxed w0 (w.heap.size + 1 + 1) 3 (.int .i64 most) := by
    rw [hw0]
    have := Boxed.new ((w.alloc (.cells #[.int .i64 n, .slice v1 v2 v3] 24)).alloc (.cells #[.int .i64 m, .slice y1 y2 y3] 24)) 3 (.int .i64 most)
    rwa [World.size_alloc, World.size_alloc] at this
  obtain ⟨c0, c1, _, _⟩ := hG0.two
  have HMK := hide (makers_ok n e (.slice v1 v2 v3) zs w0 (hv.below hB0) hg)
  rw [hw0] at c0 c1
  go_enter Tryz.func17, Tryz.ntmps17
  go_wp2_with fail
  rw [← hw0]
  clear hw0 c0 c1
  refine HMK.out.mono ?_
  rintro x W1 ⟨r, ks, rfl, hrow, hkn, hks, hall, hb1⟩
  have hs1 := hb1.size
  have hlS := row_sl hrow (by omega)
  obtain ⟨l1, l3, hre⟩ := own_slice hrow
  rw [li_len] at hre
  subst hre
  obtain ⟨W2, hW2⟩ : ∃ W2, W2 = W1.alloc (.cells #[.slice l1 ks.length l3] 22) := ⟨_, rfl⟩
  have hL2 : Boxed W2 W1.heap.size 22 (.slice l1 ks.length l3) := by rw [hW2]; exact Boxed.new W1 22 _
  have hb2 : Below W1.heap.size W1 W2 := by rw [hW2]; exact balloc W1 _
  have hs2a : W2.heap.size ≤ W1.heap.size + 1 := by rw [hW2]; simp
  have hs2b : W1.heap.size + 1 ≤ W2.heap.size := by rw [hW2]; simp
  have hlS2 := hlS.below hb2
  clear hrow hlS
  have k0 := hL2.cell
  rw [hW2] at k0
  go_wp2_with (first
    | (at_make; refine wpList_make_full _ rfl _ _ 22 rfl W2.heap.size 3 i0 (.int .i64 0) 1 under22b hi3 hz0 hz1 _ _ _ _ ks.length rfl rfl rfl rfl (by rw [hz2]; omega) (by unfold maxLen; omega) (by rw [hW2]; simp) ?_))
  rw [← hW2]
  intro W3 hown hgr
  have hT3 : Blk W3 (W1.heap.size + 1) 3 ((List.replicate ks.length (0 : Int)).map (Value.int .i64)) := by
    have := Blk.of_owns hown
    rw [made_rep] at this
    rw [rep_int]
    simpa using this
  have hb3 : Below W2.heap.size W2 W3 := (Below.refl _ _).grown hgr (Nat.le_refl _) (by simp)
  have hs3 : W1.heap.size + 1 < W3.heap.size := hT3.lt
  clear hown hgr k0 hW2
  obtain ⟨W4, hW4⟩ : ∃ W4, W4 = (W3.alloc (.cells #[.slice (some ⟨W1.heap.size + 1, 0, none⟩) ks.length ks.length] 22)).alloc (.cells #[.slice none 0 0] 38) := ⟨_, rfl⟩
  have hs4a : W4.heap.size ≤ W3.heap.size + 1 + 1 := by rw [hW4]; simp
  have hs4b : W3.heap.size + 1 + 1 ≤ W4.heap.size := by rw [hW4]; simp
  have hb4 : Below W3.heap.size W3 W4 := by rw [hW4]; exact (balloc W3 _).alloc (by simp) _
  have hTb4 : Boxed W4 W3.heap.size 22 (.slice (some ⟨W1.heap.size + 1, 0, none⟩) ks.length ks.length) := by rw [hW4]; exact (Boxed.new W3 22 _).alloc _
  have hOb4 : Boxed W4 (W3.heap.size + 1) 38 (.slice none 0 0) := by
    rw [hW4]
    have := Boxed.new (W3.alloc (.cells #[.slice (some ⟨W1.heap.size + 1, 0, none⟩) ks.length ks.length] 22)) 38 (.slice none 0 0)
    rwa [World.size_alloc] at this
  have hb04 : Below w0.heap.size w0 W4 := bcat2 hb1 (bcat2 hb2 (bcat2 hb3 hb4))
  obtain ⟨c0, c1, _, _⟩ := (blk_below hH0 hb04).two
  rw [hW4] at c0 c1
  go_wp2_with (first
    | (at_make; refine wpList_make_full _ rfl _ _ 22 rfl W4.heap.size 3 i0 (.int .i64 0) 1 under22b hi3 hz0 hz1 _ _ _ _ m rfl rfl rfl rfl (by rw [hz2]; omega) (by unfold maxLen; omega) (by rw [hW4]; simp) ?_))
  rw [← hW4]
  intro W5 hown hgr
  have hR5 : Blk W5 (W3.heap.size + 1 + 1) 3 ((flO (ordN m ys d) m 0).map (Value.int .i64)) := by
    have := Blk.of_owns hown
    rw [made_rep] at this
    rw [flO_zero, rep_int]
    simpa using this
  have hb5 : Below W4.heap.size W4 W5 := (Below.refl _ _).grown hgr (Nat.le_refl _) (by simp)
  have hs5 : W3.heap.size + 1 + 1 < W5.heap.size := hR5.lt
  clear hown hgr c0 c1 hW4
  obtain ⟨W6, hW6⟩ : ∃ W6, W6 = W5.alloc (.cells #[.slice (some ⟨W3.heap.size + 1 + 1, 0, none⟩) m m] 22) := ⟨_, rfl⟩
  have hs6a : W6.heap.size ≤ W5.heap.size + 1 := by rw [hW6]; simp
  have hs6b : W5.heap.size + 1 ≤ W6.heap.size := by rw [hW6]; simp
  have hb6 : Below W5.heap.size W5 W6 := by rw [hW6]; exact balloc W5 _
  have hRb6 : Boxed W6 W5.heap.size 22 (.slice (some ⟨W3.heap.size + 1 + 1, 0, none⟩) m m) := by rw [hW6]; exact Boxed.new W5 22 _
  have hR6 : Blk W6 (W3.heap.size + 1 + 1) 3 ((flO (ordN m ys d) m 0).map (Value.int .i64)) := blk_below hR5 hb6
  have hb46 : Below W4.heap.size W4 W6 := bcat2 hb5 hb6
  have hb06 : Below w0.heap.size w0 W6 := bcat2 hb04 hb46
  have HH6 := hide (fun W (h : Kp W6.heap.size (W3.heap.size + 1 + 1) (W3.heap.size + 1 + 1) W6 W) => show BoxG W (w.heap.size + 1) m (.slice y1 y2 y3) ∧ Sl W (.slice y1 y2 y3) ys from by
    have h9 := hb06.trans ((h.to_below (B := W4.heap.size) (by omega) (by omega) (by omega)).mono hb04.size)
    exact ⟨blk_below hH0 h9, (hy.below hB0).below h9⟩)
  have HRB := hide (fun W (h : Kp W6.heap.size (W3.heap.size + 1 + 1) (W3.heap.size + 1 + 1) W6 W) => show Boxed W W5.heap.size 22 (.slice (some ⟨W3.heap.size + 1 + 1, 0, none⟩) m m) from (h.block _ hRb6.lt (by omega) (by omega)).trans hRb6)
  have HO := hide (fun W k (h : Sl W (.slice y1 y2 y3) ys) (hk : k < m) => O_ok hh hk (.slice y1 y2 y3) W h)
  have HOB := hide (fun k (hk : k < m) => ord_le hh hk)
  go_wp2
  rw [← hW6]
  clear hW6 hR5
  go_loopw [12] (fun i wr => ∃ k : Nat, k ≤ m ∧ i = .int .i64 k ∧ Kp W6.heap.size (W3.heap.size + 1 + 1) (W3.heap.size + 1 + 1) W6 wr ∧ Blk wr (W3.heap.size + 1 + 1) 3 ((flO (ordN m ys d) m k).map (Value.int .i64))) (fun i _ => m - (intOf i).toNat)
  case atStart => exact ⟨0, Nat.zero_le _, rfl, Kp.refl, hR6⟩
  case round =>
    obtain ⟨k, hk, rfl, hKk, hRk⟩ := hrel
    clear hR6
    obtain ⟨hHk, hyk⟩ := HH6.out wr hKk
    obtain ⟨c0, c1, _, _⟩ := hHk.two
    by_cases hlt : k < m
    · have hki : (k : Int) < (m : Int) := by omega
      have cr := (HRB.out wr hKk).cell
      have HOk := hide (fun W (h : Below wr.heap.size wr W) => HO.out W k (hyk.below h) hlt)
      have HFS := hide (flO_set (o := ordN m ys d) hlt)
      have hRl := flO_len (o := ordN m ys d) hk
      generalize ordN m ys d k = o at *
      have hS : ∀ U, Below wr.heap.size wr U → (U.cell? ⟨W5.heap.size, 0, none⟩ = some (.slice (some ⟨W3.heap.size + 1 + 1, 0, none⟩) m m) ∧ U.cell? ⟨w.heap.size + 1, 0, none⟩ = some (.int .i64 m) ∧ U.cell? ⟨w.heap.size + 1, 1, none⟩ = some (.slice y1 y2 y3)) := fun U h => ⟨below_cell h cr, below_cell h c0, below_cell h c1⟩
      have hset : ∀ (U : World) (b t : Nat) (x z : Value), b ≠ W3.heap.size + 1 + 1 → U.cell? ⟨b, t, none⟩ = some z → (U.setCell ⟨W3.heap.size + 1 + 1, k, none⟩ x).cell? ⟨b, t, none⟩ = some z := fun U b t x z h1 h2 => (World.cell?_of_block (a := ⟨b, t, none⟩) (Below.heap_setCell U ⟨W3.heap.size + 1 + 1, k, none⟩ x b h1)).trans h2
      have hS3 : ∀ U, Below wr.heap.size wr U → ((U.setCell ⟨W3.heap.size + 1 + 1, k, none⟩ (.int .i64 o)).cell? ⟨W5.heap.size, 0, none⟩ = some (.slice (some ⟨W3.heap.size + 1 + 1, 0, none⟩) m m) ∧ (U.setCell ⟨W3.heap.size + 1 + 1, k, none⟩ (.int .i64 o)).cell? ⟨w.heap.size + 1, 0, none⟩ = some (.int .i64 m) ∧ (U.setCell ⟨W3.heap.size + 1 + 1, k, none⟩ (.int .i64 o)).cell? ⟨w.heap.size + 1, 1, none⟩ = some (.slice y1 y2 y3)) := fun U h => ⟨hset U _ _ _ _ (by omega) (hS U h).1, hset U _ _ _ _ (by omega) (hS U h).2.1, hset U _ _ _ _ (by omega) (hS U h).2.2⟩
      have hS0 := hS _ (bdrew (Below.refl _ wr))
      clear hset
      have HRL := hide hRl
      clear hRl
      go_wp2_with fail
      clear c0 c1 cr
      go_region_held3 (fun U => U.cell? ⟨W5.heap.size, 0, none⟩ = some (.slice (some ⟨W3.heap.size + 1 + 1, 0, none⟩) m m) ∧ U.cell? ⟨w.heap.size + 1, 0, none⟩ = some (.int .i64 m) ∧ U.cell? ⟨w.heap.size + 1, 1, none⟩ = some (.slice y1 y2 y3))
        (first | exact hS0 | assumption | exact hS3 _ hx1 | exact hS _ hx1)
        (first | (go_at_call 46; refine (HOk.out _ (bdrew (Below.refl _ wr))).mono ?_; rintro e1 U1 ⟨rfl, hl1⟩; have hx1 := undrew' hl1; have cw := (blk_below hRk hx1).int (y := k) (by rw [HRL.out]; exact hlt); have fw := (blk_below hRk hx1).frozen k))
      all_goals (
        have hK2 := (hKk.below hx1 hKk.size).set ⟨W3.heap.size + 1 + 1, k, none⟩ (.int .i64 o) (.inl rfl)
        have hR2 := (blk_below hRk hx1).setInt k o
        rw [HFS.out] at hR2
        go_wp2
        go_roundw
        case rel => exact ⟨k + 1, by omega, by go_num, hK2, hR2⟩
        case measure => simp [intOf]; omega)
    · have hki : ¬ (k : Int) < (m : Int) := by omega
      rw [show k = m by omega, flO_all] at hRk
      have hcall := call75
      obtain ⟨X, hX⟩ : ∃ X, X = wr.alloc (.cells #[.func (.func 48) #[] #[.pointer (some ⟨W1.heap.size, 0, none⟩), .pointer (some ⟨w.heap.size, 0, none⟩), .pointer (some ⟨w.heap.size + 1, 0, none⟩), .pointer (some ⟨W3.heap.size, 0, none⟩), .pointer (some ⟨W3.heap.size + 1, 0, none⟩), .pointer (some ⟨w.heap.size + 1 + 1, 0, none⟩), .pointer (some ⟨W5.heap.size, 0, none⟩), .pointer (some ⟨wr.heap.size, 0, none⟩)]] 51) := ⟨_, rfl⟩
      have hXs : X.heap.size = wr.heap.size + 1 := by rw [hX]; simp
      have hXb : Below wr.heap.size wr X := by rw [hX]; exact balloc wr _
      have hXn : Boxed X wr.heap.size 51 (.func (.func 48) #[] #[.pointer (some ⟨W1.heap.size, 0, none⟩), .pointer (some ⟨w.heap.size, 0, none⟩), .pointer (some ⟨w.heap.size + 1, 0, none⟩), .pointer (some ⟨W3.heap.size, 0, none⟩), .pointer (some ⟨W3.heap.size + 1, 0, none⟩), .pointer (some ⟨w.heap.size + 1 + 1, 0, none⟩), .pointer (some ⟨W5.heap.size, 0, none⟩), .pointer (some ⟨wr.heap.size, 0, none⟩)]) := by rw [hX]; exact Boxed.new wr 51 _
      have hsr := hKk.size
      have hX6 : ∀ b, b < W6.heap.size → b ≠ W3.heap.size + 1 + 1 → X.heap[b]? = W6.heap[b]? := fun b h1 h2 => (hXb.block b (by omega)).trans (hKk.block b h1 h2 h2)
      have hb26 : Below W2.heap.size W2 W6 := bcat2 hb3 (bcat2 hb4 hb46)
      have hb2X : Below W2.heap.size W2 X := hb26.trans ⟨hXb.os.trans hKk.os, hXb.tape.trans hKk.tape, hXb.output.trans hKk.output, Nat.le_trans hKk.size hXb.size, fun b hb => hX6 b (by omega) (by omega)⟩
      have HBEL : ∀ W, Kp X.heap.size (W1.heap.size + 1) (W3.heap.size + 1) X W → Below W2.heap.size W2 W := fun W h => hb2X.trans (h.to_below (by omega) (by omega) (by omega))
      have HBE0 : ∀ W, Kp X.heap.size (W1.heap.size + 1) (W3.heap.size + 1) X W → Below w0.heap.size w0 W := fun W h => (bcat2 hb1 hb2).trans ((HBEL W h).mono (by omega))
      have hE : HmE n zs e m ys d ks (.slice v1 v2 v3) (.slice y1 y2 y3) most l1 l3 W1.heap.size w.heap.size (w.heap.size + 1) W3.heap.size (w.heap.size + 1 + 1) W5.heap.size wr.heap.size (W3.heap.size + 1 + 1) X.heap.size (W1.heap.size + 1) (W3.heap.size + 1) X := by
        refine ⟨fun W h => ⟨Boxed.below hL2 (HBEL W h), hlS2.below (HBEL W h)⟩, fun W h => ⟨blk_below hG0 (HBE0 W h), (hv.below hB0).below (HBE0 W h)⟩, fun W h => ⟨blk_below hH0 (HBE0 W h), (hy.below hB0).below (HBE0 W h)⟩, fun W h => Boxed.below hM0 (HBE0 W h), fun W h => ⟨?_, ?_⟩, fun W h => ?_, fun W h => ?_, by omega, by omega, by omega⟩
        · exact (h.block _ (by omega) (by omega) (by omega)).trans ((hXb.block _ (by omega)).trans (HRB.out wr hKk))
        · exact (h.block _ (by omega) (by omega) (by omega)).trans ((hXb.block _ (by omega)).trans hRk)
        · exact (h.block _ (by omega) (by omega) (by omega)).trans hXn
        · exact (h.block _ (by omega) (by omega) (by omega)).trans ((hX6 _ (by omega) (by omega)).trans ((hb46.block _ (by omega)).trans hTb4))
      have hV : HmV X.heap.size (W1.heap.size + 1) (W3.heap.size + 1) X (List.replicate ks.length 0) [] := by
        refine ⟨Nat.le_refl _, ?_, .slice none 0 0, [], ?_, World.ownsRow_nil _ _ _ _, rfl, fun t x l h => by simp at h⟩
        · exact (hX6 _ (by omega) (by omega)).trans ((hb46.block _ (by omega)).trans ((hb4.block _ (by omega)).trans hT3))
        · exact (hX6 _ (by omega) (by omega)).trans ((hb46.block _ (by omega)).trans hOb4)
      have HC := hide (show Calls Tryz.prog 48 #[.int .i64 0, .pointer (some ⟨W1.heap.size, 0, none⟩), .pointer (some ⟨w.heap.size, 0, none⟩), .pointer (some ⟨w.heap.size + 1, 0, none⟩), .pointer (some ⟨W3.heap.size, 0, none⟩), .pointer (some ⟨W3.heap.size + 1, 0, none⟩), .pointer (some ⟨w.heap.size + 1 + 1, 0, none⟩), .pointer (some ⟨W5.heap.size, 0, none⟩), .pointer (some ⟨wr.heap.size, 0, none⟩)] X (HmP n zs e m ys d ks most X.heap.size (W1.heap.size + 1) (W3.heap.size + 1) X ks.length [] []) from
        homs_next hg hh hE hkn hks hmost hall ks.length [] _ [] X (by simp) (by simp) Kp.refl hV (by simp) (by simp [li]) (by simp))
      have HBX := hide (fun W (h : Kp X.heap.size (W1.heap.size + 1) (W3.heap.size + 1) X W) => show Below w.heap.size w W from hB0.trans ((HBE0 W h).mono (by omega)))
      have hwX : w.heap.size ≤ X.heap.size := by omega
      have hDl := dhF_len hg hh hkn ks.length [] (by simp)
      have HDL := hide hDl
      have HX := hide hX
      have HKN := hide hkn
      have HALL := hide hall
      clear hE hV hDl hXs hXn hsr hX6 hb26 hb2X HBEL HBE0 hb3 hb4 hb46 hb5 hb6 hb06 hb04 hRb6 hRk hKk hTb4 hOb4 hT3 hL2 hlS2 hM0 hH0 hG0 hHk hyk hb1 hb2 hkn hall
      clear hX
      go_wp2_with fail
      rw [← HX.out]
      clear c0 c1
      refine HC.out.mono ?_
      rintro x W8 ⟨hK8, hs8, rfl, hok⟩
      rw [List.nil_append] at hok ⊢
      have hB8 := HBX.out W8 hK8
      by_cases hle : (dhF n zs e m ys d ks ks.length []).length ≤ most
      · obtain ⟨T8, hV8, _, _⟩ := hok hle
        obtain ⟨r, vs, hr1, hr2, hr3⟩ := hV8.ex
        rw [decide_eq_true hle]
        have k0 := hr1.cell
        have HRI := hide (rising_ok X.heap.size n r vs _ W8 hr2 hr3 HDL.out hs8)
        obtain ⟨ra, rc, rfl⟩ := own_slice' hr2
        clear hok hV8 hr1 hr2 hr3
        go_wp2_with fail
        refine HRI.out.mono ?_
        rintro x W9 ⟨rfl, hb9, us, ms, hul, hpm, hst, hrow, hls⟩
        go_wp2
        exact bodyPost_ret (v := .tuple #[.slice ra vs.length rc, .bool true]) (by simp [results, Tryz.results17, go_sem]) rfl ⟨hB8.trans (hb9.mono hwX), ks, HKN.out, hks, HALL.out, .inl ⟨hle, _, us, ms, rfl, owns_mono hrow hwX, hls.mono hwX, hpm, hst⟩⟩
      · rw [decide_eq_false hle]
        clear hok
        go_wp2
        exact bodyPost_ret (v := .tuple #[.slice none 0 0, .bool false]) (by simp [results, Tryz.results17, go_sem]) rfl ⟨hB8, ks, HKN.out, hks, HALL.out, .inr ⟨hle, rfl⟩⟩
end Go.Proofs.YtlhjeenijcokoaaGreatDoor

namespace Go.Proofs.YtlhjeenijcokoaaGreatDoor
open Go Go.RowKit

section
variable {n e m d : Nat} {zs ys : List Int} {ks : List Nat} {fit : List Int → Bool} {FP : (Nat → Nat) → Prop}
theorem li_map_inj {φ ψ : Nat → Nat} (h : li ((List.range n).map φ) = li ((List.range n).map ψ)) {a : Nat} (ha : a < n) : φ a = ψ a := by
  have := congrArg (fun l : List Int => l[a]?.getD 0) h
  simp [li, ha] at this
  omega
theorem zip_mem {ks js : List Nat} (hl : js.length ≤ ks.length) {p : Nat × Nat} (hp : p ∈ (ks.take js.length).zip js) : ∃ i, ∃ h : i < js.length, p = (ks[i]'(by omega), js[i]) := by
  obtain ⟨i, hi, he⟩ := List.mem_iff_getElem.1 hp
  have hi2 : i < js.length := by rw [List.length_zip] at hi; omega
  refine ⟨i, hi2, ?_⟩
  rw [← he]
  simp
theorem zip_fst {ks js : List Nat} (hl : js.length ≤ ks.length) : ((ks.take js.length).zip js).map Prod.fst = ks.take js.length := List.map_fst_zip (by rw [List.length_take]; omega)
/-- Which lists all yields: the homomorphisms that fit, and in which the images stand for the makers. -/
theorem homF_mem (g : IsGrp n zs e) (h : IsGrp m ys d) (hk : ∀ k, k ∈ ks → k < n) (hall : ∀ a, a < n → Mkd n zs e (fun x => decide (x ∈ ks)) a)
    (h1 : ∀ φ S (ps : List (Nat × Nat)), IsHom n zs m ys φ → FP φ → (∀ p, p ∈ ps → p.1 < n ∧ φ p.1 = p.2) → ext n zs e m ys d ps = some S → fit S.1 = true)
    (h2 : ∀ φ, IsHom n zs m ys φ → fit (li ((List.range n).map φ)) = true → FP φ) :
    ∀ (f : Nat) (js : List Nat) (L : List Int), js.length ≤ ks.length → ks.length + 1 ≤ f + js.length → (∀ j, j ∈ js → j < m) →
      (L ∈ homF n zs e m ys d ks fit f js ↔ ∃ φ, IsHom n zs m ys φ ∧ FP φ ∧ L = li ((List.range n).map φ) ∧ ∀ i (hi : i < js.length) (hi2 : i < ks.length), φ ks[i] = js[i])
  | 0, js, L, hl, hf, hj => by omega
  | f + 1, js, L, hl, hf, hj => by
    have hp : ∀ p, p ∈ (ks.take js.length).zip js → p.1 < n ∧ p.2 < m := fun p hp => by
      obtain ⟨i, hi, rfl⟩ := zip_mem hl hp
      exact ⟨hk _ (List.getElem_mem _), hj _ (List.getElem_mem _)⟩
    constructor
    · intro hL
      cases hR : ext n zs e m ys d ((ks.take js.length).zip js) with
      | none => rw [homF_none hR] at hL; cases hL
      | some S =>
        cases hfit : fit S.1 with
        | false => rw [homF_unfit hR hfit] at hL; cases hL
        | true =>
          by_cases hle : js.length = ks.length
          · rw [homF_full hR hfit hle] at hL
            have hL : L = S.1 := by simpa using hL
            obtain ⟨H, hS⟩ := ext_hom g h hp hR (by rw [zip_fst hl, hle, List.take_length]; exact hall)
            refine ⟨vl S, H, h2 _ H (by rw [← hS]; exact hfit), by rw [hL]; exact hS, fun i hi hi2 => ?_⟩
            have hm : (ks[i], js[i]) ∈ (ks.take js.length).zip js := by
              rw [hle, List.take_length]
              exact List.mem_iff_getElem.2 ⟨i, by rw [List.length_zip]; omega, by simp⟩
            exact ext_at g h hp hR hm
          · rw [homF_on hR hfit hle] at hL
            obtain ⟨b, hb, hL⟩ := List.mem_flatMap.1 hL
            obtain ⟨φ, H, hF, hLe, hag⟩ := (homF_mem g h hk hall h1 h2 f (js ++ [b]) L (by simp; omega) (by simp; omega) (fun j hjm => by
              rcases List.mem_append.1 hjm with hjm | hjm
              · exact hj j hjm
              · simp at hjm; rw [hjm]; exact List.mem_range.1 hb)).1 hL
            refine ⟨φ, H, hF, hLe, fun i hi hi2 => ?_⟩
            have := hag i (by simp; omega) hi2
            rwa [List.getElem_append_left hi] at this
    · rintro ⟨φ, H, hF, rfl, hag⟩
      have hpφ : ∀ p, p ∈ (ks.take js.length).zip js → p.1 < n ∧ φ p.1 = p.2 := fun p hp => by
        obtain ⟨i, hi, rfl⟩ := zip_mem hl hp
        exact ⟨hk _ (List.getElem_mem _), hag i hi (by omega)⟩
      obtain ⟨S, hR, hv⟩ := ext_of_hom g h H hpφ
      have hfit := h1 φ S _ H hF hpφ hR
      by_cases hle : js.length = ks.length
      · rw [homF_full hR hfit hle]
        obtain ⟨_, hS⟩ := ext_hom g h hp hR (by rw [zip_fst hl, hle, List.take_length]; exact hall)
        obtain ⟨r1, _⟩ := ext_grow g h hp hR
        have hin : ∀ a, a < n → a ∈ S.2 := fun a ha => (ext_made g h hp hR).2 (by rw [zip_fst hl, hle, List.take_length]; exact hall a ha)
        have : li ((List.range n).map φ) = S.1 := by
          rw [hS]
          unfold li
          rw [List.map_map, List.map_map]
          refine List.map_congr_left fun a ha => ?_
          have ha := List.mem_range.1 ha
          have h9 := hv a (hin a ha)
          show (φ a : Int) = (vl S a : Int)
          unfold vl
          omega
        rw [this]
        simp
      · rw [homF_on hR hfit hle]
        have hkl : js.length < ks.length := by omega
        refine List.mem_flatMap.2 ⟨φ ks[js.length], List.mem_range.2 (H.lt _ (hk _ (List.getElem_mem _))), ?_⟩
        refine (homF_mem g h hk hall h1 h2 f (js ++ [φ ks[js.length]]) _ (by simp; omega) (by simp; omega) (fun j hjm => by
          rcases List.mem_append.1 hjm with hjm | hjm
          · exact hj j hjm
          · simp at hjm; rw [hjm]; exact H.lt _ (hk _ (List.getElem_mem _)))).2 ⟨φ, H, hF, rfl, fun i hi hi2 => ?_⟩
        by_cases hij : i < js.length
        · rw [List.getElem_append_left hij]; exact hag i hij hi2
        · have : i = js.length := by simp at hi; omega
          subst this
          simp
theorem nodup_flat {F : Nat → List (List Int)} : ∀ k, (∀ b, b < k → (F b).Nodup) → (∀ b c L, b < k → c < k → L ∈ F b → L ∈ F c → b = c) → ((List.range k).flatMap F).Nodup
  | 0, _, _ => by simp
  | k + 1, h1, h2 => by
    rw [List.range_succ, List.flatMap_append]
    refine List.nodup_append.2 ⟨nodup_flat k (fun b hb => h1 b (by omega)) (fun b c L hb hc => h2 b c L (by omega) (by omega)), by simpa using h1 k (by omega), fun x hx y hy he => ?_⟩
    subst he
    obtain ⟨b, hb, hx⟩ := List.mem_flatMap.1 hx
    have hy : x ∈ F k := by simpa using hy
    have hb := List.mem_range.1 hb
    have := h2 b k x (by omega) (by omega) hx hy
    omega
/-- Each once. -/
theorem homF_nodup (g : IsGrp n zs e) (h : IsGrp m ys d) (hk : ∀ k, k ∈ ks → k < n) (hall : ∀ a, a < n → Mkd n zs e (fun x => decide (x ∈ ks)) a)
    (h1 : ∀ φ S (ps : List (Nat × Nat)), IsHom n zs m ys φ → FP φ → (∀ p, p ∈ ps → p.1 < n ∧ φ p.1 = p.2) → ext n zs e m ys d ps = some S → fit S.1 = true)
    (h2 : ∀ φ, IsHom n zs m ys φ → fit (li ((List.range n).map φ)) = true → FP φ) :
    ∀ (f : Nat) (js : List Nat), js.length ≤ ks.length → ks.length + 1 ≤ f + js.length → (∀ j, j ∈ js → j < m) → (homF n zs e m ys d ks fit f js).Nodup
  | 0, js, hl, hf, hj => by omega
  | f + 1, js, hl, hf, hj => by
    cases hR : ext n zs e m ys d ((ks.take js.length).zip js) with
    | none => rw [homF_none hR]; simp
    | some S =>
      cases hfit : fit S.1 with
      | false => rw [homF_unfit hR hfit]; simp
      | true =>
        by_cases hle : js.length = ks.length
        · rw [homF_full hR hfit hle]; simp
        · rw [homF_on hR hfit hle]
          have hkl : js.length < ks.length := by omega
          have hjb : ∀ b, b < m → ∀ j, j ∈ js ++ [b] → j < m := fun b hb j hjm => by
            rcases List.mem_append.1 hjm with hjm | hjm
            · exact hj j hjm
            · simp at hjm; rw [hjm]; exact hb
          refine nodup_flat m (fun b hb => homF_nodup g h hk hall h1 h2 f (js ++ [b]) (by simp; omega) (by simp; omega) (hjb b hb)) (fun b c L hb hc hLb hLc => ?_)
          obtain ⟨φ, _, _, e1, a1⟩ := (homF_mem g h hk hall h1 h2 f (js ++ [b]) L (by simp; omega) (by simp; omega) (hjb b hb)).1 hLb
          obtain ⟨ψ, _, _, e2, a2⟩ := (homF_mem g h hk hall h1 h2 f (js ++ [c]) L (by simp; omega) (by simp; omega) (hjb c hc)).1 hLc
          have h9 := a1 js.length (by simp) hkl
          have h8 := a2 js.length (by simp) hkl
          have h7 := li_map_inj (e1.symm.trans e2) (hk _ (List.getElem_mem hkl))
          simp at h9 h8
          omega
end
end Go.Proofs.YtlhjeenijcokoaaGreatDoor

namespace Go.Proofs.YtlhjeenijcokoaaGreatDoor
open Go Go.RowKit

section
variable {n e m d : Nat} {zs ys : List Int} {φ ψ : Nat → Nat}
theorem hom_pw (g : IsGrp n zs e) (h : IsGrp m ys d) (H : IsHom n zs m ys φ) {a : Nat} (ha : a < n) : ∀ k, φ (pw n zs e a k) = pw m ys d (φ a) k
  | 0 => IsHom.one g h H
  | k + 1 => by
    show φ (tm n zs (pw n zs e a k) a) = tm m ys (pw m ys d (φ a) k) (φ a)
    rw [H.mul _ _ (pw_lt g ha k) ha, hom_pw g h H ha k]
theorem hom_ord (g : IsGrp n zs e) (h : IsGrp m ys d) (H : IsHom n zs m ys φ) {a : Nat} (ha : a < n) : ordN m ys d (φ a) ∣ ordN n zs e a :=
  ord_dvd h (H.lt a ha) (by rw [← hom_pw g h H ha, pw_ord g ha, IsHom.one g h H])
/-- Homomorphisms that agree on makers agree on what is made. -/
theorem hom_agree (g : IsGrp n zs e) (h : IsGrp m ys d) (H : IsHom n zs m ys φ) (K : IsHom n zs m ys ψ) {q : Nat → Bool} (hq : ∀ x, x < n → q x = true → φ x = ψ x) {a : Nat} (ha : a < n) (hm : Mkd n zs e q a) : φ a = ψ a := by
  have S : Fin.Sg (List.range n) (tm n zs) e (fun x => x ∈ List.range n → φ x = ψ x) := by
    refine ⟨fun _ => by rw [IsHom.one g h H, IsHom.one g h K], fun x y hx hy h1 h2 _ => ?_⟩
    rw [H.mul _ _ (List.mem_range.1 hx) (List.mem_range.1 hy), K.mul _ _ (List.mem_range.1 hx) (List.mem_range.1 hy), h1 hx, h2 hy]
  exact hm _ S (fun z hz hqz _ => hq z (List.mem_range.1 hz) hqz) (List.mem_range.2 ha)
theorem leads_iff {ks js : List Nat} (hl : js.length = ks.length) : Leads n zs m ys (ks.zip js) φ ↔ IsHom n zs m ys φ ∧ ∀ i (_ : i < js.length) (hi2 : i < ks.length), φ ks[i] = js[i] := by
  constructor
  · rintro ⟨H, h⟩
    refine ⟨H, fun i hi hi2 => h (ks[i], js[i]) ?_⟩
    exact List.mem_iff_getElem.2 ⟨i, by rw [List.length_zip]; omega, by simp⟩
  · rintro ⟨H, h⟩
    refine ⟨H, fun p hp => ?_⟩
    obtain ⟨i, hi, he⟩ := List.mem_iff_getElem.1 hp
    rw [List.length_zip] at hi
    rw [← he]
    simpa using h i (by omega) (by omega)
theorem dh_mem (g : IsGrp n zs e) (h : IsGrp m ys d) {ks : List Nat} (hk : ∀ k, k ∈ ks → k < n) (hall : ∀ a, a < n → Mkd n zs e (fun x => decide (x ∈ ks)) a) :
    ∀ (f : Nat) (js : List Nat) (L : List Int), js.length + f = ks.length → (∀ j, j ∈ js → j < m) →
      (L ∈ dhF n zs e m ys d ks f js ↔ ∃ φ, IsHom n zs m ys φ ∧ L = li ((List.range n).map φ) ∧ ∀ i (_ : i < js.length) (hi2 : i < ks.length), φ ks[i] = js[i])
  | 0, js, L, hl, hj => by
    have hl : js.length = ks.length := by omega
    have hp : ∀ p, p ∈ ks.zip js → p.1 < n ∧ p.2 < m := fun p hp => ⟨hk _ (List.of_mem_zip hp).1, hj _ (List.of_mem_zip hp).2⟩
    have hz : (ks.zip js).map Prod.fst = ks := List.map_fst_zip (by omega)
    have hall' : ∀ x, x < n → Mkd n zs e (fun x => decide (x ∈ (ks.zip js).map Prod.fst)) x := by rw [hz]; exact hall
    constructor
    · intro hL
      cases hR : ext n zs e m ys d (ks.zip js) with
      | none => unfold dhF at hL; rw [hR] at hL; cases hL
      | some S =>
        obtain ⟨H, hS⟩ := ext_hom g h hp hR hall'
        unfold dhF at hL
        rw [hR] at hL
        have hL : L = S.1 := by simpa using hL
        have := (leads_iff (n := n) (zs := zs) (m := m) (ys := ys) (φ := vl S) hl).1 ⟨H, fun p hpm => ext_at g h hp hR hpm⟩
        exact ⟨vl S, H, by rw [hL]; exact hS, this.2⟩
    · rintro ⟨φ, H, rfl, hag⟩
      rw [dhF_some g h hp hall' ((leads_iff hl).2 ⟨H, hag⟩)]
      simp
  | f + 1, js, L, hl, hj => by
    have hjl : js.length < ks.length := by omega
    have hjb : ∀ b, b < m → ∀ j, j ∈ js ++ [b] → j < m := fun b hb j hjm => by
      rcases List.mem_append.1 hjm with h9 | h9
      · exact hj j h9
      · simp at h9; omega
    unfold dhF
    rw [List.mem_flatMap]
    constructor
    · rintro ⟨b, hb, hL⟩
      have hb := List.mem_range.1 hb
      split at hL
      · obtain ⟨φ, H, hLe, hag⟩ := (dh_mem g h hk hall f (js ++ [b]) L (by simp; omega) (hjb b hb)).1 hL
        refine ⟨φ, H, hLe, fun i hi hi2 => ?_⟩
        have := hag i (by simp; omega) hi2
        rwa [List.getElem_append_left hi] at this
      · cases hL
    · rintro ⟨φ, H, rfl, hag⟩
      have hkn := hk _ (List.getElem_mem hjl)
      refine ⟨φ ks[js.length], List.mem_range.2 (H.lt _ hkn), ?_⟩
      rw [List.getElem?_eq_getElem hjl, Option.getD_some, if_pos (Nat.mod_eq_zero_of_dvd (hom_ord g h H hkn))]
      refine (dh_mem g h hk hall f (js ++ [φ ks[js.length]]) _ (by simp; omega) (hjb _ (H.lt _ hkn))).2 ⟨φ, H, rfl, fun i hi hi2 => ?_⟩
      by_cases hij : i < js.length
      · rw [List.getElem_append_left hij]; exact hag i hij hi2
      · have : i = js.length := by simp at hi; omega
        subst this
        simp
theorem dh_nodup (g : IsGrp n zs e) (h : IsGrp m ys d) {ks : List Nat} (hk : ∀ k, k ∈ ks → k < n) (hall : ∀ a, a < n → Mkd n zs e (fun x => decide (x ∈ ks)) a) :
    ∀ (f : Nat) (js : List Nat), js.length + f = ks.length → (∀ j, j ∈ js → j < m) → (dhF n zs e m ys d ks f js).Nodup
  | 0, js, hl, hj => by
    unfold dhF
    cases ext n zs e m ys d (ks.zip js) <;> simp
  | f + 1, js, hl, hj => by
    have hjl : js.length < ks.length := by omega
    have hjb : ∀ b, b < m → ∀ j, j ∈ js ++ [b] → j < m := fun b hb j hjm => by
      rcases List.mem_append.1 hjm with h9 | h9
      · exact hj j h9
      · simp at h9; omega
    unfold dhF
    refine nodup_flat m (fun b hb => ?_) (fun b c L hb hc hLb hLc => ?_)
    · split
      · exact dh_nodup g h hk hall f (js ++ [b]) (by simp; omega) (hjb b hb)
      · exact List.nodup_nil
    · split at hLb
      · split at hLc
        · obtain ⟨φ, _, e1, a1⟩ := (dh_mem g h hk hall f (js ++ [b]) L (by simp; omega) (hjb b hb)).1 hLb
          obtain ⟨ψ, _, e2, a2⟩ := (dh_mem g h hk hall f (js ++ [c]) L (by simp; omega) (hjb c hc)).1 hLc
          have h9 := a1 js.length (by simp) hjl
          have h8 := a2 js.length (by simp) hjl
          have h7 := li_map_inj (e1.symm.trans e2) (hk _ (List.getElem_mem hjl))
          simp at h9 h8
          omega
        · cases hLc
      · cases hLb
/-- Where two lists differ first decides. -/
theorem cmp_first : ∀ {xs ys : List Int} {k : Nat}, k < xs.length → k < ys.length → (∀ x, x < k → xs[x]?.getD 0 = ys[x]?.getD 0) → xs[k]?.getD 0 < ys[k]?.getD 0 → cmpL xs ys < 0
  | [], _, k, h1, _, _, _ => by simp at h1
  | _ :: _, [], k, _, h2, _, _ => by simp at h2
  | x :: xs, y :: ys, 0, _, _, _, h => by
    have h : x < y := by simpa using h
    unfold cmpL
    have := cmpI_lt.2 h
    rw [if_pos (by omega)]
    exact this
  | x :: xs, y :: ys, k + 1, h1, h2, h3, h => by
    have h0 : x = y := by simpa using h3 0 (by omega)
    unfold cmpL
    rw [if_neg (by rw [Decidable.not_not]; exact cmpI_zero.2 h0)]
    exact cmp_first (k := k) (by simpa using h1) (by simpa using h2) (fun t ht => by simpa using h3 (t + 1) (by omega)) (by simpa using h)
/-- What the program lists stands in order. -/
theorem homF_sorted {ks : List Nat} {fit : List Int → Bool} {FP : (Nat → Nat) → Prop} (g : IsGrp n zs e) (h : IsGrp m ys d) (hLM : LM n zs e ks) (hall : ∀ a, a < n → Mkd n zs e (fun x => decide (x ∈ ks)) a)
    (h1 : ∀ φ S (ps : List (Nat × Nat)), IsHom n zs m ys φ → FP φ → (∀ p, p ∈ ps → p.1 < n ∧ φ p.1 = p.2) → ext n zs e m ys d ps = some S → fit S.1 = true)
    (h2 : ∀ φ, IsHom n zs m ys φ → fit (li ((List.range n).map φ)) = true → FP φ) :
    ∀ (f : Nat) (js : List Nat), js.length ≤ ks.length → ks.length + 1 ≤ f + js.length → (∀ j, j ∈ js → j < m) → (homF n zs e m ys d ks fit f js).Pairwise (fun a b => cmpL a b < 0)
  | 0, js, hl, hf, hj => by omega
  | f + 1, js, hl, hf, hj => by
    cases hR : ext n zs e m ys d ((ks.take js.length).zip js) with
    | none => rw [homF_none hR]; exact List.Pairwise.nil
    | some S =>
      cases hfit : fit S.1 with
      | false => rw [homF_unfit hR hfit]; exact List.Pairwise.nil
      | true =>
        by_cases hle : js.length = ks.length
        · rw [homF_full hR hfit hle]; simp
        · rw [homF_on hR hfit hle]
          have hkl : js.length < ks.length := by omega
          have hjb : ∀ b, b < m → ∀ j, j ∈ js ++ [b] → j < m := fun b hb j hjm => by
            rcases List.mem_append.1 hjm with hjm | hjm
            · exact hj j hjm
            · simp at hjm; rw [hjm]; exact hb
          have key : ∀ k, k ≤ m → ((List.range k).flatMap fun b => homF n zs e m ys d ks fit f (js ++ [b])).Pairwise (fun a b => cmpL a b < 0) := by
            intro k
            induction k with
            | zero => intro _; simp
            | succ k ih =>
              intro hk
              rw [flat_succ]
              refine List.pairwise_append.2 ⟨ih (by omega), homF_sorted g h hLM hall h1 h2 f (js ++ [k]) (by simp; omega) (by simp; omega) (hjb k (by omega)), fun L hL L' hL' => ?_⟩
              obtain ⟨b, hb, hL⟩ := List.mem_flatMap.1 hL
              have hb := List.mem_range.1 hb
              obtain ⟨φ, H, _, e1, a1⟩ := (homF_mem g h hLM.lt hall h1 h2 f (js ++ [b]) L (by simp; omega) (by simp; omega) (hjb b (by omega))).1 hL
              obtain ⟨ψ, K, _, e2, a2⟩ := (homF_mem g h hLM.lt hall h1 h2 f (js ++ [k]) L' (by simp; omega) (by simp; omega) (hjb k (by omega))).1 hL'
              have hcn := hLM.lt _ (List.getElem_mem hkl)
              have h9 := a1 js.length (by simp) hkl
              have h8 := a2 js.length (by simp) hkl
              simp at h9 h8
              obtain ⟨_, hst⟩ := hLM.step js.length ks[js.length] (List.getElem?_eq_getElem hkl)
              have hag : ∀ x, x < ks[js.length] → φ x = ψ x := fun x hx => hom_agree g h H K (q := fun x => decide (x ∈ ks.take js.length)) (fun z hz hq => by
                obtain ⟨i, hi, he⟩ := List.mem_iff_getElem.1 (of_decide_eq_true hq)
                rw [List.length_take] at hi
                rw [List.getElem_take] at he
                have p1 := a1 i (by simp; omega) (by omega)
                have p2 := a2 i (by simp; omega) (by omega)
                rw [List.getElem_append_left (by omega)] at p1 p2
                rw [← he, p1, p2]) (by omega) (hst x hx)
              have at_ : ∀ (χ : Nat → Nat) t, t < n → (li ((List.range n).map χ))[t]?.getD 0 = (χ t : Int) := fun χ t ht => by simp [li, ht]
              rw [e1, e2]
              refine cmp_first (k := ks[js.length]) (by simp [li]; omega) (by simp [li]; omega) (fun x hx => ?_) ?_
              · rw [at_ φ x (by omega), at_ ψ x (by omega), hag x hx]
              · rw [at_ φ _ hcn, at_ ψ _ hcn, h9, h8]
                omega
          exact key m (Nat.le_refl _)
/-- Lists in order that have the same are the same. -/
theorem srt_eq {rs ts : List (List Int)} (hp : rs.Perm ts) (ha : srt rs) (hb : ts.Pairwise (fun a b => cmpL a b < 0)) : rs = ts := by
  refine List.Perm.eq_of_pairwise (le := fun a b => ¬ cmpL b a < 0) (fun a b _ _ h1 h2 => ?_) ?_ ?_ hp
  · have := cmpL_neg a b
    exact (cmpL_zero a b).1 (by omega)
  · refine List.pairwise_iff_getElem.2 fun i j hi hj hij => ?_
    have := ha i j hij hj
    rw [List.getElem?_eq_getElem hi, List.getElem?_eq_getElem hj] at this
    exact this
  · exact hb.imp fun {a b} h => by have := cmpL_neg a b; omega
theorem homs_same {ks ls : List Nat} (g : IsGrp n zs e) (h : IsGrp m ys d) (hLM : LM n zs e ks) (hall : ∀ a, a < n → Mkd n zs e (fun x => decide (x ∈ ks)) a) (hl : ∀ k, k ∈ ls → k < n) (hall' : ∀ a, a < n → Mkd n zs e (fun x => decide (x ∈ ls)) a) :
    (homF n zs e m ys d ks (fun _ => true) (ks.length + 1) []).Perm (dhF n zs e m ys d ls ls.length []) := by
  refine (List.perm_ext_iff_of_nodup (homF_nodup (FP := fun _ => True) g h hLM.lt hall (fun _ _ _ _ _ _ _ => rfl) (fun _ _ _ => trivial) _ _ (by simp) (by simp) (by simp)) (dh_nodup g h hl hall' _ _ (by simp) (by simp))).2 fun L => ?_
  rw [homF_mem (FP := fun _ => True) g h hLM.lt hall (fun _ _ _ _ _ _ _ => rfl) (fun _ _ _ => trivial) _ _ _ (by simp) (by simp) (by simp), dh_mem g h hl hall' _ _ _ (by simp) (by simp)]
  constructor
  · rintro ⟨φ, H, _, hL, _⟩
    exact ⟨φ, H, hL, fun i hi => by simp at hi⟩
  · rintro ⟨φ, H, hL, _⟩
    exact ⟨φ, H, trivial, hL, fun i hi => by simp at hi⟩
end
end Go.Proofs.YtlhjeenijcokoaaGreatDoor

namespace Go.Proofs.YtlhjeenijcokoaaGreatDoor.Pm
open Go Go.RowKit

/-- What is wrong with a list at the places from i on, r of them. -/
def pf (zs : List Int) : Nat → Nat → Int × Int
  | 0, _ => (0, 0)
  | r + 1, i => if zs[i]?.getD 0 < 0 ∨ (zs.length : Int) ≤ zs[i]?.getD 0 then (3, (i : Int)) else if zs[i]?.getD 0 ∈ zs.take i then (10, (i : Int)) else pf zs r (i + 1)
/-- What perm.Check answers: the code and the place. -/
def fault (zs : List Int) : Int × Int := if 1000 < zs.length then (2, 0) else pf zs zs.length 0
theorem pf_range {zs : List Int} {r i : Nat} (h : zs[i]?.getD 0 < 0 ∨ (zs.length : Int) ≤ zs[i]?.getD 0) : pf zs (r + 1) i = (3, (i : Int)) := by
  rw [pf, if_pos h]
theorem pf_twice {zs : List Int} {r i : Nat} (h : ¬ (zs[i]?.getD 0 < 0 ∨ (zs.length : Int) ≤ zs[i]?.getD 0)) (h2 : zs[i]?.getD 0 ∈ zs.take i) : pf zs (r + 1) i = (10, (i : Int)) := by
  rw [pf, if_neg h, if_pos h2]
theorem pf_on {zs : List Int} {r i : Nat} (h : ¬ (zs[i]?.getD 0 < 0 ∨ (zs.length : Int) ≤ zs[i]?.getD 0)) (h2 : ¬ zs[i]?.getD 0 ∈ zs.take i) : pf zs (r + 1) i = pf zs r (i + 1) := by
  rw [pf, if_neg h, if_neg h2]
/-- The numbers 0 to n - 1, each once. -/
def IsPerm (zs : List Int) : Prop := (∀ i, i < zs.length → 0 ≤ zs[i]?.getD 0 ∧ zs[i]?.getD 0 < zs.length) ∧ ∀ i j, i < j → j < zs.length → zs[i]?.getD 0 ≠ zs[j]?.getD 0
theorem mem_take {zs : List Int} {i : Nat} (hi : i ≤ zs.length) (x : Int) : x ∈ zs.take i ↔ ∃ j, j < i ∧ zs[j]?.getD 0 = x := by
  rw [List.mem_iff_getElem?]
  constructor
  · rintro ⟨j, hj⟩
    rw [List.getElem?_take] at hj
    split at hj
    · exact ⟨j, by assumption, by rw [hj]; rfl⟩
    · cases hj
  · rintro ⟨j, hj, rfl⟩
    refine ⟨j, ?_⟩
    rw [List.getElem?_take, if_pos hj, List.getElem?_eq_getElem (by omega)]
    simp
theorem pf_perm {zs : List Int} : ∀ (r i : Nat), i + r = zs.length → (pf zs r i).1 = 0 →
    (∀ k, i ≤ k → k < zs.length → 0 ≤ zs[k]?.getD 0 ∧ zs[k]?.getD 0 < zs.length) ∧ ∀ j k, j < k → i ≤ k → k < zs.length → zs[j]?.getD 0 ≠ zs[k]?.getD 0
  | 0, i, h, _ => ⟨fun k h1 h2 => by omega, fun j k h1 h2 h3 => by omega⟩
  | r + 1, i, h, h0 => by
    by_cases a : zs[i]?.getD 0 < 0 ∨ (zs.length : Int) ≤ zs[i]?.getD 0
    · rw [pf_range a] at h0; simp at h0
    · by_cases b : zs[i]?.getD 0 ∈ zs.take i
      · rw [pf_twice a b] at h0; simp at h0
      · rw [pf_on a b] at h0
        obtain ⟨h1, h2⟩ := pf_perm r (i + 1) (by omega) h0
        rw [mem_take (by omega)] at b
        refine ⟨fun k hk hl => ?_, fun j k hj hk hl => ?_⟩
        · by_cases e : k = i
          · subst e; omega
          · exact h1 k (by omega) hl
        · by_cases e : k = i
          · subst e; exact fun e => b ⟨j, hj, e⟩
          · exact h2 j k hj (by omega) hl
theorem fault_perm {zs : List Int} (h : (fault zs).1 = 0) : IsPerm zs ∧ zs.length ≤ 1000 := by
  unfold fault at h
  split at h
  · simp at h
  · obtain ⟨h1, h2⟩ := pf_perm zs.length 0 (by omega) h
    exact ⟨⟨fun i hi => h1 i (by omega) hi, fun i j hij hj => h2 i j hij (by omega) hj⟩, by omega⟩
theorem pf_zero {zs : List Int} : ∀ (r i : Nat), (pf zs r i).1 = 0 → pf zs r i = (0, 0)
  | 0, i, _ => rfl
  | r + 1, i, h0 => by
    by_cases a : zs[i]?.getD 0 < 0 ∨ (zs.length : Int) ≤ zs[i]?.getD 0
    · rw [pf_range a] at h0; simp at h0
    · by_cases b : zs[i]?.getD 0 ∈ zs.take i
      · rw [pf_twice a b] at h0; simp at h0
      · rw [pf_on a b] at h0 ⊢
        exact pf_zero r (i + 1) h0
theorem fault_zero {zs : List Int} (h : (fault zs).1 = 0) : fault zs = (0, 0) := by
  unfold fault at h ⊢
  split at h
  · simp at h
  · rw [if_neg (by omega)]; exact pf_zero _ _ h
theorem pf_of_perm {zs : List Int} (hp : IsPerm zs) : ∀ (r i : Nat), i + r = zs.length → pf zs r i = (0, 0)
  | 0, i, _ => rfl
  | r + 1, i, h => by
    have h1 := hp.1 i (by omega)
    rw [pf_on (by omega) (fun hm => by
      rw [mem_take (by omega)] at hm
      obtain ⟨j, hj, e⟩ := hm
      exact hp.2 j i hj (by omega) e)]
    exact pf_of_perm hp r (i + 1) (by omega)
theorem fault_of_perm {zs : List Int} (hp : IsPerm zs) (hl : zs.length ≤ 1000) : fault zs = (0, 0) := by
  unfold fault; rw [if_neg (by omega)]; exact pf_of_perm hp _ _ (by omega)
theorem take_snoc {zs : List Int} {i : Nat} (hi : i < zs.length) : zs.take (i + 1) = zs.take i ++ [zs[i]?.getD 0] := by
  rw [List.take_succ_eq_append_getElem hi]; simp [hi]
/-- Where a point is moved. -/
def nx (zs : List Int) (x : Nat) : Nat := (zs[x]?.getD 0).toNat
theorem nx_lt {zs : List Int} (hp : IsPerm zs) {x : Nat} (hx : x < zs.length) : nx zs x < zs.length ∧ zs[x]?.getD 0 = (nx zs x : Int) := by
  have := hp.1 x hx
  unfold nx; omega
/-- The product. -/
def mulL (xs ys : List Int) : List Int := xs.map fun x => ys[x.toNat]?.getD 0
theorem mulL_len (xs ys : List Int) : (mulL xs ys).length = xs.length := by simp [mulL]
theorem mulL_get {xs : List Int} (ys : List Int) {i : Nat} (hi : i < xs.length) : (mulL xs ys)[i]?.getD 0 = ys[(xs[i]?.getD 0).toNat]?.getD 0 := by
  simp [mulL, hi]
/-- The inverse, as far as k numbers tell it. -/
def invTo (xs : List Int) : Nat → List Int
  | 0 => List.replicate xs.length 0
  | k + 1 => (invTo xs k).set (nx xs k) (k : Int)
def invL (xs : List Int) : List Int := invTo xs xs.length
theorem invTo_len (xs : List Int) : ∀ k, (invTo xs k).length = xs.length
  | 0 => by simp [invTo]
  | k + 1 => by simp [invTo, invTo_len xs k]
theorem invL_len (xs : List Int) : (invL xs).length = xs.length := invTo_len xs _
theorem nx_ne {xs : List Int} (hp : IsPerm xs) {i j : Nat} (hi : i < xs.length) (hj : j < xs.length) (h : i ≠ j) : nx xs i ≠ nx xs j := by
  have h1 := nx_lt hp hi
  have h2 := nx_lt hp hj
  intro e
  rcases Nat.lt_or_gt_of_ne h with hlt | hlt
  · exact hp.2 i j hlt hj (by rw [h1.2, h2.2, e])
  · exact hp.2 j i hlt hi (by rw [h1.2, h2.2, e])
theorem invTo_get {xs : List Int} (hp : IsPerm xs) : ∀ (k : Nat), k ≤ xs.length → ∀ i, i < k → (invTo xs k)[nx xs i]?.getD 0 = (i : Int)
  | 0, _, i, hi => by omega
  | k + 1, hk, i, hi => by
    have hn := (nx_lt hp (show i < xs.length by omega)).1
    rw [invTo, List.getElem?_set]
    by_cases e : i = k
    · subst e
      rw [if_pos rfl, invTo_len, if_pos hn]; rfl
    · rw [if_neg (nx_ne hp (by omega) (by omega) (fun h => e h.symm))]
      exact invTo_get hp k (by omega) i (by omega)
theorem invL_get {xs : List Int} (hp : IsPerm xs) {i : Nat} (hi : i < xs.length) : (invL xs)[nx xs i]?.getD 0 = (i : Int) := invTo_get hp _ (Nat.le_refl _) i hi
theorem nodup_len : ∀ (l m : List Nat), l.Nodup → (∀ z, z ∈ l → z ∈ m) → l.length ≤ m.length
  | [], _, _, _ => Nat.zero_le _
  | a :: l, m, hn, hs => by
    rw [List.nodup_cons] at hn
    have ha := hs a (by simp)
    have h1 := nodup_len l (m.erase a) hn.2 (fun z hz => by
      rw [List.mem_erase_of_ne (fun e => hn.1 (by rw [← e]; exact hz))]
      exact hs z (by simp [hz]))
    rw [List.length_erase_of_mem ha] at h1
    have := List.length_pos_of_mem ha
    simp; omega
/-- A permutation hits every point. -/
theorem perm_hits {xs : List Int} (hp : IsPerm xs) {y : Nat} (hy : y < xs.length) : ∃ i, i < xs.length ∧ nx xs i = y := by
  -- the list of what points are moved to has no two the same, and all are below n
  have hnd : ((List.range xs.length).map (nx xs)).Nodup := by
    rw [List.nodup_iff_pairwise_ne, List.pairwise_map]
    refine List.Pairwise.imp_of_mem ?_ List.nodup_range
    intro i j hi hj hij
    rw [List.mem_range] at hi hj
    exact nx_ne hp hi hj hij
  have hsub : ∀ z, z ∈ (List.range xs.length).map (nx xs) → z ∈ List.range xs.length := by
    intro z hz
    rw [List.mem_map] at hz
    obtain ⟨i, hi, rfl⟩ := hz
    rw [List.mem_range] at hi ⊢
    exact (nx_lt hp hi).1
  by_cases hm : y ∈ (List.range xs.length).map (nx xs)
  · rw [List.mem_map] at hm
    obtain ⟨i, hi, e⟩ := hm
    exact ⟨i, by simpa using hi, e⟩
  · exfalso
    have h1 := nodup_len _ ((List.range xs.length).erase y) hnd (fun z hz => by
      rw [List.mem_erase_of_ne (fun e => hm (by rw [← e]; exact hz))]
      exact hsub z hz)
    rw [List.length_erase_of_mem (by simpa using hy)] at h1
    simp at h1
    omega
theorem list_ext {xs ys : List Int} (hl : xs.length = ys.length) (h : ∀ i, i < xs.length → xs[i]?.getD 0 = ys[i]?.getD 0) : xs = ys := by
  apply List.ext_getElem hl
  intro i h1 h2
  have := h i h1
  rw [List.getElem?_eq_getElem h1, List.getElem?_eq_getElem h2] at this
  simpa using this
theorem mulL_perm {xs ys : List Int} (hx : IsPerm xs) (hy : IsPerm ys) (hl : xs.length = ys.length) : IsPerm (mulL xs ys) := by
  refine ⟨fun i hi => ?_, fun i j hij hj => ?_⟩
  · rw [mulL_len] at hi ⊢
    rw [mulL_get ys hi, hl]
    exact hy.1 _ (by rw [← hl]; exact (nx_lt hx hi).1)
  · rw [mulL_len] at hj
    rw [mulL_get ys (by omega), mulL_get ys hj]
    have hi : i < xs.length := by omega
    have h1 := (nx_lt hx hi).1
    have h2 := (nx_lt hx hj).1
    have hne := nx_ne hx hi hj (by omega)
    have h3 := nx_ne hy (i := nx xs i) (j := nx xs j) (by omega) (by omega) hne
    intro e
    exact h3 (congrArg Int.toNat e)
theorem invL_perm {xs : List Int} (hx : IsPerm xs) : IsPerm (invL xs) := by
  have key : ∀ y, y < xs.length → ∃ i, i < xs.length ∧ nx xs i = y ∧ (invL xs)[y]?.getD 0 = (i : Int) := by
    intro y hy
    obtain ⟨i, hi, e⟩ := perm_hits hx hy
    exact ⟨i, hi, e, by rw [← e]; exact invL_get hx hi⟩
  refine ⟨fun y hy => ?_, fun y z hyz hz => ?_⟩
  · rw [invL_len] at hy ⊢
    obtain ⟨i, hi, _, e⟩ := key y hy
    rw [e]; omega
  · rw [invL_len] at hz
    obtain ⟨i, hi, ei, e1⟩ := key y (by omega)
    obtain ⟨j, hj, ej, e2⟩ := key z hz
    rw [e1, e2]
    intro e
    have : i = j := by omega
    subst this
    omega
set_option maxRecDepth 100000 in
set_option maxHeartbeats 1000000 in
theorem has_any (a : Option Addr) (cap pb po n : Nat) (xs : List Int) (x : Int) (w : World) (hn : n = xs.length) (hr : Reads w a pb po xs) (hl : xs.length ≤ maxLen) :
    Calls Tryz.prog 29 #[.slice a n cap, .int .i64 x] w fun e w' => e = .returned (.bool (decide (x ∈ xs))) ∧ w' = w := by
  subst hn
  unfold maxLen at hl
  go_enter Tryz.func29, Tryz.ntmps29
  go_wp2
  go_loop [5] (fun i => ∃ k : Nat, k ≤ xs.length ∧ i = .int .i64 k ∧ ∀ j, j < k → xs[j]?.getD 0 ≠ x) (fun i => xs.length - (intOf i).toNat)
  case atStart => exact ⟨0, Nat.zero_le _, rfl, fun j hj => by omega⟩
  case round =>
    obtain ⟨k, hk, rfl, hno⟩ := hrel
    have HN := hide hno
    clear hno
    by_cases hlt : k < xs.length
    · have hc := hr.cell k hlt
      obtain rfl := hr.at_ (by omega)
      generalize hye : xs[k]?.getD 0 = y at hc
      have HY := hide hye
      clear hye
      by_cases hyx : y = x
      · have hm : decide (x ∈ xs) = true := by
          rw [decide_eq_true_eq, List.mem_iff_getElem?]
          refine ⟨k, ?_⟩
          have := HY.out
          rw [List.getElem?_eq_getElem hlt] at this ⊢
          simp at this
          rw [this, hyx]
        have HM := hide hm
        have hb : (y == x) = true := by simp [hyx]
        have HE := hide hyx
        clear hm hyx
        go_wp2
        go_ret
        exact ⟨by rw [HM.out]; rfl, rfl⟩
      · have hb : (y == x) = false := by simp [hyx]
        have HE := hide hyx
        clear hyx
        go_wp2
        go_round
        case rel => exact ⟨k + 1, by omega, by go_num, fun j hj => by
          by_cases e : j = k
          · rw [e, HY.out]; exact HE.out
          · exact HN.out j (by omega)⟩
        case measure => simp [intOf]; omega
    · have hm : decide (x ∈ xs) = false := by
        rw [decide_eq_false_iff_not, List.mem_iff_getElem?]
        rintro ⟨j, hj⟩
        have hjl : j < xs.length := (List.getElem?_eq_some_iff.1 hj).1
        exact HN.out j (by omega) (by rw [hj]; rfl)
      have HM := hide hm
      clear hm
      go_wp2
      go_ret
      exact ⟨by rw [HM.out]; rfl, rfl⟩
end Go.Proofs.YtlhjeenijcokoaaGreatDoor.Pm

namespace Go.Proofs.YtlhjeenijcokoaaGreatDoor
open Go Go.RowKit

theorem dd_mem {ls : List (List Int)} {x : List Int} : x ∈ dd ls ↔ x ∈ ls := by
  unfold dd kpt
  constructor
  · intro h
    obtain ⟨j, hj, rfl⟩ := List.mem_map.1 h
    have hj := List.mem_range.1 (List.mem_filter.1 hj).1
    rw [List.getElem?_eq_getElem hj, Option.getD_some]
    exact List.getElem_mem hj
  · intro h
    obtain ⟨i, hi, he⟩ := List.mem_iff_getElem.1 h
    have key : ∀ i, ∀ hi : i < ls.length, ∃ j, j < ls.length ∧ nw ls j = true ∧ ls[j]?.getD [] = ls[i] := by
      intro i
      induction i with
      | zero => exact fun hi => ⟨0, hi, by simp [nw], by rw [List.getElem?_eq_getElem hi]; rfl⟩
      | succ i ih =>
        intro hi
        by_cases hn : nw ls (i + 1) = true
        · exact ⟨i + 1, hi, hn, by rw [List.getElem?_eq_getElem hi]; rfl⟩
        · obtain ⟨j, h1, h2, h3⟩ := ih (by omega)
          refine ⟨j, h1, h2, ?_⟩
          have : ls[i + 1]?.getD [] = ls[i]?.getD [] := by
            simp only [nw, Nat.add_sub_cancel, Bool.or_eq_true, decide_eq_true_eq, not_or, Bool.not_eq_true', decide_eq_false_iff_not, Decidable.not_not] at hn
            exact hn.2
          rw [List.getElem?_eq_getElem hi, List.getElem?_eq_getElem (show i < ls.length by omega), Option.getD_some, Option.getD_some] at this
          rw [h3, this]
    obtain ⟨j, h1, h2, h3⟩ := key i hi
    exact List.mem_map.2 ⟨j, List.mem_filter.2 ⟨List.mem_range.2 h1, h2⟩, by rw [h3, he]⟩
theorem dd_nodup {ls : List (List Int)} (hs : srt ls) : (dd ls).Nodup := by
  unfold dd
  refine List.pairwise_map.2 ?_
  have h1 : (kpt ls ls.length).Pairwise (· < ·) := List.pairwise_lt_range.sublist List.filter_sublist
  refine h1.imp_of_mem ?_
  intro i j hi hj hij heq
  obtain ⟨_, hn⟩ := List.mem_filter.1 hj
  have hjl := List.mem_range.1 (List.mem_filter.1 hj).1
  have hne : ¬ ls[j]?.getD [] = ls[j - 1]?.getD [] := by
    simp only [nw, Bool.or_eq_true, decide_eq_true_eq, Bool.not_eq_true', decide_eq_false_iff_not] at hn
    rcases hn with hn | hn
    · omega
    · exact hn
  -- i ≤ j - 1 < j, the ends are the same, so the one between is the same
  have a1 : ¬ cmpL (ls[j]?.getD []) (ls[j - 1]?.getD []) < 0 := hs (j - 1) j (by omega) hjl
  by_cases hij1 : i = j - 1
  · exact hne (by rw [← heq, hij1])
  · have a2 : ¬ cmpL (ls[j - 1]?.getD []) (ls[i]?.getD []) < 0 := hs i (j - 1) (by omega) (by omega)
    rw [heq] at a2
    have a3 := cmpL_neg (ls[j - 1]?.getD []) (ls[j]?.getD [])
    exact hne ((cmpL_zero _ _).1 (by omega))
section
variable {n e : Nat} {zs : List Int}
theorem cjL_at {a x : Nat} (hx : x < n) : (cjL n zs e a)[x]?.getD 0 = (Fin.cj (tm n zs) (iv n zs e) x a : Int) := by simp [cjL, li, hx]
theorem cjL_iff {a b : Nat} : cjL n zs e a = cjL n zs e b ↔ ∀ x, x < n → Fin.cj (tm n zs) (iv n zs e) x a = Fin.cj (tm n zs) (iv n zs e) x b := by
  constructor
  · intro h x hx
    have := congrArg (fun l : List Int => l[x]?.getD 0) h
    simp only [cjL_at hx] at this
    omega
  · intro h
    unfold cjL li
    rw [List.map_map, List.map_map]
    exact List.map_congr_left fun x hx => by
      show ((Fin.cj (tm n zs) (iv n zs e) x a : Nat) : Int) = _
      rw [h x (List.mem_range.1 hx)]
      rfl
/-- Two things conjugate alike just where they differ by a central one. -/
theorem cj_same (g : IsGrp n zs e) {a b : Nat} (ha : a < n) (hb : b < n) : cjL n zs e a = cjL n zs e b ↔ ∃ c, c < n ∧ cenq n zs (fun _ => true) c = true ∧ tm n zs c a = b := by
  have F := grp_fg g
  have V := grp_iv g
  obtain ⟨i1, i2, i3, _⟩ := iv_spec g ha
  rw [cjL_iff]
  constructor
  · intro h
    refine ⟨tm n zs b (iv n zs e a), tm_lt g.tab hb i1, (cen_iff _).2 fun y hy => ?_, by rw [g.ass b _ a hb i1 ha, i3, g.right b hb]⟩
    have hy' := List.mem_range.1 hy
    have h1 := Fin.cj_eq F V hy (List.mem_range.2 hb)
    rw [← h y hy'] at h1
    -- b (a⁻¹ (y a)) = y b
    have h2 : tm n zs b (tm n zs (iv n zs e a) (tm n zs y a)) = tm n zs y b := h1
    have hya := tm_lt g.tab hy' ha
    have hiy := tm_lt g.tab i1 hy'
    have h3 : tm n zs (tm n zs b (iv n zs e a)) (tm n zs y a) = tm n zs y b := by rw [g.ass b _ _ hb i1 hya]; exact h2
    have h4 : tm n zs (tm n zs (tm n zs b (iv n zs e a)) (tm n zs y a)) (iv n zs e a) = tm n zs (tm n zs y b) (iv n zs e a) := congrArg (fun t => tm n zs t (iv n zs e a)) h3
    have hba := tm_lt g.tab hb i1
    rw [g.ass _ _ _ hba hya i1, g.ass y a _ hy' ha i1, i2, g.right y hy', g.ass y b _ hy' hb i1] at h4
    exact h4
  · rintro ⟨c, hc, hcen, rfl⟩ x hx
    have hcen := (cen_iff _).1 hcen
    have h1 := Fin.cj_cj F V (List.mem_range.2 hx) (List.mem_range.2 hc) (List.mem_range.2 ha)
    have h2 : Fin.cj (tm n zs) (iv n zs e) x c = x := Fin.cj_unique F V (List.mem_range.2 hx) (List.mem_range.2 hx) (List.mem_range.2 hc) (hcen x (List.mem_range.2 hx))
    rw [h2] at h1
    exact h1
theorem inn_mem {x : List Int} : x ∈ innL n zs e ↔ ∃ a, a < n ∧ x = cjL n zs e a := by
  constructor
  · intro h
    obtain ⟨a, ha, rfl⟩ := List.mem_map.1 h
    exact ⟨a, List.mem_range.1 ha, rfl⟩
  · rintro ⟨a, ha, rfl⟩
    exact List.mem_map.2 ⟨a, List.mem_range.2 ha, rfl⟩
/-- As many inner automorphisms as the centre has cosets. -/
theorem inn_many (g : IsGrp n zs e) {ms : List (List Int)} (hp : ms.Perm (innL n zs e)) (hs : srt ms) : n = (dd ms).length * (lst n (cenq n zs (fun _ => true))).length := by
  have hmem : ∀ x, x ∈ dd ms ↔ ∃ a, a < n ∧ x = cjL n zs e a := fun x => by rw [dd_mem, hp.mem_iff, inn_mem]
  have hnd := dd_nodup hs
  have h0 := Fin.fib_len (fun b => (dd ms).idxOf (cjL n zs e b)) (lst n (cenq n zs (fun _ => true))).length (List.range (dd ms).length) (List.range n) List.nodup_range (fun b hb => by
    have hb := List.mem_range.1 hb
    exact List.mem_range.2 (List.idxOf_lt_length_iff.2 ((hmem _).2 ⟨b, hb, rfl⟩))) (fun k hk => by
    have hk := List.mem_range.1 hk
    obtain ⟨a, ha, hka⟩ := (hmem _).1 (List.getElem_mem hk)
    have hfa : ∀ b, b < n → ((dd ms).idxOf (cjL n zs e b) = k ↔ cjL n zs e a = cjL n zs e b) := fun b hb => by
      constructor
      · intro h9
        have hin := (hmem _).2 ⟨b, hb, rfl⟩
        have := List.getElem_idxOf (List.idxOf_lt_length_iff.2 hin)
        rw [← hka, ← this]
        congr 1
        exact h9.symm
      · intro h9
        rw [← h9, ← hka]
        exact hnd.idxOf_getElem k hk
    symm
    refine Fin.bij_len (fun c => tm n zs c a) (List.nodup_range.sublist List.filter_sublist) (List.nodup_range.sublist List.filter_sublist) (fun c hc => ?_) (fun c c' hc hc' h9 => ?_) (fun b hb => ?_)
    · obtain ⟨hc1, hc2⟩ := mem_lst.1 hc
      have hca := tm_lt g.tab hc1 ha
      exact List.mem_filter.2 ⟨List.mem_range.2 hca, decide_eq_true ((hfa _ hca).2 ((cj_same g ha hca).2 ⟨c, hc1, hc2, rfl⟩))⟩
    · exact grp_cancel_right g ha (mem_lst.1 hc).1 (mem_lst.1 hc').1 h9
    · obtain ⟨hb1, hb2⟩ := List.mem_filter.1 hb
      have hb1 := List.mem_range.1 hb1
      obtain ⟨c, h1, h2, h3⟩ := (cj_same g ha hb1).1 ((hfa b hb1).1 (of_decide_eq_true hb2))
      exact ⟨c, mem_lst.2 ⟨h1, h2⟩, h3⟩)
  rw [List.length_range, List.length_range] at h0
  exact h0
end
end Go.Proofs.YtlhjeenijcokoaaGreatDoor

namespace Go.Proofs.YtlhjeenijcokoaaGreatDoor
open Go Go.RowKit

set_option maxRecDepth 100000 in
set_option maxHeartbeats 4000000 in
theorem inner_bad (N : Int) (v : Value) (zs : List Int) (w : World) (hv : Sl w v zs) (hc : (gfault N zs).1 ≠ 0) :
    Calls Tryz.prog 44 #[.agg #[.int .i64 N, v]] w fun x w' => x = .returned (.tuple #[.slice none 0 0, .agg #[.int .i64 (gfault N zs).1, .int .i64 (gfault N zs).2]]) ∧ Below w.heap.size w w' := by
  obtain ⟨w0, BG⟩ := Beg.new w N v
  have HCK := hide (opened_bad N v zs w0 (hv.below BG.bel) hc)
  obtain ⟨c, i, hci⟩ : ∃ c i, gfault N zs = (c, i) := ⟨_, _, rfl⟩
  rw [hci] at HCK hc ⊢
  simp only at HCK hc ⊢
  clear hci
  have hcb : (c != 0) = true := by simpa using hc
  obtain ⟨e0, e1, _, _⟩ := BG.box.two
  rw [BG.eq] at e0 e1
  go_enter Tryz.func44, Tryz.ntmps44
  go_wp2_with fail
  rw [← BG.eq]
  clear e0 e1
  refine HCK.out.mono ?_
  rintro x w1 ⟨rfl, hb1⟩
  obtain ⟨w2, hw2⟩ : ∃ w2, w2 = (w1.alloc (.cells #[.int .i64 0, .slice none 0 0, .int .i64 0, .slice none 0 0] 57)).alloc (.cells #[.int .i64 c, .int .i64 i] 26) := ⟨_, rfl⟩
  have hB1 : Below w0.heap.size w0 w2 := by rw [hw2]; exact bcat2 hb1 ((balloc w1 _).alloc (by simp) _)
  have hF1 : Blk w2 (w1.heap.size + 1) 26 [.int .i64 c, .int .i64 i] := by
    rw [hw2]
    have := blk0 (w := w1.alloc (.cells #[.int .i64 0, .slice none 0 0, .int .i64 0, .slice none 0 0] 57)) (T := 26) (.int .i64 c) (.int .i64 i)
    rwa [World.size_alloc] at this
  have hR1 := blk_below BG.res hB1
  have hBw := bcat BG.bel hB1 BG.bel.size
  subst hw2
  obtain ⟨y0, y1, fy0, fy1⟩ := hR1.two
  obtain ⟨t0, t1, _, _⟩ := hF1.two
  obtain ⟨hR6, hB6⟩ := put2 hR1 hBw (by omega) c i
  obtain ⟨z0, z1, _, _⟩ := hR6.two
  go_wp2
  go_region
  go_wp2
  exact bodyPost_ret (v := .tuple #[.slice none 0 0, .agg #[.int .i64 c, .int .i64 i]]) (by simp [results, Tryz.results44, go_sem, z0, z1]) rfl ⟨rfl, bdrew hB6⟩
set_option maxRecDepth 100000 in
set_option maxHeartbeats 4000000 in
theorem autos_bad (N : Int) (v : Value) (zs : List Int) (w : World) (hv : Sl w v zs) (hc : (gfault N zs).1 ≠ 0) :
    Calls Tryz.prog 42 #[.agg #[.int .i64 N, v]] w fun x w' => x = .returned (.tuple #[.slice none 0 0, .agg #[.int .i64 (gfault N zs).1, .int .i64 (gfault N zs).2]]) ∧ Below w.heap.size w w' := by
  obtain ⟨w0, BG⟩ := Beg.new w N v
  have HCK := hide (opened_bad N v zs w0 (hv.below BG.bel) hc)
  obtain ⟨c, i, hci⟩ : ∃ c i, gfault N zs = (c, i) := ⟨_, _, rfl⟩
  rw [hci] at HCK hc ⊢
  simp only at HCK hc ⊢
  clear hci
  have hcb : (c != 0) = true := by simpa using hc
  obtain ⟨e0, e1, _, _⟩ := BG.box.two
  rw [BG.eq] at e0 e1
  go_enter Tryz.func42, Tryz.ntmps42
  go_wp2_with fail
  rw [← BG.eq]
  clear e0 e1
  refine HCK.out.mono ?_
  rintro x w1 ⟨rfl, hb1⟩
  obtain ⟨w2, hw2⟩ : ∃ w2, w2 = (w1.alloc (.cells #[.int .i64 0, .slice none 0 0, .int .i64 0, .slice none 0 0] 57)).alloc (.cells #[.int .i64 c, .int .i64 i] 26) := ⟨_, rfl⟩
  have hB1 : Below w0.heap.size w0 w2 := by rw [hw2]; exact bcat2 hb1 ((balloc w1 _).alloc (by simp) _)
  have hF1 : Blk w2 (w1.heap.size + 1) 26 [.int .i64 c, .int .i64 i] := by
    rw [hw2]
    have := blk0 (w := w1.alloc (.cells #[.int .i64 0, .slice none 0 0, .int .i64 0, .slice none 0 0] 57)) (T := 26) (.int .i64 c) (.int .i64 i)
    rwa [World.size_alloc] at this
  have hR1 := blk_below BG.res hB1
  have hBw := bcat BG.bel hB1 BG.bel.size
  subst hw2
  obtain ⟨y0, y1, fy0, fy1⟩ := hR1.two
  obtain ⟨t0, t1, _, _⟩ := hF1.two
  obtain ⟨hR6, hB6⟩ := put2 hR1 hBw (by omega) c i
  obtain ⟨z0, z1, _, _⟩ := hR6.two
  go_wp2
  go_region
  go_wp2
  exact bodyPost_ret (v := .tuple #[.slice none 0 0, .agg #[.int .i64 c, .int .i64 i]]) (by simp [results, Tryz.results42, go_sem, z0, z1]) rfl ⟨rfl, bdrew hB6⟩
set_option maxRecDepth 100000 in
set_option maxHeartbeats 4000000 in
theorem autos_many (n e : Nat) (v : Value) (zs : List Int) (w : World) (hv : Sl w v zs) (hg : IsGrp n zs e) (h24 : 24 < n) :
    Calls Tryz.prog 42 #[.agg #[.int .i64 n, v]] w fun x w' => x = .returned (.tuple #[.slice none 0 0, .agg #[.int .i64 2, .int .i64 0]]) ∧ Below w.heap.size w w' := by
  obtain ⟨va, vn, vc, rfl⟩ := hv.isSlice
  have h24i : (24 : Int) < (n : Int) := by omega
  obtain ⟨w0, BG⟩ := Beg.new w n (.slice va vn vc)
  have HCK := hide (opened_good n e (.slice va vn vc) zs w0 (hv.below BG.bel) hg)
  obtain ⟨c0, c1, _, _⟩ := BG.box.two
  rw [BG.eq] at c0 c1
  go_enter Tryz.func42, Tryz.ntmps42
  go_wp2_with fail
  rw [← BG.eq]
  clear c0 c1
  refine HCK.out.mono ?_
  rintro x w1 ⟨iv9, rfl, hSI, hb1⟩
  obtain ⟨ia, il, ic, rfl⟩ := hSI.sl.isSlice
  obtain ⟨w2, hw2⟩ : ∃ w2, w2 = (w1.alloc (.cells #[.int .i64 n, .slice va vn vc, .int .i64 e, .slice ia il ic] 57)).alloc (.cells #[.int .i64 0, .int .i64 0] 26) := ⟨_, rfl⟩
  have hB1 : Below w0.heap.size w0 w2 := by rw [hw2]; exact bcat2 hb1 ((balloc w1 _).alloc (by simp) _)
  have hF1 : Blk w2 (w1.heap.size + 1) 26 [.int .i64 0, .int .i64 0] := by
    rw [hw2]
    have := blk0 (w := w1.alloc (.cells #[.int .i64 n, .slice va vn vc, .int .i64 e, .slice ia il ic] 57)) (T := 26) (.int .i64 0) (.int .i64 0)
    rwa [World.size_alloc] at this
  have hR1 := blk_below BG.res hB1
  have hX1 := blk_below BG.box hB1
  have hBw := bcat BG.bel hB1 BG.bel.size
  subst hw2
  obtain ⟨y0, y1, fy0, fy1⟩ := hR1.two
  obtain ⟨t0, t1, _, _⟩ := hF1.two
  obtain ⟨g0, g1, _, _⟩ := hX1.two
  obtain ⟨hR6, hB6⟩ := put2 hR1 hBw (by omega) 2 0
  obtain ⟨z0, z1, _, _⟩ := hR6.two
  go_wp2
  exact bodyPost_ret (v := .tuple #[.slice none 0 0, .agg #[.int .i64 2, .int .i64 0]]) (by simp [results, Tryz.results42, go_sem, z0, z1]) rfl ⟨rfl, hB6⟩
end Go.Proofs.YtlhjeenijcokoaaGreatDoor

namespace Go.Proofs.YtlhjeenijcokoaaGreatDoor
open Go Go.RowKit

theorem lm_take {n e : Nat} {zs : List Int} {ks js : List Nat} (h : LM n zs e ks) (k : LM n zs e js) (g2 : ∀ a, a < n → Mkd n zs e (fun x => decide (x ∈ js)) a) : ∀ i, i ≤ ks.length → i ≤ js.length ∧ ks.take i = js.take i
  | 0, _ => ⟨Nat.zero_le _, by simp⟩
  | i + 1, hi => by
    obtain ⟨h1, h2⟩ := lm_take h k g2 i (by omega)
    have hk : ks[i]? = some ks[i] := List.getElem?_eq_getElem (by omega)
    obtain ⟨a1, a2⟩ := h.step i _ hk
    by_cases hl : i < js.length
    · have hj : js[i]? = some js[i] := List.getElem?_eq_getElem hl
      obtain ⟨b1, b2⟩ := k.step i _ hj
      rw [← h2] at b1 b2
      have he : ks[i] = js[i] := by
        rcases Nat.lt_trichotomy ks[i] js[i] with h9 | h9 | h9
        · exact absurd (b2 _ h9) a1
        · exact h9
        · exact absurd (a2 _ h9) b1
      refine ⟨hl, ?_⟩
      rw [List.take_succ_eq_append_getElem (by omega), List.take_succ_eq_append_getElem hl, h2, he]
    · have hil : js.take i = js := List.take_of_length_le (by omega)
      rw [h2, hil] at a1
      exact absurd (g2 _ (h.lt _ (List.getElem_mem (by omega)))) a1
theorem lm_unique {n e : Nat} {zs : List Int} {ks js : List Nat} (h : LM n zs e ks) (k : LM n zs e js) (g1 : ∀ a, a < n → Mkd n zs e (fun x => decide (x ∈ ks)) a) (g2 : ∀ a, a < n → Mkd n zs e (fun x => decide (x ∈ js)) a) : ks = js := by
  obtain ⟨h1, h2⟩ := lm_take h k g2 ks.length (Nat.le_refl _)
  obtain ⟨h3, _⟩ := lm_take k h g1 js.length (Nat.le_refl _)
  have : ks.length = js.length := by omega
  rw [List.take_length, this, List.take_length] at h2
  exact h2
end Go.Proofs.YtlhjeenijcokoaaGreatDoor

namespace Go.Proofs.YtlhjeenijcokoaaGreatDoor
open Go Go.RowKit

set_option maxRecDepth 100000 in
set_option maxHeartbeats 8000000 in
theorem autos_much (n e : Nat) (v : Value) (zs : List Int) (w : World) (hv : Sl w v zs) (hg : IsGrp n zs e) (hT : Tab w) (h24 : n ≤ 24) (hmuch : ∀ ks, LM n zs e ks → (∀ a, a < n → Mkd n zs e (fun x => decide (x ∈ ks)) a) → 1000 < (autL n zs e ks).length) :
    Calls Tryz.prog 42 #[.agg #[.int .i64 n, v]] w fun x w' => x = .returned (.tuple #[.slice none 0 0, .agg #[.int .i64 9, .int .i64 0]]) ∧ Below w.heap.size w w' := by
  obtain ⟨va, vl, vc, rfl⟩ := hv.isSlice
  have hn := hg.tab.le
  have h24i : ¬ ((24 : Int) < (n : Int)) := by omega
  obtain ⟨w0, BG⟩ := Beg.new w n (.slice va vl vc)
  have HCK := hide (opened_good n e (.slice va vl vc) zs w0 (hv.below BG.bel) hg)
  have hen := hg.elt
  obtain ⟨c0, c1, _, _⟩ := BG.box.two
  rw [BG.eq] at c0 c1
  go_enter Tryz.func42, Tryz.ntmps42
  go_wp2_with fail
  rw [← BG.eq]
  clear c0 c1
  refine HCK.out.mono ?_
  rintro x w1 ⟨iv9, rfl, hSI, hb1⟩
  obtain ⟨ia, il, ic, rfl⟩ := hSI.sl.isSlice
  obtain ⟨w2, hw2⟩ : ∃ w2, w2 = (w1.alloc (.cells #[.int .i64 n, (.slice va vl vc), .int .i64 e, (.slice ia il ic)] 57)).alloc (.cells #[.int .i64 0, .int .i64 0] 26) := ⟨_, rfl⟩
  have hb2 : Below w1.heap.size w1 w2 := by rw [hw2]; exact (balloc w1 _).alloc (by simp) _
  have hB1 : Below w0.heap.size w0 w2 := bcat2 hb1 hb2
  have hF1 : Blk w2 (w1.heap.size + 1) 26 [.int .i64 0, .int .i64 0] := by
    rw [hw2]
    have := blk0 (w := w1.alloc (.cells #[.int .i64 n, (.slice va vl vc), .int .i64 e, (.slice ia il ic)] 57)) (T := 26) (.int .i64 0) (.int .i64 0)
    rwa [World.size_alloc] at this
  have hH2 : Blk w2 w1.heap.size 57 [.int .i64 n, (.slice va vl vc), .int .i64 e, (.slice ia il ic)] := by
    rw [hw2]; exact (blk4 _ _ _ _).alloc _
  have hBw2 := bcat BG.bel hB1 BG.bel.size
  have hR2 := blk_below BG.res hB1
  have hX2 := blk_below BG.box hB1
  have hGA : GA w2 n (.slice va vl vc) e (.slice ia il ic) zs := ⟨hg, hv.below hBw2, hSI.sl.below hb2⟩
  have HLM := hide (fun W (h : Below w2.heap.size w2 W) => lm_ok' n e (.slice va vl vc) (.slice ia il ic) zs W (hGA.below h) ((hT.below hBw2).below h))
  have HSG := hide (fun W k1 k2 k3 => single_ok n e n e (.slice va vl vc) (.slice ia il ic) (.slice va vl vc) (.slice ia il ic) k1 k2 k3 W hn hen)
  have HLI := hide (fun (W : World) (ks : List Nat) (k1 : Option Addr) (k3 kb pb fb pc ab A : Nat) (h : Below w2.heap.size w2 W) (hk : Sl W (.slice k1 ks.length k3) (li ks)) (hLM : LM n zs e ks) (hgen : ∀ a, a < n → Mkd n zs e (fun x => decide (x ∈ ks)) a)
      (hA : Alls A W [.int .i64 n, (.slice va vl vc), .int .i64 e, (.slice ia il ic), .int .i64 n, (.slice va vl vc), .int .i64 e, (.slice ia il ic)] (.slice k1 ks.length k3) (.func (.func 77) #[] #[.pointer (some ⟨pc, 0, none⟩), .pointer (some ⟨ab, 0, none⟩)]) kb pb fb)
      (hpc : Blk W pc 59 [.int .i64 n, (.slice va vl vc), .int .i64 e, (.slice ia il ic), .int .i64 n, (.slice va vl vc), .int .i64 e, (.slice ia il ic)]) (hab : Boxed W ab 74 (.int .u64 (bs (fun a => decide (a = e)) n))) =>
    show Calls Tryz.prog 80 #[.func (.func 110) #[] #[.pointer (some ⟨kb, 0, none⟩), .pointer (some ⟨pb, 0, none⟩), .pointer (some ⟨fb, 0, none⟩)]] W (fun x w' => x = .returned (.tuple #[.slice none 0 0, .agg #[.int .i64 9, .int .i64 0]]) ∧ Below W.heap.size W w') from
      (listed_ok (f0 := 77) hg hg (hGA.below h).mul (hGA.below h).mul hk hLM.lt hLM.fits hA (fun a W => call113 a _ _ W) (fun W9 g ms hW9 hb9 hl9 =>
        sng1_ok n e n e pc ab (.slice va vl vc) (.slice ia il ic) (.slice va vl vc) (.slice ia il ic) (.slice (some ⟨g, 0, none⟩) n n) ms W9 hn (Sl.of_blk hb9 hl9.symm (by omega)) hl9 (blk_below hpc hW9) (Boxed.below hab hW9))).mono (fun x w' hp => by
        exact ⟨hp.much (hmuch ks hLM hgen), hp.bel⟩))
  obtain ⟨t0, t1, _, _⟩ := hF1.two
  obtain ⟨g0, g1, _, _⟩ := hX2.two
  rw [hw2] at t0 t1 g0 g1
  clear hmuch
  go_wp2_with fail
  rw [← hw2]
  clear hw2 t0 t1 g0 g1
  have hw1s : w.heap.size + 1 < w1.heap.size := by have := BG.res.lt; have := hb1.size; omega
  have hS : ∀ W9, Below w2.heap.size w2 W9 → ((fun W9 => Below w.heap.size w W9 ∧ W9.cell? ⟨w1.heap.size, 0, none⟩ = some (.int .i64 n) ∧ W9.cell? ⟨w1.heap.size, 1, none⟩ = some (.slice va vl vc) ∧ W9.cell? ⟨w1.heap.size, 2, none⟩ = some (.int .i64 e) ∧ W9.cell? ⟨w1.heap.size, 3, none⟩ = some (.slice ia il ic)) W9) := fun W9 h => by
    obtain ⟨_, h0, h1, h2, h3, _⟩ := Four.mk' hH2
    exact ⟨bcat2 hBw2 h, below_cell h h0, below_cell h h1, below_cell h h2, below_cell h h3⟩
  have hS3 : ∀ W8, Below w2.heap.size w2 W8 → ((fun W9 => Below w.heap.size w W9 ∧ W9.cell? ⟨w1.heap.size, 0, none⟩ = some (.int .i64 n) ∧ W9.cell? ⟨w1.heap.size, 1, none⟩ = some (.slice va vl vc) ∧ W9.cell? ⟨w1.heap.size, 2, none⟩ = some (.int .i64 e) ∧ W9.cell? ⟨w1.heap.size, 3, none⟩ = some (.slice ia il ic)) ((W8.setCell ⟨w.heap.size + 1, 0, none⟩ (.int .i64 9)).setCell ⟨w.heap.size + 1, 1, none⟩ (.int .i64 0))) := fun W8 h => by
    have hH9 : Blk ((W8.setCell ⟨w.heap.size + 1, 0, none⟩ (.int .i64 9)).setCell ⟨w.heap.size + 1, 1, none⟩ (.int .i64 0)) w1.heap.size 57 [.int .i64 n, .slice va vl vc, .int .i64 e, .slice ia il ic] := ((blk_below hH2 h).other (p := ⟨w.heap.size + 1, 0, none⟩) (show w1.heap.size ≠ w.heap.size + 1 by omega) _).other (p := ⟨w.heap.size + 1, 1, none⟩) (show w1.heap.size ≠ w.heap.size + 1 by omega) _
    obtain ⟨_, h0, h1, h2, h3, _⟩ := Four.mk' hH9
    exact ⟨bSet (bSet (bcat2 hBw2 h) (by omega)) (by omega), h0, h1, h2, h3⟩
  have hS0 := hS _ (bdrew (Below.refl _ w2))
  go_region_held3 (fun W9 => Below w.heap.size w W9 ∧ W9.cell? ⟨w1.heap.size, 0, none⟩ = some (.int .i64 n) ∧ W9.cell? ⟨w1.heap.size, 1, none⟩ = some (.slice va vl vc) ∧ W9.cell? ⟨w1.heap.size, 2, none⟩ = some (.int .i64 e) ∧ W9.cell? ⟨w1.heap.size, 3, none⟩ = some (.slice ia il ic))
    (first | exact hS0 | assumption | exact hS3 _ hx5 | exact hS _ hx5 | exact hS _ hx4 | exact hS _ hx3)
    (first
      | (go_at_call 81; refine (HLM.out _ (bdrew (Below.refl _ w2))).mono ?_; rintro e3 w3 ⟨ks, k1, k3, rfl, hK3, hLM, hgen, hl3⟩; have hx3 := undrew' hl3)
      | (go_at_call 39; refine (HSG.out _ _ _ _).mono ?_; rintro e4 w4 ⟨kb, pb, fb, pc, ab, rfl, hA4, hpc4, hab4, _, _, _, hl4⟩; have hx4 := bcat2 hx3 hl4)
      | (go_at_call 80; refine (HLI.out _ ks _ _ _ _ _ _ _ _ hx4 (hK3.below hl4) hLM hgen hA4 hpc4 hab4).mono ?_; rintro e5 w5 ⟨rfl, hl5⟩; have hx5 := bcat2 hx4 hl5; obtain ⟨y0, y1, fy0, fy1⟩ := (blk_below hR2 hx5).two))
  all_goals (
    obtain ⟨hR6, hB6⟩ := put2 (blk_below hR2 hx5) (bcat2 hBw2 hx5) (by omega) 9 0
    obtain ⟨z0, z1, _, _⟩ := hR6.two
    go_wp2
    exact bodyPost_ret (v := .tuple #[.slice none 0 0, .agg #[.int .i64 9, .int .i64 0]]) (by simp [results, Tryz.results42, go_sem, z0, z1]) rfl ⟨rfl, hB6⟩)
end Go.Proofs.YtlhjeenijcokoaaGreatDoor

namespace Go.Proofs.YtlhjeenijcokoaaGreatDoor
open Go Go.RowKit

end Go.Proofs.YtlhjeenijcokoaaGreatDoor

namespace Go.Proofs.YtlhjeenijcokoaaGreatDoor
open Go Go.RowKit

end Go.Proofs.YtlhjeenijcokoaaGreatDoor

namespace Go.Proofs.YtlhjeenijcokoaaGreatDoor
open Go Go.RowKit

section
variable {n e : Nat} {zs : List Int}
/-- An automorphism. -/
structure IsAut (n : Nat) (zs : List Int) (e : Nat) (φ : Nat → Nat) : Prop where
  hom : IsHom n zs n zs φ
  inj : ∀ a b, a < n → b < n → φ a = φ b → a = b
theorem aut_of_ker (g : IsGrp n zs e) {φ : Nat → Nat} (H : IsHom n zs n zs φ) (hk : ∀ a, a < n → φ a = e → a = e) : IsAut n zs e φ := by
  refine ⟨H, fun a b ha hb hab => ?_⟩
  obtain ⟨i1, i2, i3, _⟩ := iv_spec g hb
  have h1 := H.mul a (iv n zs e b) ha i1
  have h2 := H.mul b (iv n zs e b) hb i1
  rw [i2, IsHom.one g g H] at h2
  rw [hab, ← h2] at h1
  have h3 := hk _ (tm_lt g.tab ha i1) h1
  have h4 : tm n zs (tm n zs a (iv n zs e b)) b = tm n zs e b := congrArg (fun t => tm n zs t b) h3
  rw [g.ass a _ b ha i1 hb, i3, g.right a ha, g.left b hb] at h4
  exact h4
theorem hom_list_at {φ : Nat → Nat} {a : Nat} (ha : a < n) : (li ((List.range n).map φ))[a]?.getD 0 = (φ a : Int) := by simp [li, ha]
theorem hom_list_len {φ : Nat → Nat} : (li ((List.range n).map φ)).length = n := by simp [li]
theorem sng_fit (g : IsGrp n zs e) {φ : Nat → Nat} {S : List Int × List Nat} {ps : List (Nat × Nat)} (H : IsHom n zs n zs φ) (hF : ∀ a, a < n → φ a = e → a = e) (hps : ∀ p, p ∈ ps → p.1 < n ∧ φ p.1 = p.2) (hS : ext n zs e n zs e ps = some S) : sngq n e S.1 e = true := by
  have hp : ∀ p, p ∈ ps → p.1 < n ∧ p.2 < n := fun p hp => ⟨(hps p hp).1, by rw [← (hps p hp).2]; exact H.lt _ (hps p hp).1⟩
  obtain ⟨r1, r2, r3, _⟩ := ext_grow g g hp hS
  obtain ⟨S', hS', hv⟩ := ext_of_hom g g H hps
  rw [hS] at hS'
  injection hS' with hS'
  subst hS'
  unfold sngq
  refine decide_eq_true (bs_ext fun a ha => ?_)
  unfold kerq
  by_cases hin : a ∈ S.2
  · rw [hv a hin]
    by_cases hae : a = e
    · subst hae
      rw [IsHom.one g g H]
      simp
    · rw [decide_eq_false hae]
      refine decide_eq_false fun h9 => hae (hF a ha ?_)
      omega
  · have hae : ¬ a = e := fun h9 => hin (by rw [h9]; exact r2)
    rw [decide_eq_false hae]
    refine decide_eq_false fun h9 => ?_
    have := r1.no a ha hin
    rw [this] at h9
    omega
theorem sng_ker {φ : Nat → Nat} (hf : sngq n e (li ((List.range n).map φ)) e = true) {a : Nat} (ha : a < n) (hae : φ a = e) : a = e := by
  have := bs_inj (of_decide_eq_true hf) a ha
  unfold kerq at this
  rw [hom_list_at ha, hae] at this
  simpa using this
theorem aut_mem (g : IsGrp n zs e) {ks : List Nat} (hk : ∀ k, k ∈ ks → k < n) (hall : ∀ a, a < n → Mkd n zs e (fun x => decide (x ∈ ks)) a) {L : List Int} : L ∈ autL n zs e ks ↔ ∃ φ, IsAut n zs e φ ∧ L = li ((List.range n).map φ) := by
  have key := homF_mem (FP := fun φ => ∀ a, a < n → φ a = e → a = e) (fit := fun ms => sngq n e ms e) g g hk hall
    (fun φ S ps H hF hps hS => sng_fit g H hF hps hS)
    (fun φ H hf a ha hae => sng_ker hf ha hae)
    (ks.length + 1) [] L (by simp) (by simp) (by simp)
  unfold autL
  rw [key]
  constructor
  · rintro ⟨φ, H, hF, hL, _⟩
    exact ⟨φ, aut_of_ker g H hF, hL⟩
  · rintro ⟨φ, A, hL⟩
    exact ⟨φ, A.hom, fun a ha hae => A.inj a e ha g.elt (by rw [hae, IsHom.one g g A.hom]), hL, fun i hi => by simp at hi⟩
theorem inj_perm {φ : Nat → Nat} (hl : ∀ a, a < n → φ a < n) (hi : ∀ a b, a < n → b < n → φ a = φ b → a = b) : Pm.IsPerm (li ((List.range n).map φ)) := by
  refine ⟨fun i h => ?_, fun i j hij hj => ?_⟩
  · rw [hom_list_len] at h ⊢
    rw [hom_list_at h]
    have := hl i h
    omega
  · rw [hom_list_len] at hj
    rw [hom_list_at (by omega), hom_list_at hj]
    intro h9
    have := hi i j (by omega) hj (by omega)
    omega
theorem aut_perm {φ : Nat → Nat} (A : IsAut n zs e φ) : Pm.IsPerm (li ((List.range n).map φ)) := inj_perm A.hom.lt A.inj
theorem cjL_perm (g : IsGrp n zs e) {a : Nat} (ha : a < n) : Pm.IsPerm (cjL n zs e a) := by
  have F := grp_fg g
  have V := grp_iv g
  refine inj_perm (fun x hx => List.mem_range.1 (Fin.cj_mem F V (List.mem_range.2 hx) (List.mem_range.2 ha))) (fun x y hx hy h => ?_)
  have h1 := (Fin.cj_back F V (List.mem_range.2 hx) (List.mem_range.2 ha)).1
  have h2 := (Fin.cj_back F V (List.mem_range.2 hy) (List.mem_range.2 ha)).1
  rw [← h1, ← h2, h]
/-- An automorphism behind an inner one behind its inverse. -/
theorem aut_conj (g : IsGrp n zs e) {φ : Nat → Nat} (A : IsAut n zs e φ) {a : Nat} (ha : a < n) :
    Pm.mulL (Pm.mulL (Pm.invL (li ((List.range n).map φ))) (cjL n zs e a)) (li ((List.range n).map φ)) = cjL n zs e (φ a) := by
  have F := grp_fg g
  have V := grp_iv g
  have hP := aut_perm A
  have hL := hom_list_len (n := n) (φ := φ)
  have hil := Pm.invL_len (li ((List.range n).map φ))
  rw [hL] at hil
  apply Pm.list_ext
  · rw [Pm.mulL_len, Pm.mulL_len, hil, cjL_len]
  · intro y hy
    rw [Pm.mulL_len, Pm.mulL_len, hil] at hy
    obtain ⟨i, hi, hiy⟩ := Pm.perm_hits hP (y := y) (by rw [hL]; exact hy)
    rw [hL] at hi
    have h1 := Pm.invL_get hP (i := i) (by rw [hL]; exact hi)
    rw [hiy] at h1
    have hφ : φ i = y := by
      rw [← hiy]
      unfold Pm.nx
      rw [hom_list_at hi]
      rfl
    have hc := List.mem_range.1 (Fin.cj_mem F V (List.mem_range.2 hi) (List.mem_range.2 ha))
    rw [Pm.mulL_get _ (by rw [Pm.mulL_len, hil]; exact hy), Pm.mulL_get _ (by rw [hil]; exact hy), h1, Int.toNat_natCast, cjL_at hi, Int.toNat_natCast, hom_list_at hc, cjL_at hy]
    have h2 : Fin.cj (tm n zs) (iv n zs e) y (φ a) = φ (Fin.cj (tm n zs) (iv n zs e) i a) := by
      refine Fin.cj_unique F V (List.mem_range.2 hy) (List.mem_range.2 (A.hom.lt _ hc)) (List.mem_range.2 (A.hom.lt a ha)) ?_
      rw [← A.hom.mul _ _ ha hc, Fin.cj_eq F V (List.mem_range.2 hi) (List.mem_range.2 ha), A.hom.mul _ _ hi ha, hφ]
    rw [h2]
end
end Go.Proofs.YtlhjeenijcokoaaGreatDoor

namespace Go.Proofs.YtlhjeenijcokoaaGreatDoor
open Go Go.RowKit

end Go.Proofs.YtlhjeenijcokoaaGreatDoor

namespace Go.Proofs.YtlhjeenijcokoaaGreatDoor
open Go Go.RowKit

/-- Does each number below n stand there? -/
def o1 (n : Nat) (xs : List Int) : Bool := (List.range n).all fun i => decide ((i : Int) ∈ xs)
theorem o1_iff {n : Nat} {xs : List Int} : o1 n xs = true ↔ ∀ i, i < n → (i : Int) ∈ xs := by simp [o1]
set_option maxRecDepth 100000 in
set_option maxHeartbeats 2000000 in
theorem one_ok (n : Nat) (v : Value) (xs : List Int) (w : World) (hv : Sl w v xs) (hl : xs.length = n) (hn : n ≤ 1000) :
    Calls Tryz.prog 12 #[v, .int .i64 n] w fun x w' => x = .returned (.bool (o1 n xs)) ∧ Below w.heap.size w w' := by
  have HY := hide (fun (h : ∀ i, i < n → (i : Int) ∈ xs) => o1_iff.2 h)
  have HX := hide (fun i (hi : i < n) (h : ¬ (i : Int) ∈ xs) => show o1 n xs = false from by
    cases h9 : o1 n xs
    · rfl
    · exact absurd (o1_iff.1 h9 i hi) h)
  obtain ⟨v1, v2, v3, rfl⟩ := hv.isSlice
  have hv2 : v2 = n := by
    obtain ⟨_, _, _, _, he, _⟩ := hv
    injection he with _ h2
    omega
  subst hv2
  generalize o1 v2 xs = b at *
  go_enter Tryz.func12, Tryz.ntmps12
  go_wp2
  go_loopw [5] (fun i wr => ∃ k : Nat, k ≤ v2 ∧ i = .int .i64 k ∧ (∀ t, t < k → (t : Int) ∈ xs) ∧ wr = w) (fun i _ => v2 - (intOf i).toNat)
  case atStart => exact ⟨0, Nat.zero_le _, rfl, fun t ht => by omega, rfl⟩
  case round =>
    obtain ⟨k, hk, rfl, hall, rfl⟩ := hrel
    have HA := hide hall
    clear hall
    by_cases hlt : k < v2
    · have hki : (k : Int) < (v2 : Int) := by omega
      have HH := hide (rhas_ok (.slice v1 v2 v3) xs (k : Int) wr hv)
      go_wp2_with fail
      refine HH.out.mono ?_
      rintro x w1 ⟨rfl, hw1⟩
      subst hw1
      by_cases hin : (k : Int) ∈ xs
      · rw [decide_eq_true hin]
        go_wp2
        go_roundw
        case rel => exact ⟨k + 1, by omega, by go_num, fun t ht => by
          by_cases e : t = k
          · subst e; exact hin
          · exact HA.out t (by omega), trivial⟩
        case measure => simp [intOf]; omega
      · rw [decide_eq_false hin]
        have hb := HX.out k hlt hin
        go_wp2
        go_ret
        exact ⟨by first | rfl | (rw [hb]; rfl), Below.refl _ _⟩
    · have hki : ¬ (k : Int) < (v2 : Int) := by omega
      have hb := HY.out (fun i hi => HA.out i (by omega))
      go_wp2
      go_ret
      exact ⟨by first | rfl | (rw [hb]; rfl), Below.refl _ _⟩
section
variable {n e : Nat} {zs : List Int}
/-- A homomorphism into the same group hits all just where it is an automorphism. -/
theorem o1_aut {φ : Nat → Nat} (H : IsHom n zs n zs φ) : o1 n (li ((List.range n).map φ)) = true ↔ IsAut n zs e φ := by
  rw [o1_iff]
  have hmem : ∀ i : Nat, (i : Int) ∈ li ((List.range n).map φ) ↔ ∃ a, a < n ∧ φ a = i := fun i => by
    unfold li
    rw [List.map_map, List.mem_map]
    constructor
    · rintro ⟨a, ha, h⟩
      exact ⟨a, List.mem_range.1 ha, by have h : (φ a : Int) = i := h; omega⟩
    · rintro ⟨a, ha, h⟩
      exact ⟨a, List.mem_range.2 ha, by show (φ a : Int) = i; omega⟩
  constructor
  · intro h
    refine ⟨H, fun a b ha hb hab => ?_⟩
    rcases Nat.decEq a b with hne | heq
    · exfalso
      -- without b all are still hit: too many for n - 1
      have hsub : ∀ z, z ∈ List.range n → z ∈ ((List.range n).erase b).map φ := fun z hz => by
        obtain ⟨c, hc, hcz⟩ := (hmem z).1 (h z (List.mem_range.1 hz))
        by_cases hcb : c = b
        · exact List.mem_map.2 ⟨a, (List.mem_erase_of_ne hne).2 (List.mem_range.2 ha), by rw [hab, ← hcb]; exact hcz⟩
        · exact List.mem_map.2 ⟨c, (List.mem_erase_of_ne hcb).2 (List.mem_range.2 hc), hcz⟩
      have := Pm.nodup_len _ _ List.nodup_range hsub
      rw [List.length_map, List.length_erase_of_mem (List.mem_range.2 hb), List.length_range] at this
      omega
    · exact heq
  · intro A i hi
    obtain ⟨a, ha, hae⟩ := Pm.perm_hits (aut_perm A) (y := i) (by rw [hom_list_len]; exact hi)
    rw [hom_list_len] at ha
    refine (hmem i).2 ⟨a, ha, ?_⟩
    unfold Pm.nx at hae
    rw [hom_list_at ha] at hae
    simpa using hae
/-- What Autos lists stands in order. -/
theorem aut_sorted (g : IsGrp n zs e) {ks : List Nat} (hLM : LM n zs e ks) (hall : ∀ a, a < n → Mkd n zs e (fun x => decide (x ∈ ks)) a) : (autL n zs e ks).Pairwise (fun a b => cmpL a b < 0) := by
  refine homF_sorted (FP := fun φ => ∀ a, a < n → φ a = e → a = e) (fit := fun ms => sngq n e ms e) g g hLM hall (fun φ S ps H hF hps hS => ?_) (fun φ H hf a ha hae => ?_) _ _ (by simp) (by simp) (by simp)
  · exact sng_fit g H hF hps hS
  · exact sng_ker hf ha hae
theorem aut_filter (g : IsGrp n zs e) {ks ls : List Nat} {ms : List (List Int)} (hLM : LM n zs e ks) (hall : ∀ a, a < n → Mkd n zs e (fun x => decide (x ∈ ks)) a) (hl : ∀ k, k ∈ ls → k < n) (hall' : ∀ a, a < n → Mkd n zs e (fun x => decide (x ∈ ls)) a) (hp : ms.Perm (dhF n zs e n zs e ls ls.length [])) (hs : srt ms) : ms.filter (o1 n) = autL n zs e ks := by
  have hnd : ms.Nodup := hp.nodup_iff.2 (dh_nodup g g hl hall' _ _ (by simp) (by simp))
  have hsort := aut_sorted g hLM hall
  have hnd2 : (autL n zs e ks).Nodup := hsort.imp fun {a b} h h9 => by
    subst h9
    have := (cmpL_zero a a).2 rfl
    omega
  refine srt_eq ((List.perm_ext_iff_of_nodup (hnd.sublist List.filter_sublist) hnd2).2 fun L => ?_) ?_ hsort
  · rw [List.mem_filter, hp.mem_iff, dh_mem g g hl hall' _ _ _ (by simp) (by simp), aut_mem g hLM.lt hall]
    constructor
    · rintro ⟨⟨φ, H, rfl, _⟩, ho⟩
      exact ⟨φ, (o1_aut H).1 ho, rfl⟩
    · rintro ⟨φ, A, rfl⟩
      exact ⟨⟨φ, A.hom, rfl, fun i hi => by simp at hi⟩, (o1_aut A.hom).2 A⟩
  · have h1 : ms.Pairwise (fun a b => ¬ cmpL b a < 0) := List.pairwise_iff_getElem.2 fun i j hi hj hij => by
      have := hs i j hij hj
      rwa [List.getElem?_eq_getElem hi, List.getElem?_eq_getElem hj] at this
    have h2 := h1.sublist (List.filter_sublist (p := o1 n))
    intro i j hij hj
    have := List.pairwise_iff_getElem.1 h2 i j (by omega) hj hij
    rw [List.getElem?_eq_getElem hj, List.getElem?_eq_getElem (show i < (ms.filter (o1 n)).length by omega)]
    exact this
/-- Struck and sorted. -/
theorem dd_sorted {ls : List (List Int)} (hs : srt ls) : (dd ls).Pairwise (fun a b => cmpL a b < 0) := by
  have h1 : (dd ls).Pairwise (fun a b => ¬ cmpL b a < 0) := by
    unfold dd
    refine List.pairwise_map.2 ?_
    have h0 : (kpt ls ls.length).Pairwise (· < ·) := List.pairwise_lt_range.sublist List.filter_sublist
    refine h0.imp_of_mem ?_
    intro i j hi hj hij
    have hjl := List.mem_range.1 (List.mem_filter.1 hj).1
    exact hs i j hij hjl
  have h2 : (dd ls).Pairwise (fun a b => a ≠ b) := dd_nodup hs
  refine (h1.and h2).imp fun {a b} h => ?_
  obtain ⟨h3, h4⟩ := h
  have h5 := cmpL_neg a b
  have h6 : cmpL a b ≠ 0 := fun h9 => h4 ((cmpL_zero a b).1 h9)
  omega
theorem inn_same {ms os rs : List (List Int)} (hp : ms.Perm (innL n zs e)) (hs : srt ms) (hnd : os.Nodup) (hm : ∀ x, x ∈ os ↔ ∃ a, a < n ∧ x = cjL n zs e a) (hr : rs.Perm os) (hrs : srt rs) : rs = dd ms := by
  refine srt_eq (hr.trans ((List.perm_ext_iff_of_nodup hnd (dd_nodup hs)).2 fun x => ?_)) hrs (dd_sorted hs)
  rw [hm, dd_mem, hp.mem_iff, inn_mem]
end
end Go.Proofs.YtlhjeenijcokoaaGreatDoor

namespace Go.Proofs.YtlhjeenijcokoaaGreatDoor
open Go Go.RowKit

section
variable {n e m d : Nat} {zs ys : List Int} {φ : Nat → Nat}
/-- A homomorphism that has no thing twice. -/
structure IsIso (n : Nat) (zs : List Int) (m : Nat) (ys : List Int) (φ : Nat → Nat) : Prop where
  hom : IsHom n zs m ys φ
  inj : ∀ a b, a < n → b < n → φ a = φ b → a = b
theorem iso_of_ker (g : IsGrp n zs e) (h : IsGrp m ys d) (H : IsHom n zs m ys φ) (hk : ∀ a, a < n → φ a = d → a = e) : IsIso n zs m ys φ := by
  refine ⟨H, fun a b ha hb hab => ?_⟩
  obtain ⟨i1, i2, i3, _⟩ := iv_spec g hb
  have h1 := H.mul a (iv n zs e b) ha i1
  have h2 := H.mul b (iv n zs e b) hb i1
  rw [i2, IsHom.one g h H] at h2
  rw [hab, ← h2] at h1
  have h3 := hk _ (tm_lt g.tab ha i1) h1
  have h4 : tm n zs (tm n zs a (iv n zs e b)) b = tm n zs e b := congrArg (fun t => tm n zs t b) h3
  rw [g.ass a _ b ha i1 hb, i3, g.right a ha, g.left b hb] at h4
  exact h4
theorem IsIso.ker (g : IsGrp n zs e) (h : IsGrp m ys d) (A : IsIso n zs m ys φ) {a : Nat} (ha : a < n) (hae : φ a = d) : a = e := A.inj a e ha g.elt (by rw [hae, IsHom.one g h A.hom])
theorem IsIso.ord (g : IsGrp n zs e) (h : IsGrp m ys d) (A : IsIso n zs m ys φ) {a : Nat} (ha : a < n) : ordN m ys d (φ a) = ordN n zs e a := by
  refine Nat.dvd_antisymm (hom_ord g h A.hom ha) (ord_dvd g ha (A.ker g h (pw_lt g ha _) ?_))
  rw [hom_pw g h A.hom ha, pw_ord h (A.hom.lt a ha)]
theorem IsIso.hits (A : IsIso n zs m ys φ) (hn : m ≤ n) {y : Nat} (hy : y < m) : ∃ a, a < n ∧ φ a = y := Classical.byContradiction fun hno => by
  have hnd : ((List.range n).map φ).Nodup := by
    rw [List.nodup_iff_pairwise_ne, List.pairwise_map]
    exact (List.nodup_iff_pairwise_ne.1 List.nodup_range).imp_of_mem fun {a b} ha hb hne h9 => hne (A.inj a b (List.mem_range.1 ha) (List.mem_range.1 hb) h9)
  have hsub : ∀ z, z ∈ (List.range n).map φ → z ∈ (List.range m).erase y := fun z hz => by
    obtain ⟨a, ha, rfl⟩ := List.mem_map.1 hz
    have ha := List.mem_range.1 ha
    exact (List.mem_erase_of_ne (fun h9 => hno ⟨a, ha, h9⟩)).2 (List.mem_range.2 (A.hom.lt a ha))
  have := nodup_len _ _ hnd hsub
  rw [List.length_map, List.length_erase_of_mem (List.mem_range.2 hy), List.length_range, List.length_range] at this
  omega
theorem IsIso.perm (A : IsIso n zs m ys φ) (hn : n = m) : ((List.range n).map φ).Perm (List.range m) := by
  have hnd : ((List.range n).map φ).Nodup := by
    rw [List.nodup_iff_pairwise_ne, List.pairwise_map]
    exact (List.nodup_iff_pairwise_ne.1 List.nodup_range).imp_of_mem fun {a b} ha hb hne h9 => hne (A.inj a b (List.mem_range.1 ha) (List.mem_range.1 hb) h9)
  refine (List.perm_ext_iff_of_nodup hnd List.nodup_range).2 fun z => ?_
  rw [List.mem_map, List.mem_range]
  constructor
  · rintro ⟨a, ha, rfl⟩
    exact A.hom.lt a (List.mem_range.1 ha)
  · intro hz
    obtain ⟨a, ha, h9⟩ := A.hits (by omega) hz
    exact ⟨a, List.mem_range.2 ha, h9⟩
/-- Both groups have each order as often. -/
theorem IsIso.orders (g : IsGrp n zs e) (h : IsGrp m ys d) (A : IsIso n zs m ys φ) (hn : n = m) : ((List.range n).map (ordN n zs e)).Perm ((List.range m).map (ordN m ys d)) := by
  have h1 : (List.range n).map (ordN n zs e) = ((List.range n).map φ).map (ordN m ys d) := by
    rw [List.map_map]
    exact List.map_congr_left fun a ha => (A.ord g h (List.mem_range.1 ha)).symm
  rw [h1]
  exact (A.perm hn).map _
theorem IsIso.o1 (A : IsIso n zs m ys φ) (hn : n = m) : o1 m (li ((List.range n).map φ)) = true := by
  rw [o1_iff]
  intro i hi
  obtain ⟨a, ha, h9⟩ := A.hits (by omega) hi
  exact List.mem_map.2 ⟨i, List.mem_map.2 ⟨a, List.mem_range.2 ha, h9⟩, rfl⟩
/-- A homomorphism that hits all of as many things is an isomorphism. -/
theorem iso_of_o1 (H : IsHom n zs m ys φ) (hn : n = m) (ho : o1 m (li ((List.range n).map φ)) = true) : IsIso n zs m ys φ := by
  rw [o1_iff] at ho
  refine ⟨H, fun a b ha hb hab => Classical.byContradiction fun hne => ?_⟩
  have hsub : ∀ z, z ∈ List.range m → z ∈ ((List.range n).erase b).map φ := fun z hz => by
    obtain ⟨t, ht, htz⟩ := List.mem_map.1 (ho z (List.mem_range.1 hz))
    obtain ⟨c, hc, rfl⟩ := List.mem_map.1 ht
    have hcz : φ c = z := by have htz : (φ c : Int) = z := htz; omega
    by_cases hcb : c = b
    · exact List.mem_map.2 ⟨a, (List.mem_erase_of_ne hne).2 (List.mem_range.2 ha), by rw [hab, ← hcb]; exact hcz⟩
    · exact List.mem_map.2 ⟨c, (List.mem_erase_of_ne hcb).2 hc, hcz⟩
  have := nodup_len _ _ List.nodup_range hsub
  rw [List.length_map, List.length_erase_of_mem (List.mem_range.2 hb), List.length_range, List.length_range] at this
  omega
theorem sng_fit2 (g : IsGrp n zs e) (h : IsGrp m ys d) {S : List Int × List Nat} {ps : List (Nat × Nat)} (H : IsHom n zs m ys φ) (hF : ∀ a, a < n → φ a = d → a = e) (hps : ∀ p, p ∈ ps → p.1 < n ∧ φ p.1 = p.2) (hS : ext n zs e m ys d ps = some S) : sngq n e S.1 d = true := by
  have hp : ∀ p, p ∈ ps → p.1 < n ∧ p.2 < m := fun p hp => ⟨(hps p hp).1, by rw [← (hps p hp).2]; exact H.lt _ (hps p hp).1⟩
  obtain ⟨r1, r2, r3, _⟩ := ext_grow g h hp hS
  obtain ⟨S', hS', hv⟩ := ext_of_hom g h H hps
  rw [hS] at hS'
  injection hS' with hS'
  subst hS'
  unfold sngq
  refine decide_eq_true (bs_ext fun a ha => ?_)
  unfold kerq
  by_cases hin : a ∈ S.2
  · rw [hv a hin]
    by_cases hae : a = e
    · subst hae
      rw [IsHom.one g h H]
      simp
    · rw [decide_eq_false hae]
      refine decide_eq_false fun h9 => hae (hF a ha ?_)
      omega
  · have hae : ¬ a = e := fun h9 => hin (by rw [h9]; exact r2)
    rw [decide_eq_false hae]
    refine decide_eq_false fun h9 => ?_
    have := r1.no a ha hin
    rw [this] at h9
    omega
theorem sng_ker2 (hf : sngq n e (li ((List.range n).map φ)) d = true) {a : Nat} (ha : a < n) (hae : φ a = d) : a = e := by
  have := bs_inj (of_decide_eq_true hf) a ha
  unfold kerq at this
  rw [hom_list_at ha, hae] at this
  simpa using this
/-- What single yields: by whatever makers, the isomorphisms into the other group. -/
theorem iso_mem (g : IsGrp n zs e) (h : IsGrp m ys d) {ks : List Nat} (hk : ∀ k, k ∈ ks → k < n) (hall : ∀ a, a < n → Mkd n zs e (fun x => decide (x ∈ ks)) a) {L : List Int} : L ∈ homF n zs e m ys d ks (fun ms => sngq n e ms d) (ks.length + 1) [] ↔ ∃ φ, IsIso n zs m ys φ ∧ L = li ((List.range n).map φ) := by
  have key := homF_mem (FP := fun φ => ∀ a, a < n → φ a = d → a = e) (fit := fun ms => sngq n e ms d) g h hk hall
    (fun φ S ps H hF hps hS => sng_fit2 g h H hF hps hS)
    (fun φ H hf a ha hae => sng_ker2 hf ha hae)
    (ks.length + 1) [] L (by simp) (by simp) (by simp)
  rw [key]
  constructor
  · rintro ⟨φ, H, hF, hL, _⟩
    exact ⟨φ, iso_of_ker g h H hF, hL⟩
  · rintro ⟨φ, A, hL⟩
    exact ⟨φ, A.hom, fun a ha hae => A.ker g h ha hae, hL, fun i hi => by simp at hi⟩
theorem iso_none (g : IsGrp n zs e) (h : IsGrp m ys d) {ks : List Nat} (hk : ∀ k, k ∈ ks → k < n) (hall : ∀ a, a < n → Mkd n zs e (fun x => decide (x ∈ ks)) a) : homF n zs e m ys d ks (fun ms => sngq n e ms d) (ks.length + 1) [] = [] ↔ ¬ ∃ φ, IsIso n zs m ys φ := by
  rw [List.eq_nil_iff_forall_not_mem]
  constructor
  · rintro h1 ⟨φ, A⟩
    exact h1 _ ((iso_mem g h hk hall).2 ⟨φ, A, rfl⟩)
  · intro h1 L hL
    obtain ⟨φ, A, _⟩ := (iso_mem g h hk hall).1 hL
    exact h1 ⟨φ, A⟩
/-- A group is isomorphic to itself. -/
theorem iso_id : IsIso n zs n zs id := ⟨⟨fun _ ha => ha, fun _ _ _ _ => rfl⟩, fun _ _ _ _ h => h⟩
end
end Go.Proofs.YtlhjeenijcokoaaGreatDoor

namespace Go.Proofs.YtlhjeenijcokoaaGreatDoor
open Go Go.RowKit

section
variable {n e m d k c : Nat} {zs ys xs : List Int} {π ψ : Nat → Nat}
/-- Where two things go to the same, their quotient goes to the one. -/
theorem hom_same_iff (g : IsGrp n zs e) (h : IsGrp m ys d) (H : IsHom n zs m ys π) {a b : Nat} (ha : a < n) (hb : b < n) : π a = π b ↔ π (tm n zs a (iv n zs e b)) = d := by
  obtain ⟨i1, i2, i3, _⟩ := iv_spec g hb
  have h1 := H.mul a (iv n zs e b) ha i1
  have h2 := H.mul b (iv n zs e b) hb i1
  rw [i2, IsHom.one g h H] at h2
  constructor
  · intro hab
    rw [h1, hab, ← h2]
  · intro hd
    have h3 := H.mul _ b (tm_lt g.tab ha i1) hb
    rw [hd, h.left _ (H.lt b hb), g.ass a _ b ha i1 hb, i3, g.right a ha] at h3
    exact h3
/-- A homomorphism onto. -/
structure IsOnto (n : Nat) (zs : List Int) (m : Nat) (ys : List Int) (π : Nat → Nat) : Prop where
  hom : IsHom n zs m ys π
  hits : ∀ y, y < m → ∃ a, a < n ∧ π a = y
theorem IsOnto.comp {ρ : Nat → Nat} (A : IsOnto n zs m ys π) (B : IsOnto m ys k xs ρ) : IsOnto n zs k xs (fun a => ρ (π a)) :=
  ⟨⟨fun a ha => B.hom.lt _ (A.hom.lt a ha), fun a b ha hb => by
    show ρ (π (tm n zs a b)) = _
    rw [A.hom.mul a b ha hb, B.hom.mul _ _ (A.hom.lt a ha) (A.hom.lt b hb)]⟩, fun y hy => by
    obtain ⟨b, hb, h1⟩ := B.hits y hy
    obtain ⟨a, ha, h2⟩ := A.hits b hb
    exact ⟨a, ha, by show ρ (π a) = y; rw [h2, h1]⟩⟩
/-- Two images with the same kernel are isomorphic. -/
theorem iso_glue (g : IsGrp n zs e) (h : IsGrp m ys d) (j : IsGrp k xs c) (A : IsOnto n zs m ys π) (B : IsOnto n zs k xs ψ) (hk : ∀ a, a < n → (π a = d ↔ ψ a = c)) : m = k ∧ ∃ φ, IsIso m ys k xs φ := by
  have key : ∀ a b, a < n → b < n → (π a = π b ↔ ψ a = ψ b) := fun a b ha hb => by
    obtain ⟨i1, _⟩ := iv_spec g hb
    rw [hom_same_iff g h A.hom ha hb, hom_same_iff g j B.hom ha hb]
    exact hk _ (tm_lt g.tab ha i1)
  have hs : ∃ s : Nat → Nat, ∀ y, y < m → s y < n ∧ π (s y) = y := ⟨fun y => if hy : y < m then Classical.choose (A.hits y hy) else 0, fun y hy => by
    simp only [dif_pos hy]
    exact Classical.choose_spec (A.hits y hy)⟩
  obtain ⟨s, hs⟩ := hs
  have hI : IsIso m ys k xs (fun y => ψ (s y)) := by
    refine ⟨⟨fun y hy => B.hom.lt _ (hs y hy).1, fun y z hy hz => ?_⟩, fun y z hy hz hyz => ?_⟩
    · show ψ (s (tm m ys y z)) = tm k xs (ψ (s y)) (ψ (s z))
      obtain ⟨h1, h2⟩ := hs y hy
      obtain ⟨h3, h4⟩ := hs z hz
      obtain ⟨h5, h6⟩ := hs (tm m ys y z) (tm_lt h.tab hy hz)
      rw [← B.hom.mul _ _ h1 h3, ← key _ _ h5 (tm_lt g.tab h1 h3), h6, A.hom.mul _ _ h1 h3, h2, h4]
    · have h1 := (key _ _ (hs y hy).1 (hs z hz).1).2 hyz
      rw [(hs y hy).2, (hs z hz).2] at h1
      exact h1
  refine ⟨?_, _, hI⟩
  have l1 : m ≤ k := by
    have hnd : ((List.range m).map fun y => ψ (s y)).Nodup := by
      rw [List.nodup_iff_pairwise_ne, List.pairwise_map]
      exact (List.nodup_iff_pairwise_ne.1 List.nodup_range).imp_of_mem fun {a b} ha hb hne h9 => hne (hI.inj a b (List.mem_range.1 ha) (List.mem_range.1 hb) h9)
    have := nodup_len _ (List.range k) hnd (fun z hz => by
      obtain ⟨a, ha, rfl⟩ := List.mem_map.1 hz
      exact List.mem_range.2 (hI.hom.lt a (List.mem_range.1 ha)))
    rwa [List.length_map, List.length_range, List.length_range] at this
  have l2 : k ≤ m := by
    have := nodup_len (List.range k) ((List.range m).map fun y => ψ (s y)) List.nodup_range (fun z hz => by
      obtain ⟨a, ha, h1⟩ := B.hits z (List.mem_range.1 hz)
      have hy := A.hom.lt a ha
      refine List.mem_map.2 ⟨π a, List.mem_range.2 hy, ?_⟩
      show ψ (s (π a)) = z
      rw [← h1, ← key _ _ (hs _ hy).1 ha, (hs _ hy).2])
    rwa [List.length_map, List.length_range, List.length_range] at this
  omega
end
end Go.Proofs.YtlhjeenijcokoaaGreatDoor
