/- Lists of lists of lists of numbers, as they lie; how package class makes them. What package class's noWays makes. What the document's O, P and Commutes, and listAs of the laws, answer. What package class's power answers. What package class's Powers and Pairs answer. Condition: the library's table of places lies as its text lays it. What package class's times answers: in how many ways the first thing of a class is the product of things of two classes. In how many ways a thing is a product of two classes' things, counted either way. No condition. -/
import Derived.Test.YtobnfbnholbfoaaDoorZ6
import Derived.Test.YtobnfbnholbfoaaDoorZ4
import Derived.Test.YtobnfbnholbfoaaDoorZ5
import Derived.Test.YtobnfbnholbfoaaDoorZ3
namespace Go.Proofs.YtobnfbnholbfoaaDoor
open Go Go.RowKit Go.Maps

theorem info25b : (Tryd.prog.info? 25).map (fun i => (i.zero, i.size, i.bytes)) = some (some (.slice none 0 0), 1, 24) := by kernel_rfl
theorem under39b : Tryd.prog.underlying 39 = some (.slice 25) := by kernel_rfl
/-- 'make([]T, n)': what it makes, as it lies. -/
theorem wpList_make_at {P : Program} (w : World) {ops : Array Oper} {rest : List Oper} {o : Oper} {a : Act} {Q : Exit → Act → World → Prop}
    (hg : o.guard = none) (l c : Operand) (t : TypeId) (hop : o.op = Op.makeSlice t l c)
    (e : TypeId) (i : TypeInfo) (z : Value) (ht : P.underlying t = some (.slice e)) (hi : P.info? e = some i) (hz : i.zero = some z) (hsize : i.size = 1)
    (kl kc : IntKind) (n : Nat) (hl : a.eval l = .int kl n) (hc : a.eval c = .int kc (n : Int)) (hbytes : i.bytes * n ≤ 281474976710656) (h63 : n ≤ maxLen)
    (hK : wpList P ops Q rest (a.put o.dst (.slice (some ⟨w.heap.size, 0, none⟩) n n)) (w.alloc (.cells (madeCells z.cells n) e))) :
    wpList P ops Q (o :: rest) a w := by
  refine wpList_plain hg fun K hK' => ?_
  have hb' : (i.bytes : Int) * (n : Int) ≤ 281474976710656 := by
    have h : ((i.bytes * n : Nat) : Int) ≤ 281474976710656 := by omega
    rwa [Int.natCast_mul] at h
  have h63' : (n : Int) ≤ 9223372036854775807 := by
    have h := h63
    simp [maxLen] at h
    omega
  have hrun := run_make (P := P) w t e i z ht hi hz kl kc n n (by omega) (Int.le_refl _) hb' h63'
  rw [hsize] at hrun
  simp only [Int.toNat_natCast, Nat.mul_one] at hrun
  unfold Oper.wp
  simp [execOp, hop, hl, hc, hrun, Result.andThen]
  exact hK' _ _ hK
theorem make_blkL (e : TypeId) (z : Value) (n : Nat) (W : World) : Blk (W.alloc (.cells (madeCells #[z] n) e)) W.heap.size e (List.replicate n z) := by
  have h : Blk (W.alloc (.cells (madeCells #[z] n) e)) W.heap.size e (madeCells #[z] n).toList := World.alloc_heap_new W _
  rw [made_rep] at h
  exact h
/-- The r-th block of the i-th row. -/
def pos (S m i r : Nat) : Nat := S + 1 + i * (m + 1) + r
theorem pos_succ (S m i : Nat) : pos S m (i + 1) 0 = pos S m i 0 + (m + 1) := by
  unfold pos
  rw [Nat.add_mul, Nat.one_mul]
  omega
theorem pos_r (S m i r : Nat) : pos S m i r = pos S m i 0 + r := by unfold pos; omega
theorem pos_S (S m i r : Nat) : S < pos S m i r := by unfold pos; omega
theorem pos_lt {S m i k r : Nat} (h : i < k) (hr : r ≤ m) : pos S m i r < pos S m k 0 := by
  have h1 : (i + 1) * (m + 1) ≤ k * (m + 1) := Nat.mul_le_mul_right _ h
  rw [Nat.add_mul, Nat.one_mul] at h1
  unfold pos
  omega
theorem pos_inj {S m i k r s : Nat} (hr : r ≤ m) (hs : s ≤ m) (h : pos S m i r = pos S m k s) : i = k ∧ r = s := by
  have h0 : i = k := by
    rcases Nat.lt_trichotomy i k with h1 | h1 | h1
    · have := pos_lt (S := S) h1 hr
      rw [pos_r S m k s] at h
      omega
    · exact h1
    · have := pos_lt (S := S) h1 hs
      rw [pos_r S m i r] at h
      omega
  subst h0
  rw [pos_r S m i r, pos_r S m i s] at h
  exact ⟨rfl, by omega⟩
/-- The headers that lie in a list, as far as they are written. -/
def hdL (p : Nat → Nat) (m k : Nat) : List Value := (List.range m).map fun i => if i < k then .slice (some ⟨p i, 0, none⟩) m m else .slice none 0 0
theorem hdL_zero (p : Nat → Nat) (m : Nat) : hdL p m 0 = List.replicate m (.slice none 0 0) := by
  apply List.ext_getElem <;> simp [hdL]
theorem hdL_set (p : Nat → Nat) (m k : Nat) : (hdL p m k).set k (.slice (some ⟨p k, 0, none⟩) m m) = hdL p m (k + 1) := by
  unfold hdL
  apply List.ext_getElem
  · simp
  · intro i h1 h2
    rw [List.getElem_set]
    simp only [List.getElem_map, List.getElem_range]
    by_cases e : k = i
    · subst e; simp
    · rw [if_neg e]
      by_cases h : i < k
      · rw [if_pos h, if_pos (by omega)]
      · rw [if_neg h, if_neg (by omega)]
theorem hdL_at {p : Nat → Nat} {m k i : Nat} (hi : i < m) (hk : i < k) : (hdL p m k)[i]? = some (.slice (some ⟨p i, 0, none⟩) m m) := by
  unfold hdL
  simp [hi, hk]
theorem hdL_at' {p : Nat → Nat} {m k : Nat} (hi : k < m) : (hdL p m k)[k]? = some (.slice none 0 0) := by
  unfold hdL
  simp [hi]
/-- One row of lists, as it lies. -/
structure RowD (W : World) (S m : Nat) (F : Nat → Nat → Int) (i : Nat) : Prop where
  row : Blk W (pos S m i 0) 22 (hdL (fun j => pos S m i (j + 1)) m m)
  cel : ∀ j, j < m → Blk W (pos S m i (j + 1)) 3 (((List.range m).map (F j)).map (Value.int .i64))
theorem RowD.keep {W W' : World} {S m i : Nat} {F : Nat → Nat → Int} (h : RowD W S m F i) (hk : ∀ r, r ≤ m → W'.heap[pos S m i r]? = W.heap[pos S m i r]?) : RowD W' S m F i :=
  ⟨h.row.of_eq (hk 0 (Nat.zero_le _)), fun j hj => (h.cel j hj).of_eq (hk (j + 1) (by omega))⟩
/-- Lists of lists of lists, as they lie. -/
structure Cub (W : World) (S m : Nat) (F : Nat → Nat → Nat → Int) : Prop where
  top : Blk W S 25 (hdL (fun i => pos S m i 0) m m)
  row : ∀ i, i < m → RowD W S m (F i) i
theorem Cub.below {W W' : World} {S m : Nat} {F : Nat → Nat → Nat → Int} (h : Cub W S m F) (hb : Below W.heap.size W W') : Cub W' S m F := by
  refine ⟨blk_below h.top hb, fun i hi => (h.row i hi).keep fun r hr => hb.block _ ?_⟩
  cases r with
  | zero => exact (h.row i hi).row.lt
  | succ j => exact ((h.row i hi).cel j (by omega)).lt
theorem Cub.congr {W : World} {S m : Nat} {F G : Nat → Nat → Nat → Int} (h : Cub W S m F) (he : ∀ i j k, i < m → j < m → k < m → F i j k = G i j k) : Cub W S m G := by
  refine ⟨h.top, fun i hi => ⟨(h.row i hi).row, fun j hj => ?_⟩⟩
  rw [show (List.range m).map (G i j) = (List.range m).map (F i j) from List.map_congr_left fun k hk => (he i j k hi hj (List.mem_range.1 hk)).symm]
  exact (h.row i hi).cel j hj
/-- One number is written. -/
theorem Cub.set {W : World} {S m i j k : Nat} {F : Nat → Nat → Nat → Int} (h : Cub W S m F) (hi : i < m) (hj : j < m) (x : Int) : Cub (W.setCell ⟨pos S m i (j + 1), k, none⟩ (.int .i64 x)) S m (fun a b c => if a = i ∧ b = j ∧ c = k then x else F a b c) := by
  refine ⟨h.top.other (p := ⟨pos S m i (j + 1), k, none⟩) (by have := pos_S S m i (j + 1); simp; omega) _, fun a ha => ⟨(h.row a ha).row.other (p := ⟨pos S m i (j + 1), k, none⟩) (fun e => by have := (pos_inj (Nat.zero_le _) (by omega) e).2; omega) _, fun b hb => ?_⟩⟩
  by_cases e : a = i ∧ b = j
  · obtain ⟨rfl, rfl⟩ := e
    have h1 := ((h.row a ha).cel b hb).setInt k x
    rw [map_set] at h1
    rw [show (List.range m).map (fun c => if a = a ∧ b = b ∧ c = k then x else F a b c) = (List.range m).map (fun z => if z = k then x else F a b z) from List.map_congr_left fun c _ => by simp]
    exact h1
  · have h1 := ((h.row a ha).cel b hb).other (p := ⟨pos S m i (j + 1), k, none⟩) (fun e9 => e (by have := pos_inj (show b + 1 ≤ m by omega) (show j + 1 ≤ m by omega) e9; omega)) (.int .i64 x)
    rw [show (List.range m).map (fun c => if a = i ∧ b = j ∧ c = k then x else F a b c) = (List.range m).map (F a b) from List.map_congr_left fun c _ => if_neg fun h9 => e ⟨h9.1, h9.2.1⟩]
    exact h1
end Go.Proofs.YtobnfbnholbfoaaDoor

namespace Go.Proofs.YtobnfbnholbfoaaDoor
open Go Go.RowKit Go.Maps

theorem zero_map (m : Nat) : (List.range m).map (fun _ : Nat => (0 : Int)) = List.replicate m 0 := by
  apply List.ext_getElem <;> simp
set_option maxRecDepth 100000 in
set_option maxHeartbeats 4000000 in
theorem now_ok (m : Nat) (w : World) (hm : m ≤ 60) :
    Calls Tryd.prog 69 #[.int .i64 m] w fun x w' => x = .returned (.slice (some ⟨w.heap.size, 0, none⟩) m m) ∧ Cub w' w.heap.size m (fun _ _ _ => 0) ∧ Below w.heap.size w w' := by
  obtain ⟨i0, hi, hz0, hz1, hz2⟩ := info_parts info25b
  obtain ⟨j0, gi, gz0, gz1, gz2⟩ := info_parts info22b
  have HMK := hide (make_run m hm)
  go_enter Tryd.func69, Tryd.ntmps69
  go_wp2_with (first
    | (at_make; refine wpList_make_at _ rfl _ _ 39 rfl 25 i0 (.slice none 0 0) under39b hi hz0 hz1 .i64 .i64 m rfl rfl (by rw [hz2]; omega) (by unfold maxLen; omega) ?_))
  have hT0 : Blk (w.alloc (.cells (madeCells #[.slice none 0 0] m) 25)) w.heap.size 25 (hdL (fun i => pos w.heap.size m i 0) m 0) := by
    rw [hdL_zero]; exact make_blkL 25 (.slice none 0 0) m w
  have hB0 : Below w.heap.size w (w.alloc (.cells (madeCells #[.slice none 0 0] m) 25)) := balloc w _
  have hs0 : (w.alloc (.cells (madeCells #[.slice none 0 0] m) 25)).heap.size = pos w.heap.size m 0 0 := by rw [World.size_alloc]; simp [pos]
  go_wp2
  go_loopw [9] (fun i wr => ∃ k : Nat, k ≤ m ∧ i = .int .i64 k ∧ Blk wr w.heap.size 25 (hdL (fun i => pos w.heap.size m i 0) m k) ∧ (∀ i, i < k → RowD wr w.heap.size m (fun _ _ => 0) i) ∧ wr.heap.size = pos w.heap.size m k 0 ∧ Below w.heap.size w wr) (fun i _ => m - (intOf i).toNat)
  case atStart => exact ⟨0, Nat.zero_le _, rfl, hT0, fun i hi => by omega, hs0, hB0⟩
  case round =>
    clear hT0 hB0 hs0
    obtain ⟨k, hk, rfl, hT, hD, hsz, hB⟩ := hrel
    by_cases hlt : k < m
    · have hki : (k : Int) < (m : Int) := by omega
      have hkl : wr.heap.size = pos w.heap.size m k 0 := hsz
      have hpS := pos_S w.heap.size m k 0
      have tc0 : wr.cell? ⟨w.heap.size, k, none⟩ = some (.slice none 0 0) := (hT.cell k).trans (hdL_at' hlt)
      have tf0 := hT.frozen k
      have hT1 := hT.alloc (.cells (madeCells #[.slice none 0 0] m) 22)
      have tc : (wr.alloc (.cells (madeCells #[.slice none 0 0] m) 22)).cell? ⟨w.heap.size, k, none⟩ = some (.slice none 0 0) := (hT1.cell k).trans (hdL_at' hlt)
      have tf := hT1.frozen k
      obtain ⟨W9, hW9⟩ : ∃ W9, W9 = wr.setCell ⟨w.heap.size, k, none⟩ (.slice (some ⟨pos w.heap.size m k 0, 0, none⟩) m m) := ⟨_, rfl⟩
      have hs9 : W9.heap.size = pos w.heap.size m k 0 := by rw [hW9, size_set, hsz]
      have hT2 : Blk (W9.alloc (.cells (madeCells #[.slice none 0 0] m) 22)) w.heap.size 25 (hdL (fun i => pos w.heap.size m i 0) m (k + 1)) := by
        rw [← hdL_set (fun i => pos w.heap.size m i 0) m k, hW9]
        exact (hT.set k _).alloc _
      have hR2 : Blk (W9.alloc (.cells (madeCells #[.slice none 0 0] m) 22)) (pos w.heap.size m k 0) 22 (hdL (fun j => pos w.heap.size m k (j + 1)) m 0) := by
        rw [hdL_zero, ← hs9]; exact make_blkL 22 (.slice none 0 0) m W9
      have hB9 : Below w.heap.size w W9 := by rw [hW9]; exact hB.setCell (p := ⟨w.heap.size, k, none⟩) (Nat.le_refl _) _
      have hB2 := hB9.alloc hB9.size (.cells (madeCells #[.slice none 0 0] m) 22)
      have hs2 : (W9.alloc (.cells (madeCells #[.slice none 0 0] m) 22)).heap.size = pos w.heap.size m k 1 := by rw [World.size_alloc, hs9, pos_r w.heap.size m k 1]
      have hD2 : ∀ i, i < k → RowD (W9.alloc (.cells (madeCells #[.slice none 0 0] m) 22)) w.heap.size m (fun _ _ => 0) i := fun i hi => (hD i hi).keep fun r hr => by
        rw [Below.heap_alloc _ _ _ (by rw [hs9]; exact pos_lt hi hr), hW9]
        exact Below.heap_setCell _ _ _ _ (Nat.ne_of_gt (pos_S w.heap.size m i r))
      clear hT hD hB hT1 hB9 hs9
      go_wp2_with (first
        | (at_make; refine wpList_make_at _ rfl _ _ 25 rfl 22 j0 (.slice none 0 0) under25b gi gz0 gz1 .i64 .i64 m rfl rfl (by rw [gz2]; omega) (by unfold maxLen; omega) ?_))
      rw [← hW9]
      clear hW9 tc tf tc0 tf0
      generalize W9.alloc (.cells (madeCells #[.slice none 0 0] m) 22) = w2 at *
      go_loopw [18] (fun i wi => ∃ j : Nat, j ≤ m ∧ i = .int .i64 j ∧ Blk wi w.heap.size 25 (hdL (fun i => pos w.heap.size m i 0) m (k + 1)) ∧ (∀ i, i < k → RowD wi w.heap.size m (fun _ _ => 0) i) ∧ Blk wi (pos w.heap.size m k 0) 22 (hdL (fun j => pos w.heap.size m k (j + 1)) m j) ∧ (∀ t, t < j → Blk wi (pos w.heap.size m k (t + 1)) 3 ((List.replicate m (0 : Int)).map (Value.int .i64))) ∧ wi.heap.size = pos w.heap.size m k (j + 1) ∧ Below w.heap.size w wi) (fun i _ => m - (intOf i).toNat)
      case atStart => exact ⟨0, Nat.zero_le _, rfl, hT2, hD2, hR2, fun t ht => by omega, hs2, hB2⟩
      case round =>
        clear hT2 hD2 hR2 hs2 hB2 hsz hkl
        obtain ⟨j, hj, rfl, hT9, hD, hRw, hZ, hsz, hB⟩ := hrel
        by_cases hjt : j < m
        · have hji : (j : Int) < (m : Int) := by omega
          go_wp2_with fail
          replace hB := bdrew hB
          replace hT9 : Blk wr.drew w.heap.size 25 _ := hT9
          replace hRw : Blk wr.drew (pos w.heap.size m k 0) 22 _ := hRw
          replace hD : ∀ i, i < k → RowD wr.drew w.heap.size m (fun _ _ => 0) i := fun i hi => (hD i hi).keep fun r hr => rfl
          replace hZ : ∀ t, t < j → Blk wr.drew (pos w.heap.size m k (t + 1)) 3 ((List.replicate m (0 : Int)).map (Value.int .i64)) := fun t ht => hZ t ht
          replace hsz : wr.drew.heap.size = pos w.heap.size m k (j + 1) := hsz
          refine wp_region_held_drew (S := fun W => W.cell? ⟨w.heap.size, k, none⟩ = some (.slice (some ⟨pos w.heap.size m k 0, 0, none⟩) m m)) (by kernel_rfl) (hT9.cell k |>.trans (hdL_at hlt (by omega))) (fun hHeld => ?_)
          generalize wr.drew = wd0 at *
          refine wpAnyH_take (i := 0) (oi := ({ dst := some 21, op := Go.Op.move (Go.Operand.tmp 3), type := 39, pos := _, after := _, guard := none } : Oper)) (v := ?_) rfl (by kernel_rfl) (by kernel_rfl) (by kernel_rfl) (fun _ _ _ h => h) (Or.inl ⟨by rfl, ?_⟩) (by assumption) ?_
          rotate_left
          · (intro w hSw; (try dsimp only at hSw); go_simp; try with_reducible rfl)
          simp only [Act.put, List.setIfInBounds_toArray, List.set_cons_zero, List.set_cons_succ]
          refine wpAnyH_take (i := 1) (oi := ({ dst := some 22, op := Go.Op.move (Go.Operand.tmp 4), type := 3, pos := _, after := _, guard := none } : Oper)) (v := ?_) rfl (by kernel_rfl) (by kernel_rfl) (by kernel_rfl) (fun _ _ _ h => h) (Or.inl ⟨by rfl, ?_⟩) (by assumption) ?_
          rotate_left
          · (intro w hSw; (try dsimp only at hSw); go_simp; try with_reducible rfl)
          simp only [Act.put, List.setIfInBounds_toArray, List.set_cons_zero, List.set_cons_succ]
          refine wpAnyH_take (i := 2) (oi := ({ dst := some 23, op := Go.Op.indexAddr 39 (Go.Operand.tmp 21) (Go.Operand.tmp 22), type := 0, pos := _, after := _, guard := none } : Oper)) (v := ?_) rfl (by kernel_rfl) (by kernel_rfl) (by kernel_rfl) (fun _ _ _ h => h) (Or.inl ⟨by rfl, ?_⟩) (by assumption) ?_
          rotate_left
          · (intro w hSw; (try dsimp only at hSw); go_simp; try with_reducible rfl)
          simp only [Act.put, List.setIfInBounds_toArray, List.set_cons_zero, List.set_cons_succ]
          refine wpAnyH_take (i := 3) (oi := ({ dst := some 24, op := Go.Op.load 25 (Go.Operand.tmp 23), type := 25, pos := _, after := _, guard := none } : Oper)) (v := ?_) rfl (by kernel_rfl) (by kernel_rfl) (by kernel_rfl) (fun _ _ _ h => h) (Or.inl ⟨by rfl, ?_⟩) (by assumption) ?_
          rotate_left
          · (intro w hSw; (try dsimp only at hSw); go_simp; try with_reducible rfl)
          simp only [Act.put, List.setIfInBounds_toArray, List.set_cons_zero, List.set_cons_succ]
          refine wpAnyH_take (i := 4) (oi := ({ dst := some 25, op := Go.Op.move (Go.Operand.tmp 5), type := 3, pos := _, after := _, guard := none } : Oper)) (v := ?_) rfl (by kernel_rfl) (by kernel_rfl) (by kernel_rfl) (fun _ _ _ h => h) (Or.inl ⟨by rfl, ?_⟩) (by assumption) ?_
          rotate_left
          · (intro w hSw; (try dsimp only at hSw); go_simp; try with_reducible rfl)
          simp only [Act.put, List.setIfInBounds_toArray, List.set_cons_zero, List.set_cons_succ]
          refine wpAnyH_take (i := 5) (oi := ({ dst := some 26, op := Go.Op.move (Go.Operand.tmp 0), type := 3, pos := _, after := _, guard := none } : Oper)) (v := ?_) rfl (by kernel_rfl) (by kernel_rfl) (by kernel_rfl) (fun _ _ _ h => h) (Or.inl ⟨by rfl, ?_⟩) (by assumption) ?_
          rotate_left
          · (intro w hSw; (try dsimp only at hSw); go_simp; try with_reducible rfl)
          simp only [Act.put, List.setIfInBounds_toArray, List.set_cons_zero, List.set_cons_succ]
          refine wpAnyH_ready (rs := [6]) (by kernel_rfl) (by simp) (AllReadyH.cons (o := ({ dst := some 27, op := Go.Op.makeSlice 22 (Go.Operand.tmp 26) (Go.Operand.tmp 26), type := 22, pos := _, after := _, guard := none } : Oper)) rfl (fun KK hK => ?_) AllReadyH.nil)
          have hmk := HMK.out (wd0)
          have hN : Blk ((wd0).alloc (.cells (madeCells #[.int .i64 0] m) 3)) (wd0).heap.size 3 ((List.replicate m (0 : Int)).map (Value.int .i64)) := make_blk m (wd0)
          replace hT9 := hT9.alloc (.cells (madeCells #[.int .i64 0] m) 3)
          replace hRw := hRw.alloc (.cells (madeCells #[.int .i64 0] m) 3)
          have hkp : ∀ g, g < (wd0).heap.size → ((wd0).alloc (.cells (madeCells #[.int .i64 0] m) 3)).heap[g]? = (wd0).heap[g]? := fun g hg => Below.heap_alloc _ _ g hg
          replace hB := hB.alloc hB.size (.cells (madeCells #[.int .i64 0] m) 3)
          have hs9 : ((wd0).alloc (.cells (madeCells #[.int .i64 0] m) 3)).heap.size = pos w.heap.size m k (j + 1) + 1 := by rw [World.size_alloc, hsz]
          rw [hsz] at hN hmk
          go_simp
          refine hK.out _ _ (hT9.cell k |>.trans (hdL_at hlt (by omega))) (fun hHeld => ?_)
          clear hK
          try simp only [Act.put, List.setIfInBounds_toArray, List.set_cons_zero, List.set_cons_succ]
          clear hmk
          generalize (wd0).alloc (.cells (madeCells #[.int .i64 0] m) 3) = WN at *
          refine wpAnyH_take (i := 7) (oi := ({ dst := some 28, op := Go.Op.indexAddr 25 (Go.Operand.tmp 24) (Go.Operand.tmp 25), type := 0, pos := _, after := _, guard := none } : Oper)) (v := ?_) rfl (by kernel_rfl) (by kernel_rfl) (by kernel_rfl) (fun _ _ _ h => h) (Or.inl ⟨by rfl, ?_⟩) (by assumption) ?_
          rotate_left
          · (intro w hSw; (try dsimp only at hSw); go_simp; try with_reducible rfl)
          simp only [Act.put, List.setIfInBounds_toArray, List.set_cons_zero, List.set_cons_succ]
          refine wpAnyH_ready (rs := [8]) (by kernel_rfl) (by simp) (AllReadyH.cons (o := ({ dst := none, op := Go.Op.store 22 (Go.Operand.tmp 28) (Go.Operand.tmp 27), type := 0, pos := _, after := _, guard := none } : Oper)) rfl (fun KK hK => ?_) AllReadyH.nil)
          have rc : WN.cell? ⟨pos w.heap.size m k 0, j, none⟩ = some (.slice none 0 0) := (hRw.cell j).trans (hdL_at' hjt)
          have rf := hRw.frozen j
          have hT8 := hT9.other (p := ⟨pos w.heap.size m k 0, j, none⟩) (Nat.ne_of_lt (pos_S _ _ _ _)) (.slice (some ⟨pos w.heap.size m k (j + 1), 0, none⟩) m m)
          have hR8 := hRw.set j (.slice (some ⟨pos w.heap.size m k (j + 1), 0, none⟩) m m)
          rw [hdL_set (fun j => pos w.heap.size m k (j + 1)) m j] at hR8
          have hN8 := hN.other (p := ⟨pos w.heap.size m k 0, j, none⟩) (by rw [pos_r]; simp) (.slice (some ⟨pos w.heap.size m k (j + 1), 0, none⟩) m m)
          have hB8 := hB.setCell (p := ⟨pos w.heap.size m k 0, j, none⟩) (Nat.le_of_lt (pos_S _ _ _ _)) (.slice (some ⟨pos w.heap.size m k (j + 1), 0, none⟩) m m)
          have hk8 : ∀ g, g < pos w.heap.size m k (j + 1) → g ≠ pos w.heap.size m k 0 → (WN.setCell ⟨pos w.heap.size m k 0, j, none⟩ (.slice (some ⟨pos w.heap.size m k (j + 1), 0, none⟩) m m)).heap[g]? = wd0.heap[g]? := fun g h1 h2 => (Below.heap_setCell _ _ _ g h2).trans (hkp g (by omega))
          have hs8 : (WN.setCell ⟨pos w.heap.size m k 0, j, none⟩ (.slice (some ⟨pos w.heap.size m k (j + 1), 0, none⟩) m m)).heap.size = pos w.heap.size m k (j + 2) := by rw [size_set, hs9, pos_r, pos_r w.heap.size m k (j + 2)]; omega
          go_simp
          refine hK.out _ _ (hT8.cell k |>.trans (hdL_at hlt (by omega))) (fun hHeld => ?_)
          clear hK
          try simp only [Act.put, List.setIfInBounds_toArray, List.set_cons_zero, List.set_cons_succ]
          clear rc rf
          generalize WN.setCell ⟨pos w.heap.size m k 0, j, none⟩ (.slice (some ⟨pos w.heap.size m k (j + 1), 0, none⟩) m m) = WS at *
          refine wpAnyH_done (by kernel_rfl) ?_ _
          go_wp2
          go_roundw
          case rel =>
            refine ⟨j + 1, by omega, by go_num, hT8, fun i hi => (hD i hi).keep fun r hr => ?_, hR8, fun t ht => ?_, hs8, hB8⟩
            · have h1 := pos_lt (S := w.heap.size) hi hr
              have h2 := pos_r w.heap.size m k (j + 1)
              exact hk8 _ (by omega) (by omega)
            · by_cases e9 : t = j
              · subst e9; exact hN8
              · have h2 := pos_r w.heap.size m k (j + 1)
                have h3 := pos_r w.heap.size m k (t + 1)
                exact (hZ t (by omega)).of_eq (hk8 _ (by omega) (by omega))
          case measure => simp [intOf]; omega
        · have hji : ¬ (j : Int) < (m : Int) := by omega
          obtain rfl : j = m := by omega
          go_wp2
          go_roundw
          case rel =>
            refine ⟨k + 1, by omega, by go_num, hT9, fun i hi => ?_, by rw [hsz, pos_succ, pos_r], hB⟩
            by_cases e9 : i = k
            · subst e9
              exact ⟨hRw, fun t ht => by rw [zero_map]; exact hZ t ht⟩
            · exact hD i (by omega)
          case measure => simp [intOf]; omega
    · have hki : ¬ (k : Int) < (m : Int) := by omega
      obtain rfl : k = m := by omega
      go_wp2
      go_ret
      exact ⟨rfl, ⟨hT, hD⟩, hB⟩
end Go.Proofs.YtobnfbnholbfoaaDoor

namespace Go.Proofs.YtobnfbnholbfoaaDoor
open Go Go.RowKit Go.Maps

set_option maxRecDepth 100000 in
set_option maxHeartbeats 4000000 in
theorem O_ok {n e : Nat} {zs : List Int} (h : IsGrp n zs e) {a : Nat} (ha : a < n) (v : Value) (w : World) (hv : Sl w v zs) :
    Calls Tryd.prog 51 #[.agg #[.int .i64 n, v], .int .i64 a] w fun x w' => x = .returned (.int .i64 (ordN n zs e a)) ∧ Below w.heap.size w w' := by
  have hB0 : Below w.heap.size w (w.alloc (.cells #[.int .i64 n, v] 24)) := balloc w _
  have hg0 : BoxG (w.alloc (.cells #[.int .i64 n, v] 24)) w.heap.size n v := blk0 _ _
  have hv0 := hv.below hB0
  have hle := h.tab.le
  have HT := hide h.tab
  have HE := hide (E_ok n v zs _ h.tab hv0)
  rw [h.one] at HE
  have HST := hide (fun k => (show tm n zs a (pr n zs a k) = pr n zs a (k + 1) by have := pr_add h ha 0 k; rw [Nat.zero_add] at this; exact this.symm))
  obtain ⟨k9, hk9, hoe, hp9, hn9⟩ := ordN_spec h ha
  rw [hoe]
  have HP := hide hp9
  have HN := hide hn9
  obtain ⟨g0, g1, _, _⟩ := hg0.two
  clear h hoe hp9 hn9
  go_enter Tryd.func51, Tryd.ntmps51
  go_wp2_with fail
  refine HE.out.mono ?_
  rintro x w1 ⟨rfl, hb1⟩
  generalize w.alloc (.cells #[.int .i64 n, v] 24) = w0 at *
  clear HE
  go_wp2
  go_loopw [6, 7] (fun p o wr => ∃ k : Nat, k ≤ k9 ∧ o = .int .i64 ((k : Int) + 1) ∧ p = .int .i64 (pr n zs a k) ∧ Below w0.heap.size w0 wr) (fun _ o _ => k9 + 1 - (intOf o).toNat)
  case atStart => exact ⟨0, Nat.zero_le _, rfl, rfl, hb1⟩
  case round =>
    obtain ⟨k, hk, rfl, rfl, hB⟩ := hrel
    have d0 := below_cell hB g0
    have d1 := below_cell hB g1
    by_cases hlt : k < k9
    · have hne : ((pr n zs a k : Int) != (e : Int)) = true := by
        have := HN.out k hlt
        simp; omega
      have hpl := pr_lt HT.out ha k
      go_wp2_with fail
      refine (M_ok n v zs a _ _ HT.out (hv0.below hB) ha hpl).mono ?_
      rintro x w2 ⟨rfl, hb2⟩
      have hB1 := bcat2 hB hb2
      rw [HST.out]
      clear d0 d1
      go_wp2
      go_roundw
      case rel => exact ⟨k + 1, by omega, by go_num, rfl, hB1⟩
      case measure => simp [intOf]; omega
    · have hkk : k = k9 := by omega
      subst hkk
      have hne : ((pr n zs a k : Int) != (e : Int)) = false := by
        have := HP.out
        simp; omega
      go_wp2
      go_ret
      exact ⟨retI (by simp), bcat hB0 hB hB0.size⟩

set_option maxRecDepth 100000 in
set_option maxHeartbeats 4000000 in
theorem P_ok {n e : Nat} {zs : List Int} (h : IsGrp n zs e) {a : Nat} (ha : a < n) (z : Int) (v : Value) (w : World) (hv : Sl w v zs) :
    Calls Tryd.prog 26 #[.agg #[.int .i64 n, v], .int .i64 a, .int .i64 z] w fun r w' => r = .returned (.int .i64 (pz n zs e a z)) ∧ Below w.heap.size w w' := by
  have hB0 : Below w.heap.size w (w.alloc (.cells #[.int .i64 n, v] 24)) := balloc w _
  have hg0 : BoxG (w.alloc (.cells #[.int .i64 n, v] 24)) w.heap.size n v := blk0 _ _
  have hv0 := hv.below hB0
  have hle := h.tab.le
  have HE := hide (fun W (hW : Sl W v zs) => E_ok n v zs W h.tab hW)
  rw [h.one] at HE
  have HR := hide (fun W (hW : Sl W v zs) => O_ok h ha v W hW)
  have hop := ord_pos (n := n) (zs := zs) (e := e) a
  have hol := ord_le h ha
  obtain ⟨t, hto, hte, hcase⟩ := rest_of z hop
  have hpz : pz n zs e a z = pw n zs e a t := by unfold pz; rw [← hte, Int.toNat_natCast]
  rw [hpz]
  have HT := hide h.tab
  have HPL := hide (fun k => pw_lt h ha k)
  generalize ordN n zs e a = o at *
  have ho0 : ¬ ((o : Int) = 0) := by omega
  have hoi : 0 < (o : Int) := by omega
  obtain ⟨m, hm⟩ : ∃ m, z.tmod (o : Int) = m := ⟨_, rfl⟩
  rw [hm] at hcase
  obtain ⟨g0, g1, _, _⟩ := hg0.two
  clear h hpz hte
  go_enter Tryd.func26, Tryd.ntmps26
  go_wp2_with fail
  generalize w.alloc (.cells #[.int .i64 n, v] 24) = w0 at *
  refine (HR.out _ hv0).mono ?_
  rintro x w1 ⟨rfl, hb1⟩
  rcases hcase with ⟨hm1, hm2⟩ | ⟨hm1, hm2⟩
  · have hts : m + (o : Int) = (t : Int) := hm2
    have htr : -9223372036854775808 ≤ m := by omega
    have htt : t < 60 := by omega
    have k0 := below_cell hb1 g0
    have k1 := below_cell hb1 g1
    clear hm2
    go_wp2_with fail
    refine (HR.out _ (hv0.below hb1)).mono ?_
    rintro x w2 ⟨rfl, hb2⟩
    have hB2 := bcat2 hb1 hb2
    clear k0 k1
    have k0 := below_cell hB2 g0
    have k1 := below_cell hB2 g1
    go_wp2_with fail
    refine (HE.out _ (hv0.below hB2)).mono ?_
    rintro x w3 ⟨rfl, hb3⟩
    have hB3 := bcat2 hB2 hb3
    clear k0 k1
    go_wp2
    clear hm hts htr hm1
    go_loopw [8, 9] (fun p i wr => ∃ k : Nat, k ≤ t ∧ i = .int .i64 k ∧ p = .int .i64 (pw n zs e a k) ∧ Below w0.heap.size w0 wr) (fun _ i _ => t - (intOf i).toNat)
    case atStart => exact ⟨0, Nat.zero_le _, rfl, rfl, hB3⟩
    case round =>
      obtain ⟨k, hk, rfl, rfl, hB⟩ := hrel
      have d0 := below_cell hB g0
      have d1 := below_cell hB g1
      by_cases hlt : k < t
      · have hpl := HPL.out k
        have HST := hide (show tm n zs (pw n zs e a k) a = pw n zs e a (k + 1) from rfl)
        go_wp2_with fail
        refine (M_ok n v zs _ a _ HT.out (hv0.below hB) hpl ha).mono ?_
        rintro x w5 ⟨rfl, hb5⟩
        have hB5 := bcat2 hB hb5
        rw [HST.out]
        clear d0 d1
        go_wp2
        go_roundw
        case rel => exact ⟨k + 1, by omega, by go_num, rfl, hB5⟩
        case measure => simp [intOf]; omega
      · have hkt : k = t := by omega
        subst hkt
        go_wp2
        go_ret
        exact ⟨retI rfl, bcat hB0 hB hB0.size⟩
  · have hts : m = (t : Int) := hm2
    subst hts
    have htt : t < 60 := by omega
    have k0 := below_cell hb1 g0
    have k1 := below_cell hb1 g1
    go_wp2_with fail
    refine (HE.out _ (hv0.below hb1)).mono ?_
    rintro x w3 ⟨rfl, hb3⟩
    have hB3 := bcat2 hb1 hb3
    clear k0 k1
    go_wp2
    clear hm hm1
    go_loopw [8, 9] (fun p i wr => ∃ k : Nat, k ≤ t ∧ i = .int .i64 k ∧ p = .int .i64 (pw n zs e a k) ∧ Below w0.heap.size w0 wr) (fun _ i _ => t - (intOf i).toNat)
    case atStart => exact ⟨0, Nat.zero_le _, rfl, rfl, hB3⟩
    case round =>
      obtain ⟨k, hk, rfl, rfl, hB⟩ := hrel
      have d0 := below_cell hB g0
      have d1 := below_cell hB g1
      by_cases hlt : k < t
      · have hpl := HPL.out k
        have HST := hide (show tm n zs (pw n zs e a k) a = pw n zs e a (k + 1) from rfl)
        go_wp2_with fail
        refine (M_ok n v zs _ a _ HT.out (hv0.below hB) hpl ha).mono ?_
        rintro x w5 ⟨rfl, hb5⟩
        have hB5 := bcat2 hB hb5
        rw [HST.out]
        clear d0 d1
        go_wp2
        go_roundw
        case rel => exact ⟨k + 1, by omega, by go_num, rfl, hB5⟩
        case measure => simp [intOf]; omega
      · have hkt : k = t := by omega
        subst hkt
        go_wp2
        go_ret
        exact ⟨retI rfl, bcat hB0 hB hB0.size⟩

set_option maxRecDepth 100000 in
set_option maxHeartbeats 4000000 in
theorem commutes_ok (n : Nat) (v : Value) (zs : List Int) (w : World) (ht : IsTab n zs) (hv : Sl w v zs) :
    Calls Tryd.prog 30 #[.agg #[.int .i64 n, v]] w fun x w' => x = .returned (.bool (comB n zs)) ∧ Below w.heap.size w w' := by
  have hB0 : Below w.heap.size w (w.alloc (.cells #[.int .i64 n, v] 24)) := balloc w _
  have hg0 : BoxG (w.alloc (.cells #[.int .i64 n, v] 24)) w.heap.size n v := blk0 _ _
  have hv0 := hv.below hB0
  have hle := ht.le
  have HT := hide ht
  obtain ⟨g0, g1, _, _⟩ := hg0.two
  clear ht
  go_enter Tryd.func30, Tryd.ntmps30
  go_wp2
  generalize w.alloc (.cells #[.int .i64 n, v] 24) = w0 at *
  go_loopw [3] (fun i wr => ∃ k : Nat, k ≤ n ∧ i = .int .i64 k ∧ (∀ a b, a < k → b < n → tm n zs a b = tm n zs b a) ∧ Below w0.heap.size w0 wr) (fun i _ => n - (intOf i).toNat)
  case atStart => exact ⟨0, Nat.zero_le _, rfl, fun a b ha => by omega, Below.refl _ _⟩
  case round =>
    obtain ⟨a, hk, rfl, hno, hB⟩ := hrel
    have HN := hide hno
    have d0 := below_cell hB g0
    have d1 := below_cell hB g1
    clear hno
    by_cases hlt : a < n
    · go_wp2
      clear d0 d1
      go_loopw [4] (fun i wr => ∃ k : Nat, k ≤ n ∧ i = .int .i64 k ∧ (∀ b, b < k → tm n zs a b = tm n zs b a) ∧ Below w0.heap.size w0 wr) (fun i _ => n - (intOf i).toNat)
      case atStart => exact ⟨0, Nat.zero_le _, rfl, fun b hb => by omega, hB⟩
      case round =>
        obtain ⟨b, hk2, rfl, hno2, hB2⟩ := hrel
        have HN2 := hide hno2
        have d0 := below_cell hB2 g0
        have d1 := below_cell hB2 g1
        clear hno2
        by_cases hlt2 : b < n
        · have hS : ∀ W, Below w0.heap.size w0 W → (Below w0.heap.size w0 W ∧ W.cell? ⟨w.heap.size, 0, none⟩ = some (.int .i64 n) ∧ W.cell? ⟨w.heap.size, 1, none⟩ = some v) := fun W h => ⟨h, below_cell h g0, below_cell h g1⟩
          have hS0 := hS _ (bdrew hB2)
          go_wp2_with fail
          clear d0 d1
          go_region_held3 (fun W => Below w0.heap.size w0 W ∧ W.cell? ⟨w.heap.size, 0, none⟩ = some (.int .i64 n) ∧ W.cell? ⟨w.heap.size, 1, none⟩ = some v)
            (first | exact hS0 | assumption | exact hS _ (bcat2 (And.left ‹_›) hl1))
            (first | (go_at_call 19; refine (M_ok n v zs _ _ _ HT.out (hv0.below (And.left ‹_›)) (by assumption) (by assumption)).mono ?_; rintro e W1 ⟨rfl, hl1⟩))
          obtain ⟨hB3, _⟩ := ‹Below w0.heap.size w0 W1 ∧ _›
          clear hS hS0 hl1
          by_cases hxy : tm n zs a b = tm n zs b a
          · have hbe : ((tm n zs a b : Int) != (tm n zs b a : Int)) = false := by simp [hxy]
            have HXY := hide hxy
            clear hxy
            go_wp2
            go_roundw
            case rel => exact ⟨b + 1, by omega, by go_num, fun d hd => by
              by_cases e : d = b
              · rw [e]; exact HXY.out
              · exact HN2.out d (by omega), hB3⟩
            case measure => simp [intOf]; omega
          · have hbe : ((tm n zs a b : Int) != (tm n zs b a : Int)) = true := by simp; omega
            go_wp2
            go_ret
            refine ⟨retB ?_, bcat hB0 hB3 hB0.size⟩
            cases hq : comB n zs with
            | false => rfl
            | true => exact absurd (comB_iff.1 hq a b hlt hlt2) hxy
        · have hcn : b = n := by omega
          subst hcn
          go_wp2
          go_roundw
          case rel => exact ⟨a + 1, by omega, by go_num, fun d c hd hc => by
            by_cases e : d = a
            · rw [e]; exact HN2.out c hc
            · exact HN.out d c (by omega) hc, hB2⟩
          case measure => simp [intOf]; omega
    · have hbn : a = n := by omega
      subst hbn
      go_wp2
      go_ret
      exact ⟨retB (comB_iff.2 (fun d c hd hc => HN.out d c hd hc)).symm, bcat hB0 hB hB0.size⟩
set_option maxRecDepth 100000 in
set_option maxHeartbeats 8000000 in
theorem las_bad (k : Nat) (caps : Array Value) (c i : Int) (w : World) (hc : c ≠ 0) :
    Calls Tryd.prog 23 #[.slice none 0 0, .agg #[.int .i64 c, .int .i64 i], .agg #[.int .i64 c, .int .i64 i], .func (.func k) #[] caps] w fun x w' => x = .returned (.bool true) ∧ Below w.heap.size w w' := by
  have hcb : (c != 0) = true := by simpa using hc
  have hF1 : Blk ((w.alloc (.cells #[.int .i64 c, .int .i64 i] 27)).alloc (.cells #[.int .i64 c, .int .i64 i] 27)) w.heap.size 27 [.int .i64 c, .int .i64 i] := (blk0 _ _).alloc _
  have hF2 := blk0 (w := w.alloc (.cells #[.int .i64 c, .int .i64 i] 27)) (T := 27) (.int .i64 c) (.int .i64 i)
  rw [World.size_alloc] at hF2
  have hb : Below w.heap.size w ((w.alloc (.cells #[.int .i64 c, .int .i64 i] 27)).alloc (.cells #[.int .i64 c, .int .i64 i] 27)) := (balloc w _).alloc (by simp) _
  obtain ⟨f0, f1, _, _⟩ := hF1.two
  obtain ⟨g0, g1, _, _⟩ := hF2.two
  go_enter Tryd.func23, Tryd.ntmps23
  go_wp2
  go_ret
  exact ⟨rfl, hb⟩
set_option maxRecDepth 100000 in
set_option maxHeartbeats 8000000 in
theorem las_good (k : Nat) (caps : Array Value) (sv : Value) (xs ys : List Int) (w : World) (hs : Sl w sv xs)
    (hcall : ∀ W, Sem.run Tryd.prog (callFunc k caps) W = .ok (.enter k caps) W)
    (hk : ∀ W, Below w.heap.size w W → Calls Tryd.prog k caps W fun x w' => ∃ r, x = .returned r ∧ Sl w' r ys ∧ Below W.heap.size W w') :
    Calls Tryd.prog 23 #[sv, .agg #[.int .i64 0, .int .i64 0], .agg #[.int .i64 0, .int .i64 0], .func (.func k) #[] caps] w fun x w' => x = .returned (.bool (decide (xs = ys))) ∧ Below w.heap.size w w' := by
  have hF1 : Blk ((w.alloc (.cells #[.int .i64 0, .int .i64 0] 27)).alloc (.cells #[.int .i64 0, .int .i64 0] 27)) w.heap.size 27 [.int .i64 0, .int .i64 0] := (blk0 _ _).alloc _
  have hF2 := blk0 (w := w.alloc (.cells #[.int .i64 0, .int .i64 0] 27)) (T := 27) (.int .i64 0) (.int .i64 0)
  rw [World.size_alloc] at hF2
  have hb : Below w.heap.size w ((w.alloc (.cells #[.int .i64 0, .int .i64 0] 27)).alloc (.cells #[.int .i64 0, .int .i64 0] 27)) := (balloc w _).alloc (by simp) _
  obtain ⟨f0, f1, _, _⟩ := hF1.two
  obtain ⟨g0, g1, _, _⟩ := hF2.two
  have HK := hide hk
  clear hk
  go_enter Tryd.func23, Tryd.ntmps23
  go_wp2_with fail
  generalize (w.alloc (.cells #[.int .i64 0, .int .i64 0] 27)).alloc (.cells #[.int .i64 0, .int .i64 0] 27) = w0 at *
  refine (HK.out w0 hb).mono ?_
  rintro x w1 ⟨r, rfl, hr, hb1⟩
  go_wp2_with fail
  refine (ints_any sv r xs ys w1 (hs.below (bcat2 hb hb1)) hr).mono ?_
  rintro x w2 ⟨rfl, hb2⟩
  go_wp2
  go_ret
  exact ⟨rfl, bcat2 (bcat2 hb hb1) hb2⟩
end Go.Proofs.YtobnfbnholbfoaaDoor

namespace Go.Proofs.YtobnfbnholbfoaaDoor
open Go Go.RowKit Go.Maps

theorem pz_rest {n e a s : Nat} {zs : List Int} {z : Int} (g : IsGrp n zs e) (ha : a < n) (h : (s : Int) = z % (n : Int)) : pw n zs e a s = pz n zs e a z := by
  refine (pz_eq g ha ?_).symm
  obtain ⟨c, hc⟩ := lagrange g ha
  have h2 : ((ordN n zs e a : Nat) : Int) ∣ (n : Int) := ⟨(c : Int), by rw [← Int.natCast_mul, ← hc]⟩
  rw [h, Int.emod_emod_of_dvd z h2]
set_option maxRecDepth 100000 in
set_option maxHeartbeats 2000000 in
theorem kpow_ok {n e : Nat} {zs : List Int} (g : IsGrp n zs e) {a : Nat} (ha : a < n) (z : Int) (v u cv nv : Value) (w : World) (hv : Sl w v zs) :
    Calls Tryd.prog 49 #[.agg #[.int .i64 n, v, .int .i64 e, u, cv, nv], .int .i64 a, .int .i64 z] w fun r w' => r = .returned (.int .i64 (pz n zs e a z)) ∧ Below w.heap.size w w' := by
  have hn := g.tab.le
  have hpos := g.tab.pos
  have hB0 : Below w.heap.size w (w.alloc (.cells #[.int .i64 n, v, .int .i64 e, u, cv, nv] 65)) := balloc w _
  have hX0 : Blk (w.alloc (.cells #[.int .i64 n, v, .int .i64 e, u, cv, nv] 65)) w.heap.size 65 [.int .i64 n, v, .int .i64 e, u, cv, nv] := World.alloc_heap_new _ _
  obtain ⟨w0, hw0⟩ : ∃ w0, w0 = w.alloc (.cells #[.int .i64 n, v, .int .i64 e, u, cv, nv] 65) := ⟨_, rfl⟩
  rw [← hw0] at hB0 hX0
  have hv0 := hv.below hB0
  obtain ⟨t, ht1, ht2, hcase⟩ := rest_of z (o := n) (by omega)
  rw [← pz_rest g ha ht2]
  have HPL := hide (fun k => pw_lt g ha k)
  have HT := hide g.tab
  have hn0 : ¬ (n : Int) = 0 := by omega
  have g0 : w0.cell? ⟨w.heap.size, 0, none⟩ = some (.int .i64 n) := hX0.cell 0
  have g2 : w0.cell? ⟨w.heap.size, 2, none⟩ = some (.int .i64 e) := hX0.cell 2
  rw [hw0] at g0 g2
  obtain ⟨m, hm⟩ : ∃ m, z.tmod (n : Int) = m := ⟨_, rfl⟩
  rw [hm] at hcase
  clear ht2
  go_enter Tryd.func49, Tryd.ntmps49
  rcases hcase with ⟨hm1, hm2⟩ | ⟨hm1, hm2⟩
  · have hts : m + (n : Int) = (t : Int) := hm2
    have htr : -9223372036854775808 ≤ m := by omega
    clear hm2
    go_wp2
    clear hm hts htr hm1
    rw [← hw0]
    clear hw0 g0 g2
    go_loopw [8, 27] (fun p i wr => ∃ k : Nat, k ≤ t ∧ i = .int .i64 k ∧ p = .int .i64 (pw n zs e a k) ∧ Below w0.heap.size w0 wr) (fun _ i _ => t - (intOf i).toNat)
    case atStart => exact ⟨0, Nat.zero_le _, rfl, rfl, Below.refl _ _⟩
    case round =>
      obtain ⟨k, hk, rfl, rfl, hB⟩ := hrel
      have hXk := blk_below hX0 hB
      obtain ⟨d0, d1, d2, d3⟩ : wr.cell? ⟨w.heap.size, 0, none⟩ = some (.int .i64 n) ∧ wr.cell? ⟨w.heap.size, 1, none⟩ = some v ∧ wr.cell? ⟨w.heap.size, 2, none⟩ = some (.int .i64 e) ∧ wr.cell? ⟨w.heap.size, 3, none⟩ = some u := ⟨hXk.cell 0, hXk.cell 1, hXk.cell 2, hXk.cell 3⟩
      by_cases hlt : k < t
      · have hpl := HPL.out k
        have HST := hide (show tm n zs (pw n zs e a k) a = pw n zs e a (k + 1) from rfl)
        go_wp2_with fail
        refine (prd_ok n v u zs e _ a _ HT.out (hv0.below hB) hpl ha).mono ?_
        rintro x w5 ⟨rfl, hb5⟩
        have hB5 := bcat2 hB hb5
        rw [HST.out]
        clear d0 d1 d2 d3
        go_wp2
        go_roundw
        case rel => exact ⟨k + 1, by omega, by go_num, rfl, hB5⟩
        case measure => simp [intOf]; omega
      · have hkt : k = t := by omega
        subst hkt
        go_wp2
        go_ret
        exact ⟨retI rfl, bcat2 hB0 hB⟩
  · have hts : m = (t : Int) := hm2
    subst hts
    go_wp2
    clear hm hm1
    rw [← hw0]
    clear hw0 g0 g2
    go_loopw [8, 27] (fun p i wr => ∃ k : Nat, k ≤ t ∧ i = .int .i64 k ∧ p = .int .i64 (pw n zs e a k) ∧ Below w0.heap.size w0 wr) (fun _ i _ => t - (intOf i).toNat)
    case atStart => exact ⟨0, Nat.zero_le _, rfl, rfl, Below.refl _ _⟩
    case round =>
      obtain ⟨k, hk, rfl, rfl, hB⟩ := hrel
      have hXk := blk_below hX0 hB
      obtain ⟨d0, d1, d2, d3⟩ : wr.cell? ⟨w.heap.size, 0, none⟩ = some (.int .i64 n) ∧ wr.cell? ⟨w.heap.size, 1, none⟩ = some v ∧ wr.cell? ⟨w.heap.size, 2, none⟩ = some (.int .i64 e) ∧ wr.cell? ⟨w.heap.size, 3, none⟩ = some u := ⟨hXk.cell 0, hXk.cell 1, hXk.cell 2, hXk.cell 3⟩
      by_cases hlt : k < t
      · have hpl := HPL.out k
        have HST := hide (show tm n zs (pw n zs e a k) a = pw n zs e a (k + 1) from rfl)
        go_wp2_with fail
        refine (prd_ok n v u zs e _ a _ HT.out (hv0.below hB) hpl ha).mono ?_
        rintro x w5 ⟨rfl, hb5⟩
        have hB5 := bcat2 hB hb5
        rw [HST.out]
        clear d0 d1 d2 d3
        go_wp2
        go_roundw
        case rel => exact ⟨k + 1, by omega, by go_num, rfl, hB5⟩
        case measure => simp [intOf]; omega
      · have hkt : k = t := by omega
        subst hkt
        go_wp2
        go_ret
        exact ⟨retI rfl, bcat2 hB0 hB⟩
end Go.Proofs.YtobnfbnholbfoaaDoor

namespace Go.Proofs.YtobnfbnholbfoaaDoor
open Go Go.RowKit Go.Maps

set_option maxRecDepth 100000 in
set_option maxHeartbeats 4000000 in
theorem pai_bad (N : Int) (v : Value) (zs : List Int) (w : World) (hv : Sl w v zs) (hc : (gfault N zs).1 ≠ 0) :
    Calls Tryd.prog 22 #[.agg #[.int .i64 N, v]] w fun x w' => x = .returned (.tuple #[.int .i64 0, .agg #[.int .i64 (gfault N zs).1, .int .i64 (gfault N zs).2]]) ∧ Below w.heap.size w w' := by
  obtain ⟨w0, BG⟩ := Beg.new w N v
  have HCK := hide (kop_bad N v zs w0 (hv.below BG.bel) hc)
  obtain ⟨c0, c1, _, _⟩ := BG.box.two
  have hcb : ((gfault N zs).1 != 0) = true := by simpa using hc
  generalize (gfault N zs).1 = c at *
  generalize (gfault N zs).2 = i at *
  rw [BG.eq] at c0 c1
  go_enter Tryd.func22, Tryd.ntmps22
  go_wp2_with fail
  rw [← BG.eq]
  refine HCK.out.mono ?_
  rintro x w1 ⟨rfl, hb1⟩
  clear c0 c1
  obtain ⟨w2, hw2⟩ : ∃ w2, w2 = (w1.alloc (.cells #[.int .i64 0, .slice none 0 0, .int .i64 0, .slice none 0 0, .slice none 0 0, .slice none 0 0] 65)).alloc (.cells #[.int .i64 c, .int .i64 i] 27) := ⟨_, rfl⟩
  have hB1 : Below w0.heap.size w0 w2 := by rw [hw2]; exact bcat2 hb1 ((balloc w1 _).alloc (by simp) _)
  have hF1 : Blk w2 (w1.heap.size + 1) 27 [.int .i64 c, .int .i64 i] := by
    rw [hw2]
    have := blk0 (w := w1.alloc (.cells #[.int .i64 0, .slice none 0 0, .int .i64 0, .slice none 0 0, .slice none 0 0, .slice none 0 0] 65)) (T := 27) (.int .i64 c) (.int .i64 i)
    rwa [World.size_alloc] at this
  have hR1 := blk_below BG.res hB1
  have hBw := bcat BG.bel hB1 BG.bel.size
  obtain ⟨y0, y1, fy0, fy1⟩ := hR1.two
  obtain ⟨t0, t1, _, _⟩ := hF1.two
  rw [hw2] at t0 t1
  go_wp2_with fail
  rw [← hw2]
  rw [← hw2] at t0 t1
  clear hw2
  go_region
  all_goals (
    go_wp2
    obtain ⟨hR6, hB6⟩ := put2 hR1 hBw (by omega) c i
    have hB7 := bdrew hB6
    have hR7 : Blk ((w2.setCell ⟨w.heap.size + 1, 0, none⟩ (.int .i64 c)).setCell ⟨w.heap.size + 1, 1, none⟩ (.int .i64 i)).drew (w.heap.size + 1) 27 [.int .i64 c, .int .i64 i] := hR6
    generalize ((w2.setCell ⟨w.heap.size + 1, 0, none⟩ (.int .i64 c)).setCell ⟨w.heap.size + 1, 1, none⟩ (.int .i64 i)).drew = W at hR7 hB7 ⊢
    obtain ⟨z0, z1, _, _⟩ := hR7.two
    exact bodyPost_ret (v := .tuple #[.int .i64 0, .agg #[.int .i64 c, .int .i64 i]]) (by simp [results, Tryd.results22, go_sem, z0, z1]) rfl ⟨rfl, hB7⟩)
set_option maxRecDepth 100000 in
set_option maxHeartbeats 4000000 in
theorem pwr_bad (N : Int) (z : Int) (v : Value) (zs : List Int) (w : World) (hv : Sl w v zs) (hc : (gfault N zs).1 ≠ 0) :
    Calls Tryd.prog 21 #[.agg #[.int .i64 N, v], .int .i64 z] w fun x w' => x = .returned (.tuple #[.slice none 0 0, .agg #[.int .i64 (gfault N zs).1, .int .i64 (gfault N zs).2]]) ∧ Below w.heap.size w w' := by
  obtain ⟨w0, BG⟩ := Beg.new w N v
  have HCK := hide (kop_bad N v zs w0 (hv.below BG.bel) hc)
  obtain ⟨c0, c1, _, _⟩ := BG.box.two
  have hcb : ((gfault N zs).1 != 0) = true := by simpa using hc
  generalize (gfault N zs).1 = c at *
  generalize (gfault N zs).2 = i at *
  rw [BG.eq] at c0 c1
  go_enter Tryd.func21, Tryd.ntmps21
  go_wp2_with fail
  rw [← BG.eq]
  refine HCK.out.mono ?_
  rintro x w1 ⟨rfl, hb1⟩
  clear c0 c1
  obtain ⟨w2, hw2⟩ : ∃ w2, w2 = (w1.alloc (.cells #[.int .i64 0, .slice none 0 0, .int .i64 0, .slice none 0 0, .slice none 0 0, .slice none 0 0] 65)).alloc (.cells #[.int .i64 c, .int .i64 i] 27) := ⟨_, rfl⟩
  have hB1 : Below w0.heap.size w0 w2 := by rw [hw2]; exact bcat2 hb1 ((balloc w1 _).alloc (by simp) _)
  have hF1 : Blk w2 (w1.heap.size + 1) 27 [.int .i64 c, .int .i64 i] := by
    rw [hw2]
    have := blk0 (w := w1.alloc (.cells #[.int .i64 0, .slice none 0 0, .int .i64 0, .slice none 0 0, .slice none 0 0, .slice none 0 0] 65)) (T := 27) (.int .i64 c) (.int .i64 i)
    rwa [World.size_alloc] at this
  have hR1 := blk_below BG.res hB1
  have hBw := bcat BG.bel hB1 BG.bel.size
  obtain ⟨y0, y1, fy0, fy1⟩ := hR1.two
  obtain ⟨t0, t1, _, _⟩ := hF1.two
  rw [hw2] at t0 t1
  go_wp2_with fail
  rw [← hw2]
  rw [← hw2] at t0 t1
  clear hw2
  go_region
  all_goals (
    go_wp2
    obtain ⟨hR6, hB6⟩ := put2 hR1 hBw (by omega) c i
    have hB7 := bdrew hB6
    have hR7 : Blk ((w2.setCell ⟨w.heap.size + 1, 0, none⟩ (.int .i64 c)).setCell ⟨w.heap.size + 1, 1, none⟩ (.int .i64 i)).drew (w.heap.size + 1) 27 [.int .i64 c, .int .i64 i] := hR6
    generalize ((w2.setCell ⟨w.heap.size + 1, 0, none⟩ (.int .i64 c)).setCell ⟨w.heap.size + 1, 1, none⟩ (.int .i64 i)).drew = W at hR7 hB7 ⊢
    obtain ⟨z0, z1, _, _⟩ := hR7.two
    exact bodyPost_ret (v := .tuple #[.slice none 0 0, .agg #[.int .i64 c, .int .i64 i]]) (by simp [results, Tryd.results21, go_sem, z0, z1]) rfl ⟨rfl, hB7⟩)
set_option maxRecDepth 100000 in
set_option maxHeartbeats 4000000 in
theorem pai_good (n e : Nat) (v : Value) (zs : List Int) (w : World) (hv : Sl w v zs) (hg : IsGrp n zs e) (hT : Tab w) :
    Calls Tryd.prog 22 #[.agg #[.int .i64 n, v]] w fun x w' => x = .returned (.tuple #[.int .i64 (n * (rcs n (clq n zs e) n).length : Nat), .agg #[.int .i64 0, .int .i64 0]]) ∧ Below w.heap.size w w' := by
  obtain ⟨va, vl, vc, rfl⟩ := hv.isSlice
  obtain ⟨w0, BG⟩ := Beg.new w n (.slice va vl vc)
  have HCK := hide (kop_good n e (.slice va vl vc) zs w0 (hv.below BG.bel) hg (hT.below BG.bel))
  obtain ⟨c0, c1, _, _⟩ := BG.box.two
  have hz0 : w.heap.size + 1 < w0.heap.size := BG.res.lt
  rw [BG.eq] at c0 c1
  go_enter Tryd.func22, Tryd.ntmps22
  go_wp2_with fail
  rw [← BG.eq]
  refine HCK.out.mono ?_
  rintro x w1 ⟨u, cv, nv, vs, rfl, hu, hrow, hls, hnv, hb1⟩
  obtain ⟨ia, il, ic, rfl⟩ := hu.isSlice
  obtain ⟨na, nl, nc, rfl⟩ := hnv.isSlice
  have h01 : 0 < w1.heap.size := Nat.lt_of_lt_of_le (hT.below BG.bel).lt hb1.size
  have hL := SlL.of_own hrow hls h01
  obtain ⟨la, ll, lc, rfl⟩ := hL.isSlice
  clear c0 c1 hu hrow hls
  obtain ⟨w2, hw2⟩ : ∃ w2, w2 = (w1.alloc (.cells #[.int .i64 n, .slice va vl vc, .int .i64 e, .slice ia il ic, .slice la ll lc, .slice na nl nc] 65)).alloc (.cells #[.int .i64 0, .int .i64 0] 27) := ⟨_, rfl⟩
  have hb2 : Below w1.heap.size w1 w2 := by rw [hw2]; exact (balloc w1 _).alloc (by simp) _
  have hB1 : Below w0.heap.size w0 w2 := bcat2 hb1 hb2
  have hF1 : Blk w2 (w1.heap.size + 1) 27 [.int .i64 0, .int .i64 0] := by
    rw [hw2]
    have := blk0 (w := w1.alloc (.cells #[.int .i64 n, .slice va vl vc, .int .i64 e, .slice ia il ic, .slice la ll lc, .slice na nl nc] 65)) (T := 27) (.int .i64 0) (.int .i64 0)
    rwa [World.size_alloc] at this
  have hO1 : Blk w2 w1.heap.size 65 [.int .i64 n, .slice va vl vc, .int .i64 e, .slice ia il ic, .slice la ll lc, .slice na nl nc] := by
    rw [hw2]
    have h : Blk (w1.alloc (.cells #[.int .i64 n, .slice va vl vc, .int .i64 e, .slice ia il ic, .slice la ll lc, .slice na nl nc] 65)) _ 65 [.int .i64 n, .slice va vl vc, .int .i64 e, .slice ia il ic, .slice la ll lc, .slice na nl nc] := World.alloc_heap_new _ _
    exact h.alloc _
  have hR1 := blk_below BG.res hB1
  have hBw := bcat BG.bel hB1 BG.bel.size
  have hL2 := hL.below hb2
  have hnv2 := hnv.below hb2
  obtain ⟨_, y0, y1, fy0, fy1, s0, s1⟩ := Two.mk' hR1
  obtain ⟨t0, t1, _, _⟩ := hF1.two
  have o0 : w2.cell? ⟨w1.heap.size, 0, none⟩ = some (.int .i64 n) := hO1.cell 0
  have o4 : w2.cell? ⟨w1.heap.size, 4, none⟩ = some (.slice la ll lc) := hO1.cell 4
  have hrl := rcs_len n (clq n zs e) n
  have hn := hg.tab.le
  obtain ⟨_, _, _, _, hle, _⟩ := hL2
  injection hle with e1 e2 e3
  subst e1 e2 e3
  clear hL
  generalize hrn : (rcs n (clq n zs e) n).length = rn at *
  have hmul : n * rn ≤ 60 * 60 := Nat.mul_le_mul hn (by omega)
  have hwm : IntKind.i64.wrap ((n : Int) * (rn : Int)) = ((n * rn : Nat) : Int) := by rw [IntKind.wrap_i64, ← Int.natCast_mul]; omega
  rw [hw2] at t0 t1 o0 o4 y0 y1 fy0 fy1 s0 s1
  go_wp2
  rw [← hw2]
  rw [← hw2] at y0 y1
  clear hw2
  exact bodyPost_ret (v := .tuple #[.int .i64 (n * rn : Nat), .agg #[.int .i64 0, .int .i64 0]]) (by simp [results, Tryd.results22, go_sem, y0, y1]) rfl ⟨by rw [hrn], hBw⟩
/-- The first thing of the class at a place. -/
def lda (n : Nat) (f : Nat → Nat → Bool) (t : Nat) : Nat := ((((rcs n f n)[t]?.getD []).head?).getD 0).toNat
theorem lda_eq {n t x : Nat} {f : Nat → Nat → Bool} (hh : (lst n (f x)).head? = some x) (h : (rcs n f n)[t]? = some (li (lst n (f x)))) : lda n f t = x := by
  unfold lda
  rw [h, Option.getD_some]
  unfold li
  rw [List.head?_map, hh]
  simp
/-- A list that is written place by place. -/
def plU (F : Nat → Int) (m k : Nat) : List Int := (List.range m).map fun i => if i < k then F i else 0
theorem plU_len (F : Nat → Int) (m k : Nat) : (plU F m k).length = m := by simp [plU]
theorem plU_zero (F : Nat → Int) (m : Nat) : plU F m 0 = List.replicate m 0 := by
  apply List.ext_getElem <;> simp [plU]
theorem plU_set (F : Nat → Int) (m k : Nat) : (plU F m k).set k (F k) = plU F m (k + 1) := by
  unfold plU
  rw [map_set]
  refine List.map_congr_left fun y _ => ?_
  by_cases e : y = k
  · subst e; simp
  · rw [if_neg e]
    by_cases h : y < k
    · rw [if_pos h, if_pos (by omega)]
    · rw [if_neg h, if_neg (by omega)]
theorem plU_all (F : Nat → Int) (m : Nat) : plU F m m = (List.range m).map F := List.map_congr_left fun _ hy => if_pos (List.mem_range.1 hy)
/-- What Powers tells. -/
def pwl (n : Nat) (zs : List Int) (e : Nat) (z : Int) (i : Nat) : Int := (num n (clq n zs e) (pz n zs e (lda n (clq n zs e) i) z) : Nat)
set_option maxRecDepth 100000 in
set_option maxHeartbeats 4000000 in
theorem pwr_good (n e : Nat) (z : Int) (v : Value) (zs : List Int) (w : World) (hv : Sl w v zs) (hg : IsGrp n zs e) (hT : Tab w) :
    Calls Tryd.prog 21 #[.agg #[.int .i64 n, v], .int .i64 z] w fun x w' => ∃ r1 r2 r3, x = .returned (.tuple #[.slice r1 r2 r3, .agg #[.int .i64 0, .int .i64 0]]) ∧ Sl w' (.slice r1 r2 r3) ((List.range (rcs n (clq n zs e) n).length).map (pwl n zs e z)) ∧ Below w.heap.size w w' := by
  obtain ⟨va, vl, vc, rfl⟩ := hv.isSlice
  obtain ⟨w0, BG⟩ := Beg.new w n (.slice va vl vc)
  have HCK := hide (kop_good n e (.slice va vl vc) zs w0 (hv.below BG.bel) hg (hT.below BG.bel))
  obtain ⟨c0, c1, _, _⟩ := BG.box.two
  have hz0 : w.heap.size + 1 < w0.heap.size := BG.res.lt
  rw [BG.eq] at c0 c1
  go_enter Tryd.func21, Tryd.ntmps21
  go_wp2_with fail
  rw [← BG.eq]
  refine HCK.out.mono ?_
  rintro x w1 ⟨u, cv, nv, vs, rfl, hu, hrow, hls, hnv, hb1⟩
  obtain ⟨ia, il, ic, rfl⟩ := hu.isSlice
  obtain ⟨na, nl, nc, rfl⟩ := hnv.isSlice
  have h01 : 0 < w1.heap.size := Nat.lt_of_lt_of_le (hT.below BG.bel).lt hb1.size
  have hL := SlL.of_own hrow hls h01
  obtain ⟨la, ll, lc, rfl⟩ := hL.isSlice
  clear c0 c1 hu hrow hls
  obtain ⟨w2, hw2⟩ : ∃ w2, w2 = (w1.alloc (.cells #[.int .i64 n, .slice va vl vc, .int .i64 e, .slice ia il ic, .slice la ll lc, .slice na nl nc] 65)).alloc (.cells #[.int .i64 0, .int .i64 0] 27) := ⟨_, rfl⟩
  have hb2 : Below w1.heap.size w1 w2 := by rw [hw2]; exact (balloc w1 _).alloc (by simp) _
  have hB1 : Below w0.heap.size w0 w2 := bcat2 hb1 hb2
  have hF1 : Blk w2 (w1.heap.size + 1) 27 [.int .i64 0, .int .i64 0] := by
    rw [hw2]
    have := blk0 (w := w1.alloc (.cells #[.int .i64 n, .slice va vl vc, .int .i64 e, .slice ia il ic, .slice la ll lc, .slice na nl nc] 65)) (T := 27) (.int .i64 0) (.int .i64 0)
    rwa [World.size_alloc] at this
  have hO1 : Blk w2 w1.heap.size 65 [.int .i64 n, .slice va vl vc, .int .i64 e, .slice ia il ic, .slice la ll lc, .slice na nl nc] := by
    rw [hw2]
    have h : Blk (w1.alloc (.cells #[.int .i64 n, .slice va vl vc, .int .i64 e, .slice ia il ic, .slice la ll lc, .slice na nl nc] 65)) _ 65 [.int .i64 n, .slice va vl vc, .int .i64 e, .slice ia il ic, .slice la ll lc, .slice na nl nc] := World.alloc_heap_new _ _
    exact h.alloc _
  have hR1 := blk_below BG.res hB1
  have hBw := bcat BG.bel hB1 BG.bel.size
  have hL2 := hL.below hb2
  have hnv2 := hnv.below hb2
  obtain ⟨_, y0, y1, fy0, fy1, s0, s1⟩ := Two.mk' hR1
  obtain ⟨t0, t1, _, _⟩ := hF1.two
  have o0 : w2.cell? ⟨w1.heap.size, 0, none⟩ = some (.int .i64 n) := hO1.cell 0
  have o4 : w2.cell? ⟨w1.heap.size, 4, none⟩ = some (.slice la ll lc) := hO1.cell 4
  have hrl := rcs_len n (clq n zs e) n
  have hn := hg.tab.le
  obtain ⟨la', lcap, lb, lo, hle, hl1, hl2, hl3, hl4, hl5⟩ := hL2
  injection hle with e1 e2 e3
  subst e1 e2 e3
  obtain ⟨na', ncap, nb, no, hne, hnr, hn1, hn2, hn3⟩ := hnv2
  injection hne with e1 e2 e3
  have hnl : (li ((List.range n).map (num n (clq n zs e)))).length = n := by simp [li]
  rw [hnl] at e2 hn2
  subst e1 e3
  obtain rfl := e2.symm
  obtain rfl := hnr.at_ (by rw [hnl]; exact hg.tab.pos)
  have hp0 : 0 < (rcs n (clq n zs e) n).length := by
    have h1 := (clq_parts hg).sum_all
    have h2 := hg.tab.pos
    cases h : rcs n (clq n zs e) n with
    | nil => rw [h] at h1; simp at h1; omega
    | cons a t => simp
  obtain rfl := hl1 hp0
  obtain ⟨i0, hi, hz0', hz1, hz2⟩ := info_parts info3b
  have HL2 := hide hl2
  have HNR := hide hnr
  have HNL := hide hnl
  clear hL hl1 hl2 hnr hnv hnl
  have hs2 : w2.heap.size = w1.heap.size + 1 + 1 := by rw [hw2]; simp
  rw [hw2] at t0 t1 o0 o4
  go_wp2_with (first
    | (at_make; refine wpList_make_full _ rfl _ _ 22 rfl _ 3 i0 (.int .i64 0) 1 under22b hi hz0' hz1 _ _ _ _ (rcs n (clq n zs e) n).length rfl rfl rfl rfl (by rw [hz2]; omega) (by unfold maxLen; omega) (Nat.le_refl _) ?_))
  rw [← hw2]
  rw [← hw2] at o4
  clear hw2 t0 t1 o0
  intro w3 hown hgr
  try rw [← hs2] at hown
  rw [← hs2]
  clear hs2
  have hM : Blk w3 w2.heap.size 3 ((plU (pwl n zs e z) (rcs n (clq n zs e) n).length 0).map (Value.int .i64)) := by
    have := Blk.of_owns hown
    rw [made_rep] at this
    rw [plU_zero, List.map_replicate]; simpa using this
  have hB3 : Below w2.heap.size w2 w3 := (Below.refl _ w2).grown hgr (Nat.le_refl _) (by simp)
  have o43 := below_cell hB3 o4
  clear hown hgr o4
  generalize w1.heap.size = ob at *
  go_wp2
  clear o43
  go_loopw [27] (fun i wr => ∃ k : Nat, k ≤ (rcs n (clq n zs e) n).length ∧ i = .int .i64 k ∧ Blk wr w2.heap.size 3 ((plU (pwl n zs e z) (rcs n (clq n zs e) n).length k).map (Value.int .i64)) ∧ Below w2.heap.size w2 wr) (fun i _ => (rcs n (clq n zs e) n).length - (intOf i).toNat)
  case atStart => exact ⟨0, Nat.zero_le _, rfl, hM, hB3⟩
  case round =>
    clear hM hB3
    obtain ⟨k, hk, rfl, hM, hB⟩ := hrel
    by_cases hlt : k < (rcs n (clq n zs e) n).length
    · obtain ⟨x, hx, hhd, hat⟩ := rcs_at hlt
      have hkl : (k : Int) < ((rcs n (clq n zs e) n).length : Int) := by omega
      obtain ⟨xx, cx, hSx⟩ := HL2.out k hlt
      rw [hat, Option.getD_some] at hSx
      have HPU := hide (show (plU (pwl n zs e z) (rcs n (clq n zs e) n).length k).set k (num n (clq n zs e) (pz n zs e x z) : Nat) = plU (pwl n zs e z) (rcs n (clq n zs e) n).length (k + 1) by
        rw [← plU_set]
        congr 1
        unfold pwl
        rw [lda_eq hhd hat])
      obtain ⟨tl, htl⟩ : ∃ tl, lst n (clq n zs e x) = x :: tl := by
        cases hl : lst n (clq n zs e x) with
        | nil => rw [hl] at hhd; simp at hhd
        | cons y t => rw [hl] at hhd; simp at hhd; exact ⟨t, by rw [hhd]⟩
      obtain ⟨qa, qc, qb, qo, rfl, hq, hq1, hq2, hq3⟩ := hSx
      have hqc := hq.cell 0 (by rw [htl]; simp [li])
      obtain rfl := hq.at_ (by rw [htl]; simp [li])
      have hq0 : (li (lst n (clq n zs e x)))[0]?.getD 0 = (x : Int) := by rw [htl]; simp [li]
      rw [hq0, Nat.add_zero] at hqc
      have hqp : 0 < (lst n (clq n zs e x)).length := by rw [htl]; simp
      rw [li_len] at cx
      have hzl := pz_lt hg hx z
      have hnc := HNR.out.cell (pz n zs e x z) (by rw [HNL.out]; exact hzl)
      have hng : (li ((List.range n).map (num n (clq n zs e))))[pz n zs e x z]?.getD 0 = ((num n (clq n zs e) (pz n zs e x z) : Nat) : Int) := by simp [li, hzl]
      rw [hng] at hnc
      have HPO := hide (fun W (h : Below w2.heap.size w2 W) => kpow_ok hg hx z (.slice va vl vc) (.slice ia il ic) (.slice (some ⟨lb, lo, none⟩) (rcs n (clq n zs e) n).length lc) (.slice (some ⟨nb, no, none⟩) n nc) W (hv.below (bcat2 hBw h)))
      have hzi : ((pz n zs e x z : Nat) : Int) < (n : Int) := by omega
      have hS : ∀ W, Below w2.heap.size w2 W → (Below w2.heap.size w2 W ∧ W.cell? ⟨ob, 0, none⟩ = some (.int .i64 n) ∧ W.cell? ⟨ob, 1, none⟩ = some (.slice va vl vc) ∧ W.cell? ⟨ob, 2, none⟩ = some (.int .i64 e) ∧ W.cell? ⟨ob, 3, none⟩ = some (.slice ia il ic) ∧ W.cell? ⟨ob, 4, none⟩ = some (.slice (some ⟨lb, lo, none⟩) (rcs n (clq n zs e) n).length lc) ∧ W.cell? ⟨ob, 5, none⟩ = some (.slice (some ⟨nb, no, none⟩) n nc) ∧ W.cell? ⟨qb, qo, none⟩ = some (.int .i64 x) ∧ W.cell? ⟨nb, no + pz n zs e x z, none⟩ = some (.int .i64 (num n (clq n zs e) (pz n zs e x z) : Nat))) := fun W h => by
        have hO := blk_below hO1 h
        exact ⟨h, hO.cell 0, hO.cell 1, hO.cell 2, hO.cell 3, hO.cell 4, hO.cell 5, below_cell h hqc, below_cell h hnc⟩
      have hBc : Below w2.heap.size w2 wr.drew := bdrew hB
      have hS0 := hS _ hBc
      replace hM : Blk wr.drew w2.heap.size 3 _ := hM
      have cx' := below_cell hB cx
      have o4' : wr.cell? ⟨ob, 4, none⟩ = some (.slice (some ⟨lb, lo, none⟩) (rcs n (clq n zs e) n).length lc) := (blk_below hO1 hB).cell 4
      clear htl hq hq0 hhd hat hq2 hng cx hqc hnc
      generalize (lst n (clq n zs e x)).length = ql at *
      go_wp2_with fail
      clear cx' o4'
      refine wp_region_held_drew (S := fun W => Below w2.heap.size w2 W ∧ W.cell? ⟨ob, 0, none⟩ = some (.int .i64 n) ∧ W.cell? ⟨ob, 1, none⟩ = some (.slice va vl vc) ∧ W.cell? ⟨ob, 2, none⟩ = some (.int .i64 e) ∧ W.cell? ⟨ob, 3, none⟩ = some (.slice ia il ic) ∧ W.cell? ⟨ob, 4, none⟩ = some (.slice (some ⟨lb, lo, none⟩) (rcs n (clq n zs e) n).length lc) ∧ W.cell? ⟨ob, 5, none⟩ = some (.slice (some ⟨nb, no, none⟩) n nc) ∧ W.cell? ⟨qb, qo, none⟩ = some (.int .i64 x) ∧ W.cell? ⟨nb, no + pz n zs e x z, none⟩ = some (.int .i64 (num n (clq n zs e) (pz n zs e x z) : Nat))) (by kernel_rfl) hS0 (fun hHeld => ?_)
      generalize wr.drew = wd at *
      refine wpAnyH_take (i := 0) (oi := ({ dst := some 32, op := Go.Op.move (Go.Operand.tmp 8), type := 22, pos := _, after := _, guard := none } : Oper)) (v := ?_) rfl (by kernel_rfl) (by kernel_rfl) (by kernel_rfl) (fun _ _ _ h => h) (Or.inl ⟨by rfl, ?_⟩) (by assumption) ?_
      rotate_left
      · (intro w hSw; (try dsimp only at hSw); go_simp; try with_reducible rfl)
      simp only [Act.put, List.setIfInBounds_toArray, List.set_cons_zero, List.set_cons_succ]
      refine wpAnyH_take (i := 1) (oi := ({ dst := some 33, op := Go.Op.move (Go.Operand.tmp 9), type := 3, pos := _, after := _, guard := none } : Oper)) (v := ?_) rfl (by kernel_rfl) (by kernel_rfl) (by kernel_rfl) (fun _ _ _ h => h) (Or.inl ⟨by rfl, ?_⟩) (by assumption) ?_
      rotate_left
      · (intro w hSw; (try dsimp only at hSw); go_simp; try with_reducible rfl)
      simp only [Act.put, List.setIfInBounds_toArray, List.set_cons_zero, List.set_cons_succ]
      refine wpAnyH_take (i := 2) (oi := ({ dst := some 34, op := Go.Op.fieldAddr 65 (Go.Operand.tmp 6) 2, type := 0, pos := _, after := _, guard := none } : Oper)) (v := ?_) rfl (by kernel_rfl) (by kernel_rfl) (by kernel_rfl) (fun _ _ _ h => h) (Or.inl ⟨by rfl, ?_⟩) (by assumption) ?_
      rotate_left
      · (intro w hSw; (try dsimp only at hSw); go_simp; try with_reducible rfl)
      simp only [Act.put, List.setIfInBounds_toArray, List.set_cons_zero, List.set_cons_succ]
      refine wpAnyH_take (i := 3) (oi := ({ dst := some 35, op := Go.Op.load 22 (Go.Operand.tmp 34), type := 22, pos := _, after := _, guard := none } : Oper)) (v := ?_) rfl (by kernel_rfl) (by kernel_rfl) (by kernel_rfl) (fun _ _ _ h => h) (Or.inl ⟨by rfl, ?_⟩) (by assumption) ?_
      rotate_left
      · (intro w hSw; (try dsimp only at hSw); go_simp; try with_reducible rfl)
      simp only [Act.put, List.setIfInBounds_toArray, List.set_cons_zero, List.set_cons_succ]
      refine wpAnyH_take (i := 4) (oi := ({ dst := some 36, op := Go.Op.load 65 (Go.Operand.tmp 6), type := 65, pos := _, after := _, guard := none } : Oper)) (v := ?_) rfl (by kernel_rfl) (by kernel_rfl) (by kernel_rfl) (fun _ _ _ h => h) (Or.inl ⟨by rfl, ?_⟩) (by assumption) ?_
      rotate_left
      · (intro w hSw; (try dsimp only at hSw); go_simp; try with_reducible rfl)
      simp only [Act.put, List.setIfInBounds_toArray, List.set_cons_zero, List.set_cons_succ]
      refine wpAnyH_take (i := 5) (oi := ({ dst := some 37, op := Go.Op.move (Go.Operand.tmp 10), type := 22, pos := _, after := _, guard := none } : Oper)) (v := ?_) rfl (by kernel_rfl) (by kernel_rfl) (by kernel_rfl) (fun _ _ _ h => h) (Or.inl ⟨by rfl, ?_⟩) (by assumption) ?_
      rotate_left
      · (intro w hSw; (try dsimp only at hSw); go_simp; try with_reducible rfl)
      simp only [Act.put, List.setIfInBounds_toArray, List.set_cons_zero, List.set_cons_succ]
      refine wpAnyH_take (i := 6) (oi := ({ dst := some 38, op := Go.Op.indexAddr 22 (Go.Operand.tmp 37) (Go.Operand.const (Go.Value.int Go.IntKind.i64 0)), type := 0, pos := _, after := _, guard := none } : Oper)) (v := ?_) rfl (by kernel_rfl) (by kernel_rfl) (by kernel_rfl) (fun _ _ _ h => h) (Or.inl ⟨by rfl, ?_⟩) (by assumption) ?_
      rotate_left
      · (intro w hSw; (try dsimp only at hSw); go_simp; try with_reducible rfl)
      simp only [Act.put, List.setIfInBounds_toArray, List.set_cons_zero, List.set_cons_succ]
      refine wpAnyH_take (i := 7) (oi := ({ dst := some 39, op := Go.Op.load 3 (Go.Operand.tmp 38), type := 3, pos := _, after := _, guard := none } : Oper)) (v := ?_) rfl (by kernel_rfl) (by kernel_rfl) (by kernel_rfl) (fun _ _ _ h => h) (Or.inl ⟨by rfl, ?_⟩) (by assumption) ?_
      rotate_left
      · (intro w hSw; (try dsimp only at hSw); go_simp; try with_reducible rfl)
      simp only [Act.put, List.setIfInBounds_toArray, List.set_cons_zero, List.set_cons_succ]
      refine wpAnyH_take (i := 8) (oi := ({ dst := some 40, op := Go.Op.move (Go.Operand.tmp 1), type := 3, pos := _, after := _, guard := none } : Oper)) (v := ?_) rfl (by kernel_rfl) (by kernel_rfl) (by kernel_rfl) (fun _ _ _ h => h) (Or.inl ⟨by rfl, ?_⟩) (by assumption) ?_
      rotate_left
      · (intro w hSw; (try dsimp only at hSw); go_simp; try with_reducible rfl)
      simp only [Act.put, List.setIfInBounds_toArray, List.set_cons_zero, List.set_cons_succ]
      refine wpAnyH_ready (rs := [9]) (by kernel_rfl) (by simp) (AllReadyH.cons (o := ({ dst := some 41, op := Go.Op.call { callee := Go.Callee.value (Go.Operand.func 49), args := #[Go.Operand.tmp 36, Go.Operand.tmp 39, Go.Operand.tmp 40], argTypes := #[65, 3, 3] }, type := 3, pos := _, after := _, guard := none } : Oper)) rfl (fun KK hK => ?_) AllReadyH.nil)
      go_simp
      refine (HPO.out _ hBc).mono ?_
      rintro x1 W1 ⟨rfl, hl1⟩
      replace hBc := bcat2 hBc hl1
      replace hM := blk_below hM hl1
      try go_wp2_with fail
      refine hK.out _ _ (hS _ hBc) (fun hHeld => ?_)
      clear hK
      try simp only [Act.put, List.setIfInBounds_toArray, List.set_cons_zero, List.set_cons_succ]
      refine wpAnyH_take (i := 10) (oi := ({ dst := some 42, op := Go.Op.indexAddr 22 (Go.Operand.tmp 35) (Go.Operand.tmp 41), type := 0, pos := _, after := _, guard := none } : Oper)) (v := ?_) rfl (by kernel_rfl) (by kernel_rfl) (by kernel_rfl) (fun _ _ _ h => h) (Or.inl ⟨by rfl, ?_⟩) (by assumption) ?_
      rotate_left
      · (intro w hSw; (try dsimp only at hSw); go_simp; try with_reducible rfl)
      simp only [Act.put, List.setIfInBounds_toArray, List.set_cons_zero, List.set_cons_succ]
      refine wpAnyH_take (i := 11) (oi := ({ dst := some 43, op := Go.Op.load 3 (Go.Operand.tmp 42), type := 3, pos := _, after := _, guard := none } : Oper)) (v := ?_) rfl (by kernel_rfl) (by kernel_rfl) (by kernel_rfl) (fun _ _ _ h => h) (Or.inl ⟨by rfl, ?_⟩) (by assumption) ?_
      rotate_left
      · (intro w hSw; (try dsimp only at hSw); go_simp; try with_reducible rfl)
      simp only [Act.put, List.setIfInBounds_toArray, List.set_cons_zero, List.set_cons_succ]
      refine wpAnyH_take (i := 12) (oi := ({ dst := some 44, op := Go.Op.indexAddr 22 (Go.Operand.tmp 32) (Go.Operand.tmp 33), type := 0, pos := _, after := _, guard := none } : Oper)) (v := ?_) rfl (by kernel_rfl) (by kernel_rfl) (by kernel_rfl) (fun _ _ _ h => h) (Or.inl ⟨by rfl, ?_⟩) (by assumption) ?_
      rotate_left
      · (intro w hSw; (try dsimp only at hSw); go_simp; try with_reducible rfl)
      simp only [Act.put, List.setIfInBounds_toArray, List.set_cons_zero, List.set_cons_succ]
      refine wpAnyH_ready (rs := [13]) (by kernel_rfl) (by simp) (AllReadyH.cons (o := ({ dst := none, op := Go.Op.store 3 (Go.Operand.tmp 44) (Go.Operand.tmp 43), type := 0, pos := _, after := _, guard := none } : Oper)) rfl (fun KK hK => ?_) AllReadyH.nil)
      have mc := hM.int (y := k) (by rw [plU_len]; exact hlt)
      have mf := hM.frozen k
      replace hM := hM.setInt k (num n (clq n zs e) (pz n zs e x z) : Nat)
      replace hBc := hBc.setCell (p := ⟨w2.heap.size, k, none⟩) (Nat.le_refl _) (.int .i64 (num n (clq n zs e) (pz n zs e x z) : Nat))
      go_simp
      refine hK.out _ _ (hS _ hBc) (fun hHeld => ?_)
      clear hK
      try simp only [Act.put, List.setIfInBounds_toArray, List.set_cons_zero, List.set_cons_succ]
      clear mc mf
      refine wpAnyH_done (by kernel_rfl) ?_ _
      rw [HPU.out] at hM
      go_wp2
      go_roundw
      case rel => exact ⟨k + 1, by omega, by go_num, hM, hBc⟩
      case measure => simp [intOf]; omega
    · have hkl : ¬ (k : Int) < ((rcs n (clq n zs e) n).length : Int) := by omega
      obtain rfl : k = (rcs n (clq n zs e) n).length := by omega
      rw [plU_all] at hM
      obtain ⟨_, y0, y1, fy0, fy1, s0, s1⟩ := Two.mk' (blk_below hR1 hB)
      have hSl := Sl.of_blk (n := (rcs n (clq n zs e) n).length) hM (by simp) (by simp; omega)
      have hBz := bcat2 hBw hB
      go_wp2
      exact bodyPost_ret (v := .tuple #[.slice (some ⟨w2.heap.size, 0, none⟩) (rcs n (clq n zs e) n).length (rcs n (clq n zs e) n).length, .agg #[.int .i64 0, .int .i64 0]]) (by simp [results, Tryd.results21, go_sem, y0, y1]) rfl ⟨_, _, _, rfl, hSl, hBz⟩
end Go.Proofs.YtobnfbnholbfoaaDoor

namespace Go.Proofs.YtobnfbnholbfoaaDoor
open Go Go.RowKit Go.Maps

/-- Of the first t things: how many are of class i, and lead to x by one of class j. -/
def tmk (n : Nat) (zs : List Int) (e i j x t : Nat) : Nat := ((List.range t).filter fun a => decide (num n (clq n zs e) a = i) && decide (num n (clq n zs e) (tm n zs (iv n zs e a) x) = j)).length
theorem tmk_le (n : Nat) (zs : List Int) (e i j x t : Nat) : tmk n zs e i j x t ≤ t := Nat.le_trans (List.length_filter_le _ _) (by simp)
theorem tmk_succ (n : Nat) (zs : List Int) (e i j x t : Nat) : tmk n zs e i j x (t + 1) = tmk n zs e i j x t + if num n (clq n zs e) t = i ∧ num n (clq n zs e) (tm n zs (iv n zs e t) x) = j then 1 else 0 := by
  unfold tmk
  rw [List.range_succ, List.filter_append, List.length_append]
  by_cases h1 : num n (clq n zs e) t = i <;> by_cases h2 : num n (clq n zs e) (tm n zs (iv n zs e t) x) = j <;> simp [h1, h2]
/-- The numbers, once all things of the first k classes, and the first a things of the next, are asked. -/
def tmp (n : Nat) (zs : List Int) (e k a i j c : Nat) : Int := if c < k then (tmk n zs e i j (lda n (clq n zs e) c) n : Nat) else if c = k then (tmk n zs e i j (lda n (clq n zs e) c) a : Nat) else 0
theorem tmp_zero (n : Nat) (zs : List Int) (e i j c : Nat) : (0 : Int) = tmp n zs e 0 0 i j c := by
  unfold tmp
  by_cases h : c = 0
  · simp [h, tmk]
  · simp [h]
theorem tmp_next (n : Nat) (zs : List Int) (e k i j c : Nat) : tmp n zs e k n i j c = tmp n zs e (k + 1) 0 i j c := by
  unfold tmp
  by_cases h : c < k
  · rw [if_pos h, if_pos (by omega)]
  · rw [if_neg h]
    by_cases h2 : c = k
    · rw [if_pos h2, if_pos (by omega)]
    · rw [if_neg h2, if_neg (by omega)]
      by_cases h3 : c = k + 1
      · rw [if_pos h3]; simp [tmk]
      · rw [if_neg h3]
theorem tmp_step (n : Nat) (zs : List Int) (e k a i j c : Nat) : (if i = num n (clq n zs e) a ∧ j = num n (clq n zs e) (tm n zs (iv n zs e a) (lda n (clq n zs e) k)) ∧ c = k then tmp n zs e k a (num n (clq n zs e) a) (num n (clq n zs e) (tm n zs (iv n zs e a) (lda n (clq n zs e) k))) k + 1 else tmp n zs e k a i j c) = tmp n zs e k (a + 1) i j c := by
  unfold tmp
  by_cases h2 : c = k
  · subst h2
    simp only [Nat.lt_irrefl, if_false, if_true, and_true]
    rw [tmk_succ]
    by_cases h : i = num n (clq n zs e) a ∧ j = num n (clq n zs e) (tm n zs (iv n zs e a) (lda n (clq n zs e) c))
    · rw [if_pos h, if_pos ⟨h.1.symm, h.2.symm⟩, h.1, h.2]
      omega
    · rw [if_neg h, if_neg (fun h9 => h ⟨h9.1.symm, h9.2.symm⟩), Nat.add_zero]
  · rw [if_neg (fun h => h2 h.2.2), if_neg h2, if_neg h2]
theorem num_rcs {n a : Nat} {f : Nat → Nat → Bool} (h : Prts n f) (ha : a < n) : num n f a < (rcs n f n).length := by
  have h1 := (prts_num_lt h ha).1
  rw [h.fsts_lt (Nat.le_refl _)] at h1
  unfold rcs
  rw [List.length_map]; exact h1
set_option maxRecDepth 100000 in
set_option maxHeartbeats 4000000 in
theorem tms_ok (n e : Nat) (v u cv nv : Value) (zs : List Int) (w : World) (g : IsGrp n zs e) (hv : Sl w v zs) (hu : Sl w u (li ((List.range n).map (iv n zs e)))) (hL : SlL w cv (rcs n (clq n zs e) n)) (hnv : Sl w nv (li ((List.range n).map (num n (clq n zs e))))) :
    Calls Tryd.prog 48 #[.agg #[.int .i64 n, v, .int .i64 e, u, cv, nv]] w fun x w' => ∃ S, x = .returned (.slice (some ⟨S, 0, none⟩) (rcs n (clq n zs e) n).length (rcs n (clq n zs e) n).length) ∧ Cub w' S (rcs n (clq n zs e) n).length (fun i j k => (tmk n zs e i j (lda n (clq n zs e) k) n : Nat)) ∧ Below w.heap.size w w' := by
  obtain ⟨va, vl, vc, rfl⟩ := hv.isSlice
  have hn := g.tab.le
  have hpos := g.tab.pos
  have HPT := hide (clq_parts g)
  have hrl := rcs_len n (clq n zs e) n
  obtain ⟨la, lc, lb, lo, rfl, hl1, hl2, hl3, hl4, hl5⟩ := hL
  obtain ⟨ua, uc, ub, uo, rfl, hur, hu1, hu2, hu3⟩ := hu
  obtain ⟨na, nc, nb, no, rfl, hnr, hn1, hn2, hn3⟩ := hnv
  have hul : (li ((List.range n).map (iv n zs e))).length = n := by simp [li]
  have hnl : (li ((List.range n).map (num n (clq n zs e)))).length = n := by simp [li]
  obtain rfl := hur.at_ (by rw [hul]; exact hpos)
  obtain rfl := hnr.at_ (by rw [hnl]; exact hpos)
  have hp0 : 0 < (rcs n (clq n zs e) n).length := Nat.lt_of_le_of_lt (Nat.zero_le _) (num_rcs HPT.out hpos)
  obtain rfl := hl1 hp0
  have HL2 := hide hl2
  have HUC := hide (fun a (ha : a < n) => show w.cell? ⟨ub, uo + a, none⟩ = some (.int .i64 (iv n zs e a)) by
    have h := hur.cell a (by rw [hul]; exact ha)
    rwa [show (li ((List.range n).map (iv n zs e)))[a]?.getD 0 = ((iv n zs e a : Nat) : Int) by simp [li, ha]] at h)
  have HNC := hide (fun a (ha : a < n) => show w.cell? ⟨nb, no + a, none⟩ = some (.int .i64 (num n (clq n zs e) a : Nat)) by
    have h := hnr.cell a (by rw [hnl]; exact ha)
    rwa [show (li ((List.range n).map (num n (clq n zs e))))[a]?.getD 0 = ((num n (clq n zs e) a : Nat) : Int) by simp [li, ha]] at h)
  rw [hul, hnl]
  clear hl1 hl2 hur hnr hul hnl hu2 hn2
  generalize hm : (rcs n (clq n zs e) n).length = m at *
  have hB0 : Below w.heap.size w (w.alloc (.cells #[.int .i64 n, .slice va vl vc, .int .i64 e, .slice (some ⟨ub, uo, none⟩) n uc, .slice (some ⟨lb, lo, none⟩) m lc, .slice (some ⟨nb, no, none⟩) n nc] 65)) := balloc w _
  have hX0 : Blk (w.alloc (.cells #[.int .i64 n, .slice va vl vc, .int .i64 e, .slice (some ⟨ub, uo, none⟩) n uc, .slice (some ⟨lb, lo, none⟩) m lc, .slice (some ⟨nb, no, none⟩) n nc] 65)) w.heap.size 65 [.int .i64 n, .slice va vl vc, .int .i64 e, .slice (some ⟨ub, uo, none⟩) n uc, .slice (some ⟨lb, lo, none⟩) m lc, .slice (some ⟨nb, no, none⟩) n nc] := World.alloc_heap_new _ _
  obtain ⟨w0, hw0⟩ : ∃ w0, w0 = w.alloc (.cells #[.int .i64 n, .slice va vl vc, .int .i64 e, .slice (some ⟨ub, uo, none⟩) n uc, .slice (some ⟨lb, lo, none⟩) m lc, .slice (some ⟨nb, no, none⟩) n nc] 65) := ⟨_, rfl⟩
  rw [← hw0] at hB0 hX0
  have g4 : w0.cell? ⟨w.heap.size, 4, none⟩ = some (.slice (some ⟨lb, lo, none⟩) m lc) := hX0.cell 4
  rw [hw0] at g4
  go_enter Tryd.func48, Tryd.ntmps48
  go_wp2_with fail
  rw [← hw0]
  clear hw0 g4
  refine (now_ok m w0 (by omega)).mono ?_
  rintro x w1 ⟨rfl, hC1, hb1⟩
  have hC1' := hC1.congr (G := tmp n zs e 0 0) (fun i j c _ _ _ => tmp_zero n zs e i j c)
  have g4 : w1.cell? ⟨w.heap.size, 4, none⟩ = some (.slice (some ⟨lb, lo, none⟩) m lc) := (blk_below hX0 hb1).cell 4
  clear hC1
  go_wp2
  clear g4
  go_loopw [15] (fun i wr => ∃ k : Nat, k ≤ m ∧ i = .int .i64 k ∧ Cub wr w0.heap.size m (tmp n zs e k 0) ∧ Below w0.heap.size w0 wr) (fun i _ => m - (intOf i).toNat)
  case atStart => exact ⟨0, Nat.zero_le _, rfl, hC1', hb1⟩
  case round =>
    clear hC1' hb1
    obtain ⟨k, hk, rfl, hC, hB⟩ := hrel
    by_cases hlt : k < m
    · have hki : (k : Int) < (m : Int) := by omega
      obtain ⟨x, hx, hhd, hat⟩ := rcs_at (show k < (rcs n (clq n zs e) n).length by omega)
      obtain ⟨xx, cx, hSx⟩ := HL2.out k (by omega)
      rw [hat, Option.getD_some] at hSx
      have HLD := hide (lda_eq hhd hat)
      obtain ⟨tl, htl⟩ : ∃ tl, lst n (clq n zs e x) = x :: tl := by
        cases hl : lst n (clq n zs e x) with
        | nil => rw [hl] at hhd; simp at hhd
        | cons y t => rw [hl] at hhd; simp at hhd; exact ⟨t, by rw [hhd]⟩
      obtain ⟨qa, qc, qb, qo, rfl, hq, hq1, hq2, hq3⟩ := hSx
      have hqc := hq.cell 0 (by rw [htl]; simp [li])
      obtain rfl := hq.at_ (by rw [htl]; simp [li])
      have hq0 : (li (lst n (clq n zs e x)))[0]?.getD 0 = (x : Int) := by rw [htl]; simp [li]
      rw [hq0, Nat.add_zero] at hqc
      have hqp : 0 < (lst n (clq n zs e x)).length := by rw [htl]; simp
      rw [li_len] at cx
      have cx' := below_cell (bcat2 hB0 hB) cx
      replace hqc := below_cell hB0 hqc
      have g0 : wr.cell? ⟨w.heap.size, 0, none⟩ = some (.int .i64 n) := (blk_below hX0 hB).cell 0
      clear htl hq hq0 hhd hat hq2 cx
      generalize (lst n (clq n zs e x)).length = ql at *
      go_wp2
      clear g0 cx'
      go_loopw [24] (fun i wi => ∃ a : Nat, a ≤ n ∧ i = .int .i64 a ∧ Cub wi w0.heap.size m (tmp n zs e k a) ∧ Below w0.heap.size w0 wi) (fun i _ => n - (intOf i).toNat)
      case atStart => exact ⟨0, Nat.zero_le _, rfl, hC, hB⟩
      case round =>
        clear hC hB
        obtain ⟨a, ha, rfl, hC, hB⟩ := hrel
        by_cases hat : a < n
        · have hai : (a : Int) < (n : Int) := by omega
          have hiv := (iv_spec g hat).1
          have hbn : tm n zs (iv n zs e a) x < n := tm_lt g.tab hiv hx
          have HPR := hide (fun W (h : Below w0.heap.size w0 W) => prd_ok n (.slice va vl vc) (.slice (some ⟨ub, uo, none⟩) n uc) zs e (iv n zs e a) x W g.tab (hv.below (bcat2 hB0 h)) hiv hx)
          have hA0 := num_rcs HPT.out hat
          have hB9 := num_rcs HPT.out hbn
          rw [hm] at hA0 hB9
          have na9 := below_cell hB0 (HNC.out a hat)
          have nb9 := below_cell hB0 (HNC.out _ hbn)
          have ua9 := below_cell hB0 (HUC.out a hat)
          have HST0 := hide (fun i j c => tmp_step n zs e k a i j c)
          rw [HLD.out] at HST0
          have hXb : 0 ≤ tmp n zs e k a (num n (clq n zs e) a) (num n (clq n zs e) (tm n zs (iv n zs e a) x)) k ∧ tmp n zs e k a (num n (clq n zs e) a) (num n (clq n zs e) (tm n zs (iv n zs e a) x)) k ≤ 60 := by
            unfold tmp
            rw [if_neg (Nat.lt_irrefl k), if_pos rfl]
            have := tmk_le n zs e (num n (clq n zs e) a) (num n (clq n zs e) (tm n zs (iv n zs e a) x)) (lda n (clq n zs e) k) a
            omega
          generalize tm n zs (iv n zs e a) x = b at *
          generalize num n (clq n zs e) a = A at *
          generalize num n (clq n zs e) b = B at *
          have hA : A < m := hA0
          have hBm : B < m := hB9
          generalize hX9 : tmp n zs e k a A B k = X at *
          have HCC := hide (fun W (h : Cub W w0.heap.size m (tmp n zs e k a)) => show W.cell? ⟨pos w0.heap.size m A (B + 1), k, none⟩ = some (.int .i64 X) by
            have h1 := ((h.row A hA).cel B hBm).int (y := k) (by simp; exact hlt)
            rwa [show ((List.range m).map (tmp n zs e k a A B))[k]?.getD 0 = X by simp [hlt, hX9]] at h1)
          have HCF := hide (fun W (h : Cub W w0.heap.size m (tmp n zs e k a)) => ((h.row A hA).cel B hBm).frozen k)
          have HST := hide (fun W (h : Cub W w0.heap.size m (fun i j c => if i = A ∧ j = B ∧ c = k then X + 1 else tmp n zs e k a i j c)) => h.congr (G := tmp n zs e k (a + 1)) (fun i j c _ _ _ => HST0.out i j c))
          have hAi : (A : Int) < (m : Int) := by omega
          have hBi : (B : Int) < (m : Int) := by omega
          have hbi : (b : Int) < (n : Int) := by omega
          have PX9 := hX9
          clear hX9
          have hwX : IntKind.i64.wrap (X + 1) = X + 1 := by rw [IntKind.wrap_i64]; omega
          have hS8 : ∀ W, Below w0.heap.size w0 W → (Below w0.heap.size w0 W ∧ W.cell? ⟨w.heap.size, 0, none⟩ = some (.int .i64 n) ∧ W.cell? ⟨w.heap.size, 1, none⟩ = some (.slice va vl vc) ∧ W.cell? ⟨w.heap.size, 2, none⟩ = some (.int .i64 e) ∧ W.cell? ⟨w.heap.size, 3, none⟩ = some (.slice (some ⟨ub, uo, none⟩) n uc) ∧ W.cell? ⟨w.heap.size, 5, none⟩ = some (.slice (some ⟨nb, no, none⟩) n nc) ∧ W.cell? ⟨ub, uo + a, none⟩ = some (.int .i64 (iv n zs e a)) ∧ W.cell? ⟨qb, qo, none⟩ = some (.int .i64 x)) := fun W h => by
            have hX := blk_below hX0 h
            exact ⟨h, hX.cell 0, hX.cell 1, hX.cell 2, hX.cell 3, hX.cell 5, below_cell h ua9, below_cell h hqc⟩
          have hBc : Below w0.heap.size w0 wr.drew := bdrew hB
          replace hC : Cub wr.drew w0.heap.size m _ := hC.below (bdrew (Below.refl _ wr))
          go_wp2_with fail
          refine wp_region_held_drew (S := fun W => Below w0.heap.size w0 W ∧ W.cell? ⟨w.heap.size, 0, none⟩ = some (.int .i64 n) ∧ W.cell? ⟨w.heap.size, 1, none⟩ = some (.slice va vl vc) ∧ W.cell? ⟨w.heap.size, 2, none⟩ = some (.int .i64 e) ∧ W.cell? ⟨w.heap.size, 3, none⟩ = some (.slice (some ⟨ub, uo, none⟩) n uc) ∧ W.cell? ⟨w.heap.size, 5, none⟩ = some (.slice (some ⟨nb, no, none⟩) n nc) ∧ W.cell? ⟨ub, uo + a, none⟩ = some (.int .i64 (iv n zs e a)) ∧ W.cell? ⟨qb, qo, none⟩ = some (.int .i64 x)) (by kernel_rfl) (hS8 _ hBc) (fun hHeld => ?_)
          generalize wr.drew = wd8 at *
          refine wpAnyH_take (i := 0) (oi := ({ dst := some 27, op := Go.Op.fieldAddr 65 (Go.Operand.tmp 1) 0, type := 0, pos := _, after := _, guard := none } : Oper)) (v := ?_) rfl (by kernel_rfl) (by kernel_rfl) (by kernel_rfl) (fun _ _ _ h => h) (Or.inl ⟨by rfl, ?_⟩) (by assumption) ?_
          rotate_left
          · (intro w hSw; (try dsimp only at hSw); go_simp; try with_reducible rfl)
          simp only [Act.put, List.setIfInBounds_toArray, List.set_cons_zero, List.set_cons_succ]
          refine wpAnyH_take (i := 1) (oi := ({ dst := some 28, op := Go.Op.load 63 (Go.Operand.tmp 27), type := 63, pos := _, after := _, guard := none } : Oper)) (v := ?_) rfl (by kernel_rfl) (by kernel_rfl) (by kernel_rfl) (fun _ _ _ h => h) (Or.inl ⟨by rfl, ?_⟩) (by assumption) ?_
          rotate_left
          · (intro w hSw; (try dsimp only at hSw); go_simp; try with_reducible rfl)
          simp only [Act.put, List.setIfInBounds_toArray, List.set_cons_zero, List.set_cons_succ]
          refine wpAnyH_take (i := 2) (oi := ({ dst := some 29, op := Go.Op.fieldAddr 65 (Go.Operand.tmp 1) 0, type := 0, pos := _, after := _, guard := none } : Oper)) (v := ?_) rfl (by kernel_rfl) (by kernel_rfl) (by kernel_rfl) (fun _ _ _ h => h) (Or.inl ⟨by rfl, ?_⟩) (by assumption) ?_
          rotate_left
          · (intro w hSw; (try dsimp only at hSw); go_simp; try with_reducible rfl)
          simp only [Act.put, List.setIfInBounds_toArray, List.set_cons_zero, List.set_cons_succ]
          refine wpAnyH_take (i := 3) (oi := ({ dst := some 30, op := Go.Op.fieldAddr 63 (Go.Operand.tmp 29) 2, type := 0, pos := _, after := _, guard := none } : Oper)) (v := ?_) rfl (by kernel_rfl) (by kernel_rfl) (by kernel_rfl) (fun _ _ _ h => h) (Or.inl ⟨by rfl, ?_⟩) (by assumption) ?_
          rotate_left
          · (intro w hSw; (try dsimp only at hSw); go_simp; try with_reducible rfl)
          simp only [Act.put, List.setIfInBounds_toArray, List.set_cons_zero, List.set_cons_succ]
          refine wpAnyH_take (i := 4) (oi := ({ dst := some 31, op := Go.Op.load 22 (Go.Operand.tmp 30), type := 22, pos := _, after := _, guard := none } : Oper)) (v := ?_) rfl (by kernel_rfl) (by kernel_rfl) (by kernel_rfl) (fun _ _ _ h => h) (Or.inl ⟨by rfl, ?_⟩) (by assumption) ?_
          rotate_left
          · (intro w hSw; (try dsimp only at hSw); go_simp; try with_reducible rfl)
          simp only [Act.put, List.setIfInBounds_toArray, List.set_cons_zero, List.set_cons_succ]
          refine wpAnyH_take (i := 5) (oi := ({ dst := some 32, op := Go.Op.move (Go.Operand.tmp 6), type := 3, pos := _, after := _, guard := none } : Oper)) (v := ?_) rfl (by kernel_rfl) (by kernel_rfl) (by kernel_rfl) (fun _ _ _ h => h) (Or.inl ⟨by rfl, ?_⟩) (by assumption) ?_
          rotate_left
          · (intro w hSw; (try dsimp only at hSw); go_simp; try with_reducible rfl)
          simp only [Act.put, List.setIfInBounds_toArray, List.set_cons_zero, List.set_cons_succ]
          refine wpAnyH_take (i := 6) (oi := ({ dst := some 33, op := Go.Op.indexAddr 22 (Go.Operand.tmp 31) (Go.Operand.tmp 32), type := 0, pos := _, after := _, guard := none } : Oper)) (v := ?_) rfl (by kernel_rfl) (by kernel_rfl) (by kernel_rfl) (fun _ _ _ h => h) (Or.inl ⟨by rfl, ?_⟩) (by assumption) ?_
          rotate_left
          · (intro w hSw; (try dsimp only at hSw); go_simp; try with_reducible rfl)
          simp only [Act.put, List.setIfInBounds_toArray, List.set_cons_zero, List.set_cons_succ]
          refine wpAnyH_take (i := 7) (oi := ({ dst := some 34, op := Go.Op.load 3 (Go.Operand.tmp 33), type := 3, pos := _, after := _, guard := none } : Oper)) (v := ?_) rfl (by kernel_rfl) (by kernel_rfl) (by kernel_rfl) (fun _ _ _ h => h) (Or.inl ⟨by rfl, ?_⟩) (by assumption) ?_
          rotate_left
          · (intro w hSw; (try dsimp only at hSw); go_simp; try with_reducible rfl)
          simp only [Act.put, List.setIfInBounds_toArray, List.set_cons_zero, List.set_cons_succ]
          refine wpAnyH_take (i := 8) (oi := ({ dst := some 35, op := Go.Op.move (Go.Operand.tmp 5), type := 22, pos := _, after := _, guard := none } : Oper)) (v := ?_) rfl (by kernel_rfl) (by kernel_rfl) (by kernel_rfl) (fun _ _ _ h => h) (Or.inl ⟨by rfl, ?_⟩) (by assumption) ?_
          rotate_left
          · (intro w hSw; (try dsimp only at hSw); go_simp; try with_reducible rfl)
          simp only [Act.put, List.setIfInBounds_toArray, List.set_cons_zero, List.set_cons_succ]
          refine wpAnyH_take (i := 9) (oi := ({ dst := some 36, op := Go.Op.indexAddr 22 (Go.Operand.tmp 35) (Go.Operand.const (Go.Value.int Go.IntKind.i64 0)), type := 0, pos := _, after := _, guard := none } : Oper)) (v := ?_) rfl (by kernel_rfl) (by kernel_rfl) (by kernel_rfl) (fun _ _ _ h => h) (Or.inl ⟨by rfl, ?_⟩) (by assumption) ?_
          rotate_left
          · (intro w hSw; (try dsimp only at hSw); go_simp; try with_reducible rfl)
          simp only [Act.put, List.setIfInBounds_toArray, List.set_cons_zero, List.set_cons_succ]
          refine wpAnyH_take (i := 10) (oi := ({ dst := some 37, op := Go.Op.load 3 (Go.Operand.tmp 36), type := 3, pos := _, after := _, guard := none } : Oper)) (v := ?_) rfl (by kernel_rfl) (by kernel_rfl) (by kernel_rfl) (fun _ _ _ h => h) (Or.inl ⟨by rfl, ?_⟩) (by assumption) ?_
          rotate_left
          · (intro w hSw; (try dsimp only at hSw); go_simp; try with_reducible rfl)
          simp only [Act.put, List.setIfInBounds_toArray, List.set_cons_zero, List.set_cons_succ]
          refine wpAnyH_ready (rs := [11]) (by kernel_rfl) (by simp) (AllReadyH.cons (o := ({ dst := some 38, op := Go.Op.call { callee := Go.Callee.value (Go.Operand.func 66), args := #[Go.Operand.tmp 28, Go.Operand.tmp 34, Go.Operand.tmp 37], argTypes := #[63, 3, 3] }, type := 3, pos := _, after := _, guard := none } : Oper)) rfl (fun KK hK => ?_) AllReadyH.nil)
          go_simp
          refine (HPR.out _ hBc).mono ?_
          rintro x1 W1 ⟨rfl, hl1⟩
          replace hBc := bcat2 hBc hl1
          replace hC := hC.below hl1
          try go_wp2_with fail
          refine hK.out _ _ (hS8 _ hBc) (fun hHeld => ?_)
          clear hK
          try simp only [Act.put, List.setIfInBounds_toArray, List.set_cons_zero, List.set_cons_succ]
          refine wpAnyH_take (i := 12) (oi := ({ dst := some 7, op := Go.Op.assign (Go.Operand.tmp 38), type := 3, pos := _, after := _, guard := none } : Oper)) (v := ?_) rfl (by kernel_rfl) (by kernel_rfl) (by kernel_rfl) (fun _ _ _ h => h) (Or.inl ⟨by rfl, ?_⟩) (by assumption) ?_
          rotate_left
          · (intro w hSw; (try dsimp only at hSw); go_simp; try with_reducible rfl)
          simp only [Act.put, List.setIfInBounds_toArray, List.set_cons_zero, List.set_cons_succ]
          refine wpAnyH_done (by kernel_rfl) ?_ _
          clear hS8 hHeld
          have hS9 : ∀ W, Below w0.heap.size w0 W → ∀ {G}, Cub W w0.heap.size m G → (Below w0.heap.size w0 W ∧ W.cell? ⟨w.heap.size, 0, none⟩ = some (.int .i64 n) ∧ W.cell? ⟨w.heap.size, 1, none⟩ = some (.slice va vl vc) ∧ W.cell? ⟨w.heap.size, 2, none⟩ = some (.int .i64 e) ∧ W.cell? ⟨w.heap.size, 3, none⟩ = some (.slice (some ⟨ub, uo, none⟩) n uc) ∧ W.cell? ⟨w.heap.size, 5, none⟩ = some (.slice (some ⟨nb, no, none⟩) n nc) ∧ W.cell? ⟨nb, no + a, none⟩ = some (.int .i64 A) ∧ W.cell? ⟨nb, no + b, none⟩ = some (.int .i64 B) ∧ W.cell? ⟨w0.heap.size, A, none⟩ = some (.slice (some ⟨pos w0.heap.size m A 0, 0, none⟩) m m) ∧ W.cell? ⟨pos w0.heap.size m A 0, B, none⟩ = some (.slice (some ⟨pos w0.heap.size m A (B + 1), 0, none⟩) m m)) := fun W h G hG => by
            have hX := blk_below hX0 h
            exact ⟨h, hX.cell 0, hX.cell 1, hX.cell 2, hX.cell 3, hX.cell 5, below_cell h na9, below_cell h nb9, (hG.top.cell A).trans (hdL_at hA hA), ((hG.row A hA).row.cell B).trans (hdL_at hBm hBm)⟩
          clear ua9 hqc PX9
          go_wp2_with fail
          replace hBc := bdrew hBc
          replace hC : Cub W1.drew w0.heap.size m _ := hC.below (bdrew (Below.refl _ W1))
          refine wp_region_held_drew (S := fun W => Below w0.heap.size w0 W ∧ W.cell? ⟨w.heap.size, 0, none⟩ = some (.int .i64 n) ∧ W.cell? ⟨w.heap.size, 1, none⟩ = some (.slice va vl vc) ∧ W.cell? ⟨w.heap.size, 2, none⟩ = some (.int .i64 e) ∧ W.cell? ⟨w.heap.size, 3, none⟩ = some (.slice (some ⟨ub, uo, none⟩) n uc) ∧ W.cell? ⟨w.heap.size, 5, none⟩ = some (.slice (some ⟨nb, no, none⟩) n nc) ∧ W.cell? ⟨nb, no + a, none⟩ = some (.int .i64 A) ∧ W.cell? ⟨nb, no + b, none⟩ = some (.int .i64 B) ∧ W.cell? ⟨w0.heap.size, A, none⟩ = some (.slice (some ⟨pos w0.heap.size m A 0, 0, none⟩) m m) ∧ W.cell? ⟨pos w0.heap.size m A 0, B, none⟩ = some (.slice (some ⟨pos w0.heap.size m A (B + 1), 0, none⟩) m m)) (by kernel_rfl) (hS9 _ hBc hC) (fun hHeld => ?_)
          generalize W1.drew = wd9 at *
          refine wpAnyH_take (i := 0) (oi := ({ dst := some 39, op := Go.Op.move (Go.Operand.tmp 3), type := 39, pos := _, after := _, guard := none } : Oper)) (v := ?_) rfl (by kernel_rfl) (by kernel_rfl) (by kernel_rfl) (fun _ _ _ h => h) (Or.inl ⟨by rfl, ?_⟩) (by assumption) ?_
          rotate_left
          · (intro w hSw; (try dsimp only at hSw); go_simp; try with_reducible rfl)
          simp only [Act.put, List.setIfInBounds_toArray, List.set_cons_zero, List.set_cons_succ]
          refine wpAnyH_take (i := 1) (oi := ({ dst := some 40, op := Go.Op.fieldAddr 65 (Go.Operand.tmp 1) 2, type := 0, pos := _, after := _, guard := none } : Oper)) (v := ?_) rfl (by kernel_rfl) (by kernel_rfl) (by kernel_rfl) (fun _ _ _ h => h) (Or.inl ⟨by rfl, ?_⟩) (by assumption) ?_
          rotate_left
          · (intro w hSw; (try dsimp only at hSw); go_simp; try with_reducible rfl)
          simp only [Act.put, List.setIfInBounds_toArray, List.set_cons_zero, List.set_cons_succ]
          refine wpAnyH_take (i := 2) (oi := ({ dst := some 41, op := Go.Op.load 22 (Go.Operand.tmp 40), type := 22, pos := _, after := _, guard := none } : Oper)) (v := ?_) rfl (by kernel_rfl) (by kernel_rfl) (by kernel_rfl) (fun _ _ _ h => h) (Or.inl ⟨by rfl, ?_⟩) (by assumption) ?_
          rotate_left
          · (intro w hSw; (try dsimp only at hSw); go_simp; try with_reducible rfl)
          simp only [Act.put, List.setIfInBounds_toArray, List.set_cons_zero, List.set_cons_succ]
          refine wpAnyH_take (i := 3) (oi := ({ dst := some 42, op := Go.Op.move (Go.Operand.tmp 6), type := 3, pos := _, after := _, guard := none } : Oper)) (v := ?_) rfl (by kernel_rfl) (by kernel_rfl) (by kernel_rfl) (fun _ _ _ h => h) (Or.inl ⟨by rfl, ?_⟩) (by assumption) ?_
          rotate_left
          · (intro w hSw; (try dsimp only at hSw); go_simp; try with_reducible rfl)
          simp only [Act.put, List.setIfInBounds_toArray, List.set_cons_zero, List.set_cons_succ]
          refine wpAnyH_take (i := 4) (oi := ({ dst := some 43, op := Go.Op.indexAddr 22 (Go.Operand.tmp 41) (Go.Operand.tmp 42), type := 0, pos := _, after := _, guard := none } : Oper)) (v := ?_) rfl (by kernel_rfl) (by kernel_rfl) (by kernel_rfl) (fun _ _ _ h => h) (Or.inl ⟨by rfl, ?_⟩) (by assumption) ?_
          rotate_left
          · (intro w hSw; (try dsimp only at hSw); go_simp; try with_reducible rfl)
          simp only [Act.put, List.setIfInBounds_toArray, List.set_cons_zero, List.set_cons_succ]
          refine wpAnyH_take (i := 5) (oi := ({ dst := some 44, op := Go.Op.load 3 (Go.Operand.tmp 43), type := 3, pos := _, after := _, guard := none } : Oper)) (v := ?_) rfl (by kernel_rfl) (by kernel_rfl) (by kernel_rfl) (fun _ _ _ h => h) (Or.inl ⟨by rfl, ?_⟩) (by assumption) ?_
          rotate_left
          · (intro w hSw; (try dsimp only at hSw); go_simp; try with_reducible rfl)
          simp only [Act.put, List.setIfInBounds_toArray, List.set_cons_zero, List.set_cons_succ]
          refine wpAnyH_take (i := 6) (oi := ({ dst := some 45, op := Go.Op.indexAddr 39 (Go.Operand.tmp 39) (Go.Operand.tmp 44), type := 0, pos := _, after := _, guard := none } : Oper)) (v := ?_) rfl (by kernel_rfl) (by kernel_rfl) (by kernel_rfl) (fun _ _ _ h => h) (Or.inl ⟨by rfl, ?_⟩) (by assumption) ?_
          rotate_left
          · (intro w hSw; (try dsimp only at hSw); go_simp; try with_reducible rfl)
          simp only [Act.put, List.setIfInBounds_toArray, List.set_cons_zero, List.set_cons_succ]
          refine wpAnyH_take (i := 7) (oi := ({ dst := some 46, op := Go.Op.load 25 (Go.Operand.tmp 45), type := 25, pos := _, after := _, guard := none } : Oper)) (v := ?_) rfl (by kernel_rfl) (by kernel_rfl) (by kernel_rfl) (fun _ _ _ h => h) (Or.inl ⟨by rfl, ?_⟩) (by assumption) ?_
          rotate_left
          · (intro w hSw; (try dsimp only at hSw); go_simp; try with_reducible rfl)
          simp only [Act.put, List.setIfInBounds_toArray, List.set_cons_zero, List.set_cons_succ]
          refine wpAnyH_take (i := 8) (oi := ({ dst := some 47, op := Go.Op.fieldAddr 65 (Go.Operand.tmp 1) 2, type := 0, pos := _, after := _, guard := none } : Oper)) (v := ?_) rfl (by kernel_rfl) (by kernel_rfl) (by kernel_rfl) (fun _ _ _ h => h) (Or.inl ⟨by rfl, ?_⟩) (by assumption) ?_
          rotate_left
          · (intro w hSw; (try dsimp only at hSw); go_simp; try with_reducible rfl)
          simp only [Act.put, List.setIfInBounds_toArray, List.set_cons_zero, List.set_cons_succ]
          refine wpAnyH_take (i := 9) (oi := ({ dst := some 48, op := Go.Op.load 22 (Go.Operand.tmp 47), type := 22, pos := _, after := _, guard := none } : Oper)) (v := ?_) rfl (by kernel_rfl) (by kernel_rfl) (by kernel_rfl) (fun _ _ _ h => h) (Or.inl ⟨by rfl, ?_⟩) (by assumption) ?_
          rotate_left
          · (intro w hSw; (try dsimp only at hSw); go_simp; try with_reducible rfl)
          simp only [Act.put, List.setIfInBounds_toArray, List.set_cons_zero, List.set_cons_succ]
          refine wpAnyH_take (i := 10) (oi := ({ dst := some 49, op := Go.Op.move (Go.Operand.tmp 7), type := 3, pos := _, after := _, guard := none } : Oper)) (v := ?_) rfl (by kernel_rfl) (by kernel_rfl) (by kernel_rfl) (fun _ _ _ h => h) (Or.inl ⟨by rfl, ?_⟩) (by assumption) ?_
          rotate_left
          · (intro w hSw; (try dsimp only at hSw); go_simp; try with_reducible rfl)
          simp only [Act.put, List.setIfInBounds_toArray, List.set_cons_zero, List.set_cons_succ]
          refine wpAnyH_take (i := 11) (oi := ({ dst := some 50, op := Go.Op.indexAddr 22 (Go.Operand.tmp 48) (Go.Operand.tmp 49), type := 0, pos := _, after := _, guard := none } : Oper)) (v := ?_) rfl (by kernel_rfl) (by kernel_rfl) (by kernel_rfl) (fun _ _ _ h => h) (Or.inl ⟨by rfl, ?_⟩) (by assumption) ?_
          rotate_left
          · (intro w hSw; (try dsimp only at hSw); go_simp; try with_reducible rfl)
          simp only [Act.put, List.setIfInBounds_toArray, List.set_cons_zero, List.set_cons_succ]
          refine wpAnyH_take (i := 12) (oi := ({ dst := some 51, op := Go.Op.load 3 (Go.Operand.tmp 50), type := 3, pos := _, after := _, guard := none } : Oper)) (v := ?_) rfl (by kernel_rfl) (by kernel_rfl) (by kernel_rfl) (fun _ _ _ h => h) (Or.inl ⟨by rfl, ?_⟩) (by assumption) ?_
          rotate_left
          · (intro w hSw; (try dsimp only at hSw); go_simp; try with_reducible rfl)
          simp only [Act.put, List.setIfInBounds_toArray, List.set_cons_zero, List.set_cons_succ]
          refine wpAnyH_take (i := 13) (oi := ({ dst := some 52, op := Go.Op.indexAddr 25 (Go.Operand.tmp 46) (Go.Operand.tmp 51), type := 0, pos := _, after := _, guard := none } : Oper)) (v := ?_) rfl (by kernel_rfl) (by kernel_rfl) (by kernel_rfl) (fun _ _ _ h => h) (Or.inl ⟨by rfl, ?_⟩) (by assumption) ?_
          rotate_left
          · (intro w hSw; (try dsimp only at hSw); go_simp; try with_reducible rfl)
          simp only [Act.put, List.setIfInBounds_toArray, List.set_cons_zero, List.set_cons_succ]
          refine wpAnyH_take (i := 14) (oi := ({ dst := some 53, op := Go.Op.load 22 (Go.Operand.tmp 52), type := 22, pos := _, after := _, guard := none } : Oper)) (v := ?_) rfl (by kernel_rfl) (by kernel_rfl) (by kernel_rfl) (fun _ _ _ h => h) (Or.inl ⟨by rfl, ?_⟩) (by assumption) ?_
          rotate_left
          · (intro w hSw; (try dsimp only at hSw); go_simp; try with_reducible rfl)
          simp only [Act.put, List.setIfInBounds_toArray, List.set_cons_zero, List.set_cons_succ]
          refine wpAnyH_take (i := 15) (oi := ({ dst := some 54, op := Go.Op.move (Go.Operand.tmp 4), type := 3, pos := _, after := _, guard := none } : Oper)) (v := ?_) rfl (by kernel_rfl) (by kernel_rfl) (by kernel_rfl) (fun _ _ _ h => h) (Or.inl ⟨by rfl, ?_⟩) (by assumption) ?_
          rotate_left
          · (intro w hSw; (try dsimp only at hSw); go_simp; try with_reducible rfl)
          simp only [Act.put, List.setIfInBounds_toArray, List.set_cons_zero, List.set_cons_succ]
          refine wpAnyH_take (i := 16) (oi := ({ dst := some 55, op := Go.Op.indexAddr 22 (Go.Operand.tmp 53) (Go.Operand.tmp 54), type := 0, pos := _, after := _, guard := none } : Oper)) (v := ?_) rfl (by kernel_rfl) (by kernel_rfl) (by kernel_rfl) (fun _ _ _ h => h) (Or.inl ⟨by rfl, ?_⟩) (by assumption) ?_
          rotate_left
          · (intro w hSw; (try dsimp only at hSw); go_simp; try with_reducible rfl)
          simp only [Act.put, List.setIfInBounds_toArray, List.set_cons_zero, List.set_cons_succ]
          refine wpAnyH_ready (rs := [17]) (by kernel_rfl) (by simp) (AllReadyH.cons (o := ({ dst := some 56, op := Go.Op.load 3 (Go.Operand.tmp 55), type := 3, pos := _, after := _, guard := none } : Oper)) rfl (fun KK hK => ?_) AllReadyH.nil)
          have cc := HCC.out _ hC
          go_simp
          refine hK.out _ _ (hS9 _ hBc hC) (fun hHeld => ?_)
          clear hK
          try simp only [Act.put, List.setIfInBounds_toArray, List.set_cons_zero, List.set_cons_succ]
          clear cc
          refine wpAnyH_take (i := 18) (oi := ({ dst := some 57, op := Go.Op.binOp Go.BinOp.add 3 (Go.Operand.tmp 56) (Go.Operand.const (Go.Value.int Go.IntKind.i64 1)) 3, type := 3, pos := _, after := _, guard := none } : Oper)) (v := ?_) rfl (by kernel_rfl) (by kernel_rfl) (by kernel_rfl) (fun _ _ _ h => h) (Or.inl ⟨by rfl, ?_⟩) (by assumption) ?_
          rotate_left
          · (intro w hSw; (try dsimp only at hSw); go_simp; try with_reducible rfl)
          simp only [Act.put, List.setIfInBounds_toArray, List.set_cons_zero, List.set_cons_succ]
          refine wpAnyH_take (i := 19) (oi := ({ dst := some 58, op := Go.Op.indexAddr 22 (Go.Operand.tmp 53) (Go.Operand.tmp 54), type := 0, pos := _, after := _, guard := none } : Oper)) (v := ?_) rfl (by kernel_rfl) (by kernel_rfl) (by kernel_rfl) (fun _ _ _ h => h) (Or.inl ⟨by rfl, ?_⟩) (by assumption) ?_
          rotate_left
          · (intro w hSw; (try dsimp only at hSw); go_simp; try with_reducible rfl)
          simp only [Act.put, List.setIfInBounds_toArray, List.set_cons_zero, List.set_cons_succ]
          refine wpAnyH_ready (rs := [20]) (by kernel_rfl) (by simp) (AllReadyH.cons (o := ({ dst := none, op := Go.Op.store 3 (Go.Operand.tmp 58) (Go.Operand.tmp 57), type := 0, pos := _, after := _, guard := none } : Oper)) rfl (fun KK hK => ?_) AllReadyH.nil)
          have cc := HCC.out _ hC
          have cf := HCF.out _ hC
          have hC2 := hC.set (k := k) hA hBm (X + 1)
          replace hBc := hBc.setCell (p := ⟨pos w0.heap.size m A (B + 1), k, none⟩) (Nat.le_of_lt (pos_S _ _ _ _)) (.int .i64 (X + 1))
          go_simp
          refine hK.out _ _ (hS9 _ hBc hC2) (fun hHeld => ?_)
          clear hK
          try simp only [Act.put, List.setIfInBounds_toArray, List.set_cons_zero, List.set_cons_succ]
          clear cc cf
          refine wpAnyH_done (by kernel_rfl) ?_ _
          go_wp2
          go_roundw
          case rel => exact ⟨a + 1, by omega, by go_num, HST.out _ hC2, hBc⟩
          case measure => simp [intOf]; omega
        · have hai : ¬ (a : Int) < (n : Int) := by omega
          obtain rfl : a = n := by omega
          have hC2 := hC.congr (G := tmp a zs e (k + 1) 0) (fun i j c _ _ _ => tmp_next a zs e k i j c)
          go_wp2
          go_roundw
          case rel => exact ⟨k + 1, by omega, by go_num, hC2, hB⟩
          case measure => simp [intOf]; omega
    · have hki : ¬ (k : Int) < (m : Int) := by omega
      obtain rfl : k = m := by omega
      have hC2 := hC.congr (G := fun i j c => (tmk n zs e i j (lda n (clq n zs e) c) n : Nat)) (fun i j c _ _ hc => by unfold tmp; rw [if_pos hc])
      go_wp2
      go_ret
      exact ⟨_, rfl, hC2, bcat2 hB0 hB⟩
end Go.Proofs.YtobnfbnholbfoaaDoor

namespace Go.Proofs.YtobnfbnholbfoaaDoor
open Go Go.RowKit Go.Maps

theorem lda_num {n i : Nat} {f : Nat → Nat → Bool} (h : Prts n f) (hi : i < (rcs n f n).length) : lda n f i < n ∧ num n f (lda n f i) = i ∧ (lst n (f (lda n f i))).head? = some (lda n f i) ∧ (rcs n f n)[i]? = some (li (lst n (f (lda n f i)))) := by
  have hl : (fsts n f n).length = (rcs n f n).length := by
    rw [h.fsts_lt (Nat.le_refl _)]; unfold rcs; rw [List.length_map]
  obtain ⟨x, hx, hh, hat⟩ := rcs_at hi
  rw [lda_eq hh hat]
  refine ⟨hx, ?_, hh, hat⟩
  have hi2 : i < (fsts n f n).length := by omega
  have h1 := prts_num_at h hi2
  have h2 : (rcs n f n)[i]? = some (li (lst n (f (fsts n f n)[i]))) := by
    have h3 : rcs n f n = (fsts n f n).map fun a => li (lst n (f a)) := by
      rw [h.fsts_lt (Nat.le_refl _)]; rfl
    rw [h3, List.getElem?_map, List.getElem?_eq_getElem hi2]
    rfl
  have h4 : ∀ y, y ∈ fsts n f n → (lst n (f y)).head? = some y := fun y hy => by
    rw [h.fsts_lt (Nat.le_refl _), List.mem_filter, decide_eq_true_eq] at hy
    exact hy.2
  have h5 := lda_eq (h4 _ (List.getElem_mem hi2)) h2
  rw [lda_eq hh hat] at h5
  rw [h5]; exact h1
/-- The things of a class are those of its number. -/
theorem cls_num {n i a : Nat} {f : Nat → Nat → Bool} (h : Prts n f) (hi : i < (rcs n f n).length) (ha : a < n) : num n f a = i ↔ f (lda n f i) a = true := by
  obtain ⟨h1, h2, _, _⟩ := lda_num h hi
  rw [← prts_num_eq h h1 ha, h2]
  exact eq_comm
/-- How many things of a list, behind s, make x. -/
def cB (n : Nat) (zs : List Int) (s x : Nat) (L : List Nat) : Nat := (L.filter fun t => decide (tm n zs s t = x)).length
/-- In how many ways x is a product of things of two lists. -/
def cA (n : Nat) (zs : List Int) (x : Nat) (K L : List Nat) : Nat := (K.map fun s => cB n zs s x L).sum
theorem cB_le (n : Nat) (zs : List Int) (s x : Nat) (L : List Nat) : cB n zs s x L ≤ L.length := List.length_filter_le _ _
theorem cB_snoc (n : Nat) (zs : List Int) (s x t : Nat) (L : List Nat) : cB n zs s x (L ++ [t]) = cB n zs s x L + if tm n zs s t = x then 1 else 0 := by
  unfold cB
  rw [List.filter_append, List.length_append]
  by_cases h : tm n zs s t = x <;> simp [h]
theorem cA_snoc (n : Nat) (zs : List Int) (x s : Nat) (K L : List Nat) : cA n zs x (K ++ [s]) L = cA n zs x K L + cB n zs s x L := by
  unfold cA
  rw [List.map_append, List.sum_append]
  simp
theorem cA_le (n : Nat) (zs : List Int) (x : Nat) (K L : List Nat) : cA n zs x K L ≤ K.length * L.length := by
  unfold cA
  induction K with
  | nil => simp
  | cons a K ih =>
    have := cB_le n zs a x L
    rw [List.map_cons, List.sum_cons, List.length_cons, Nat.add_mul, Nat.one_mul]
    omega
theorem cB_one {n e s x : Nat} {zs : List Int} (g : IsGrp n zs e) (hs : s < n) (hx : x < n) (q : Nat → Bool) : cB n zs s x (lst n q) = if q (tm n zs (iv n zs e s) x) then 1 else 0 := by
  obtain ⟨hi, h1, h2, _⟩ := iv_spec g hs
  have hb := tm_lt g.tab hi hx
  have huni : ∀ t, t < n → (tm n zs s t = x ↔ t = tm n zs (iv n zs e s) x) := fun t ht => by
    constructor
    · intro h
      rw [← h, ← g.ass _ _ _ hi hs ht, h2, g.left t ht]
    · intro h
      rw [h, ← g.ass _ _ _ hs hi hx, h1, g.left x hx]
  unfold cB lst
  rw [List.filter_filter]
  have h3 : ((List.range n).filter fun a => decide (tm n zs s a = x) && q a) = (List.range n).filter fun a => decide (a = tm n zs (iv n zs e s) x) && q (tm n zs (iv n zs e s) x) := List.filter_congr fun a ha => by
    have ha := List.mem_range.1 ha
    by_cases h : a = tm n zs (iv n zs e s) x
    · rw [decide_eq_true ((huni a ha).2 h), decide_eq_true h, h]
    · rw [decide_eq_false (fun h9 => h ((huni a ha).1 h9)), decide_eq_false h]; rfl
  rw [h3]
  cases hq : q (tm n zs (iv n zs e s) x) with
  | false =>
    rw [List.filter_eq_nil_iff.2 (by simp)]
    simp
  | true =>
    have h4 : ((List.range n).filter fun a => decide (a = tm n zs (iv n zs e s) x) && true) = lst n (fun a => decide (a = tm n zs (iv n zs e s) x)) := by
      unfold lst
      exact List.filter_congr fun a _ => by simp
    rw [h4, one_lst hb]
    simp
theorem sum_ite (L : List Nat) (p : Nat → Bool) : (L.map fun s => if p s then 1 else 0).sum = (L.filter p).length := by
  induction L with
  | nil => rfl
  | cons a L ih =>
    rw [List.map_cons, List.sum_cons, ih, List.filter_cons]
    cases p a <;> simp <;> omega
/-- The ways that Times counts are those of the document. -/
theorem cA_tmk {n e i j x : Nat} {zs : List Int} (g : IsGrp n zs e) (hi : i < (rcs n (clq n zs e) n).length) (hj : j < (rcs n (clq n zs e) n).length) (hx : x < n) : cA n zs x (lst n (clq n zs e (lda n (clq n zs e) i))) (lst n (clq n zs e (lda n (clq n zs e) j))) = tmk n zs e i j x n := by
  have h := clq_parts g
  unfold cA
  have h1 : (lst n (clq n zs e (lda n (clq n zs e) i))).map (fun s => cB n zs s x (lst n (clq n zs e (lda n (clq n zs e) j)))) = (lst n (clq n zs e (lda n (clq n zs e) i))).map (fun s => if decide (num n (clq n zs e) (tm n zs (iv n zs e s) x) = j) then 1 else 0) := List.map_congr_left fun s hs => by
    have hsn := (mem_lst.1 hs).1
    have hb := tm_lt g.tab (iv_spec g hsn).1 hx
    rw [cB_one g hsn hx]
    by_cases hc : clq n zs e (lda n (clq n zs e) j) (tm n zs (iv n zs e s) x) = true
    · rw [if_pos hc, if_pos (decide_eq_true ((cls_num h hj hb).2 hc))]
    · rw [if_neg hc, if_neg (fun h9 => hc ((cls_num h hj hb).1 (of_decide_eq_true h9)))]
  rw [h1, sum_ite]
  unfold tmk lst
  rw [List.filter_filter]
  refine congrArg List.length (List.filter_congr fun a ha => ?_)
  have ha := List.mem_range.1 ha
  have h2 : decide (num n (clq n zs e) a = i) = clq n zs e (lda n (clq n zs e) i) a := by
    rw [Bool.eq_iff_iff, decide_eq_true_eq]; exact cls_num h hi ha
  rw [h2, Bool.and_comm]
end Go.Proofs.YtobnfbnholbfoaaDoor
