/- What the law SubNeedless answers. -/
import Derived.Test.YtelglfegpfhbpaaDoorSg11
import Derived.Test.YtelglfegpfhbpaaDoorSqr
import Derived.Deep.DeepCutAuto
namespace Go.Proofs.YtelglfegpfhbpaaDoor
open Go Go.RowKit

/-- A list that is new since B: it reads so, whatever lies ahead of B. -/
def Frs' (B : Nat) (W : World) (v : Value) (zs : List Int) : Prop := 0 < W.heap.size ∧ ∀ W' : World, (∀ g, B ≤ g → g < W.heap.size → W'.heap[g]? = W.heap[g]?) → W.heap.size ≤ W'.heap.size → Sl W' v zs
theorem Frs'.sl {B : Nat} {W : World} {v : Value} {zs : List Int} (h : Frs' B W v zs) : Sl W v zs := h.2 W (fun _ _ _ => rfl) (Nat.le_refl _)
theorem Frs'.set {B b o : Nat} {W : World} {v y : Value} {zs : List Int} (h : Frs' B W v zs) (hb : b < B) : Frs' B (W.setCell ⟨b, o, none⟩ y) v zs :=
  ⟨by rw [size_set]; exact h.1, fun W' hk hs => h.2 W' (fun g h1 h2 => (hk g h1 (by rw [size_set]; exact h2)).trans (Below.heap_setCell _ _ _ g (by simp; omega))) (by rw [size_set] at hs; exact hs)⟩
theorem Frs'.sl2 {B b o : Nat} {W : World} {v y : Value} {zs : List Int} (h : Frs' B W v zs) (hb : b < B) : Sl (W.setCell ⟨b, o, none⟩ y) v zs := (h.set hb).sl
theorem SlF.frs' {B : Nat} {W : World} {v : Value} {zs : List Int} (h : SlF B W v zs) (h0 : 0 < W.heap.size) : Frs' B W v zs := ⟨h0, fun _ hk hs => (h.keep hk hs).sl⟩
theorem ans' {f : Nat} {args : Array Value} {w : World} {zs : List Int} (h0 : 0 < w.heap.size) (h : Calls Tryd.prog f args w fun x w' => ∃ r, x = .returned (.tuple #[r, .agg #[.int .i64 0, .int .i64 0]]) ∧ SlF w.heap.size w' r zs ∧ Below w.heap.size w w') :
    Calls Tryd.prog f args w fun x w' => ∃ r1 r2 r3, x = .returned (.tuple #[.slice r1 r2 r3, .agg #[.int .i64 0, .int .i64 0]]) ∧ Frs' w.heap.size w' (.slice r1 r2 r3) zs ∧ Below w.heap.size w w' := by
  refine h.mono ?_
  rintro x w' ⟨r, rfl, hr, hb⟩
  obtain ⟨a, l, c, rfl⟩ := hr.sl.isSlice
  exact ⟨a, l, c, rfl, hr.frs' (Nat.lt_of_lt_of_le h0 hb.size), hb⟩
/-- What a cut leaves: a list, and a fault in a box of its own. -/
def TRel (w1 : World) (zs : List Int) (s6 s7 : Value) (W : World) : Prop := ∃ fb a l k, s6 = .slice a l k ∧ s7 = .pointer (some ⟨fb, 0, none⟩) ∧ Blk W fb 27 [.int .i64 0, .int .i64 0] ∧ Sl W (.slice a l k) zs ∧ Below w1.heap.size w1 W
set_option maxRecDepth 100000 in
set_option maxHeartbeats 2000000 in
theorem ndl_bad1 (N c i : Int) (v m : Value) (zs l : List Int) (w : World) (hv : Sl w v zs) (hm : Sl w m l) (hT : Tab w) (HF : Hid (∀ W, Below w.heap.size w W → Calls Tryd.prog 17 #[.agg #[.int .i64 N, v]] W fun x W' => x = .returned (.tuple #[.slice none 0 0, .agg #[.int .i64 c, .int .i64 i]]) ∧ Below W.heap.size W W')) (hc : c ≠ 0) :
    Calls Tryd.prog 5 #[.agg #[.int .i64 N, v], m] w fun x w' => x = .returned (.bool true) ∧ Below w.heap.size w w' := by
  obtain ⟨v1, v2, v3, rfl⟩ := hv.isSlice
  obtain ⟨m1, m2, m3, rfl⟩ := hm.isSlice
  have hcb : (c != 0) = true := by simpa using hc
  have hB0 : Below w.heap.size w ((w.alloc (.cells #[.int .i64 N, .slice v1 v2 v3] 24)).alloc (.cells #[.slice m1 m2 m3] 22)) := (balloc w _).alloc (by simp) _
  have hX0 : BoxG ((w.alloc (.cells #[.int .i64 N, .slice v1 v2 v3] 24)).alloc (.cells #[.slice m1 m2 m3] 22)) w.heap.size N (.slice v1 v2 v3) := (blk0 _ _).alloc _
  have hM0 := Boxed.new (w.alloc (.cells #[.int .i64 N, .slice v1 v2 v3] 24)) 22 (.slice m1 m2 m3)
  rw [World.size_alloc] at hM0
  obtain ⟨w0, hw0⟩ : ∃ w0, w0 = (w.alloc (.cells #[.int .i64 N, .slice v1 v2 v3] 24)).alloc (.cells #[.slice m1 m2 m3] 22) := ⟨_, rfl⟩
  rw [← hw0] at hB0 hX0 hM0
  have HST := hide (subBegun_any w0 (hT.below hB0))
  go_enter Tryd.func5, Tryd.ntmps5
  go_wp2_with fail
  rw [← hw0]
  clear hw0
  refine HST.out.mono ?_
  rintro x w1 ⟨rfl, hb1⟩
  clear HST
  have hB := bcat2 hB0 hb1
  have hX := blk_below hX0 hb1
  have hM := Boxed.below hM0 hb1
  clear hb1 hX0 hM0 hB0
  obtain ⟨c0, c1, _, _⟩ := hX.two
  go_wp2_with fail
  clear c0 c1
  refine (HF.out w1 hB).mono ?_
  rintro x w2 ⟨rfl, hb2⟩
  have hF3 : Blk ((w2.alloc (.cells #[.slice none 0 0] 22)).alloc (.cells #[.int .i64 c, .int .i64 i] 27)) (w2.heap.size + 1) 27 [.int .i64 c, .int .i64 i] := by
    have h := blk0 (w := w2.alloc (.cells #[.slice none 0 0] 22)) (T := 27) (.int .i64 c) (.int .i64 i)
    rw [World.size_alloc] at h
    exact h
  have hb3 := bcat2 hb2 ((balloc w2 (.cells #[.slice none 0 0] 22)).alloc (by simp) (.cells #[.int .i64 c, .int .i64 i] 27))
  have hB3 := bcat2 hB hb3
  obtain ⟨t0, t1, _, _⟩ := hF3.two
  go_wp2
  go_ret
  exact ⟨rfl, hB3⟩
set_option maxRecDepth 100000 in
set_option maxHeartbeats 2000000 in
theorem ndl_bad2 (n e : Nat) (v m : Value) (zs l : List Int) (w : World) (hv : Sl w v zs) (hg : IsGrp n zs e) (h24 : n ≤ 24) (hm : Sl w m l) (hT : Tab w) (hc : (sfault n zs l).1 ≠ 0) :
    Calls Tryd.prog 5 #[.agg #[.int .i64 n, v], m] w fun x w' => x = .returned (.bool true) ∧ Below w.heap.size w w' := by
  obtain ⟨v1, v2, v3, rfl⟩ := hv.isSlice
  obtain ⟨m1, m2, m3, rfl⟩ := hm.isSlice
  have HF := hide (fun W (h : Below w.heap.size w W) => show Calls Tryd.prog 17 #[.agg #[.int .i64 n, .slice v1 v2 v3]] W fun x w' => ∃ (P : List (Nat → Bool)) (r1 : Option Addr) (r2 r3 : Nat), x = .returned (.tuple #[.slice r1 r2 r3, .agg #[.int .i64 0, .int .i64 0]]) ∧ (∃ k, P.length ≤ k ∧ SInv n zs e P k 0) ∧ SlF W.heap.size w' (.slice r1 r2 r3) (li (lst n (fun x => (grtA n P).all fun s => s.testBit x))) ∧ Below W.heap.size W w' by
    refine (frat_good n e (.slice v1 v2 v3) zs W (hv.below h) hg (hT.below h) h24).mono ?_
    rintro x w' ⟨r, P, rfl, hI, hr, hb⟩
    obtain ⟨a, b, c, rfl⟩ := hr.sl.isSlice
    exact ⟨P, a, b, c, rfl, hI, hr, hb⟩)
  have HM := hide (fun W (h : Below w.heap.size w W) => mde_bad n (.slice v1 v2 v3) (.slice m1 m2 m3) zs l W (hv.below h) (hm.below h) hc)
  obtain ⟨c, i, hci⟩ : ∃ c i, sfault n zs l = (c, i) := ⟨_, _, rfl⟩
  rw [hci] at HM hc
  simp only at HM hc
  clear hci
  have hcb : (c != 0) = true := by simpa using hc
  have hB0 : Below w.heap.size w ((w.alloc (.cells #[.int .i64 n, .slice v1 v2 v3] 24)).alloc (.cells #[.slice m1 m2 m3] 22)) := (balloc w _).alloc (by simp) _
  have hX0 : BoxG ((w.alloc (.cells #[.int .i64 n, .slice v1 v2 v3] 24)).alloc (.cells #[.slice m1 m2 m3] 22)) w.heap.size n (.slice v1 v2 v3) := (blk0 _ _).alloc _
  have hM0 := Boxed.new (w.alloc (.cells #[.int .i64 n, .slice v1 v2 v3] 24)) 22 (.slice m1 m2 m3)
  rw [World.size_alloc] at hM0
  obtain ⟨w0, hw0⟩ : ∃ w0, w0 = (w.alloc (.cells #[.int .i64 n, .slice v1 v2 v3] 24)).alloc (.cells #[.slice m1 m2 m3] 22) := ⟨_, rfl⟩
  rw [← hw0] at hB0 hX0 hM0
  have HST := hide (subBegun_any w0 (hT.below hB0))
  go_enter Tryd.func5, Tryd.ntmps5
  go_wp2_with fail
  rw [← hw0]
  clear hw0
  refine HST.out.mono ?_
  rintro x w1 ⟨rfl, hb1⟩
  clear HST
  have hB := bcat2 hB0 hb1
  have hX := blk_below hX0 hb1
  have hM := Boxed.below hM0 hb1
  clear hb1 hX0 hM0 hB0
  obtain ⟨c0, c1, _, _⟩ := hX.two
  go_wp2_with fail
  clear c0 c1
  refine (HF.out w1 hB).mono ?_
  rintro x w2 ⟨P, r1, r2, r3, rfl, hI, hr, hb2⟩
  have hF : Blk ((w2.alloc (.cells #[.slice r1 r2 r3] 22)).alloc (.cells #[.int .i64 0, .int .i64 0] 27)) (w2.heap.size + 1) 27 [.int .i64 0, .int .i64 0] := by
    have h := blk0 (w := w2.alloc (.cells #[.slice r1 r2 r3] 22)) (T := 27) (.int .i64 0) (.int .i64 0)
    rw [World.size_alloc] at h
    exact h
  have hA : Boxed ((w2.alloc (.cells #[.slice r1 r2 r3] 22)).alloc (.cells #[.int .i64 0, .int .i64 0] 27)) w2.heap.size 22 (.slice r1 r2 r3) := (Boxed.new w2 22 (.slice r1 r2 r3)).alloc _
  have hb23 := (balloc w2 (.cells #[.slice r1 r2 r3] 22)).alloc (by simp) (.cells #[.int .i64 0, .int .i64 0] 27)
  have hb3 := bcat2 hb2 hb23
  have hr := hr.sl.below hb23
  have hX := blk_below hX hb3
  have hM := Boxed.below hM hb3
  have hzw2 : w.heap.size ≤ w2.heap.size := (bcat2 hB hb2).size
  have hB := bcat2 hB hb3
  obtain ⟨t0, t1, _, _⟩ := hF.two
  obtain ⟨c0, c1, _, _⟩ := hX.two
  have c2 := hM.cell
  have hz3 : ((w2.alloc (.cells #[.slice r1 r2 r3] 22)).alloc (.cells #[.int .i64 0, .int .i64 0] 27)).heap.size = w2.heap.size + 2 := by simp
  go_wp2_with fail
  clear t0 t1 c0 c1 c2 hb3 hb23
  generalize (w2.alloc (.cells #[.slice r1 r2 r3] 22)).alloc (.cells #[.int .i64 0, .int .i64 0] 27) = w3 at *
  refine (HM.out w3 hB).mono ?_
  rintro x w4 ⟨rfl, hb4⟩
  have hF4 := blk_below hF hb4
  have hB4 := bcat2 hB hb4
  obtain ⟨y0, y1, fy0, fy1⟩ := hF4.two
  obtain ⟨hR6, hB6⟩ := put2 hF4 hB4 (by omega) c i
  obtain ⟨z0, z1, _, _⟩ := hR6.two
  clear hF hF4 hr hA hX hM HF HM
  go_wp2
  go_ret
  exact ⟨rfl, hB6⟩
end Go.Proofs.YtelglfegpfhbpaaDoor
