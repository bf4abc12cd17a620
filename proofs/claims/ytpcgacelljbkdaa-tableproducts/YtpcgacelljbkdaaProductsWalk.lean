/- TableProducts returns true at every two tables that fit the machine. -/
import Derived.Test.YtpcgacelljbkdaaBegun
import Derived.Test.YtpcgacelljbkdaaFrame
import Derived.Test.YtpcgacelljbkdaaNog
import Derived.Deep.DeepCutAuto
namespace Go.Proofs.Ytpcgacelljbkdaa
open Go Go.RowKit

theorem bAlloc {a W : World} {o : Obj} (h : Below a.heap.size a W) : Below a.heap.size a (W.alloc o) := h.alloc h.size o
theorem bSet {a W : World} {b o : Nat} {v : Value} (h : Below a.heap.size a W) (hb : a.heap.size ≤ b) : Below a.heap.size a (W.setCell ⟨b, o, none⟩ v) := h.setCell (p := ⟨b, o, none⟩) hb v
/-- Blocks that were made ahead of a call. -/
theorem Blk.up {W U : World} {b : Nat} {T : TypeId} {vs : List Value} (h : Blk W b T vs) (k : Below W.heap.size W U) : Blk U b T vs := h.of_eq (k.block _ h.lt)
theorem und {W U : World} (k : Below W.drew.heap.size W.drew U) : Below W.heap.size W U := ⟨k.os, k.tape, k.output, k.size, k.block⟩
theorem mk1 {X U : World} {T : TypeId} {x y : Value} (k : Below (X.alloc (.cells #[x, y] T)).heap.size (X.alloc (.cells #[x, y] T)) U) : Blk U X.heap.size T [x, y] := (blk0 x y).up k
theorem mk2 {X U : World} {T : TypeId} {x y : Value} {o : Obj} (k : Below ((X.alloc (.cells #[x, y] T)).alloc o).heap.size ((X.alloc (.cells #[x, y] T)).alloc o) U) : Blk U X.heap.size T [x, y] := ((blk0 x y).alloc o).up k
theorem mk3 {X U : World} {T : TypeId} {x y : Value} {o : Obj} (k : Below ((X.alloc o).alloc (.cells #[x, y] T)).heap.size ((X.alloc o).alloc (.cells #[x, y] T)) U) : Blk U (X.heap.size + 1) T [x, y] := by
  have := (blk0 (w := X.alloc o) (T := T) x y).up k
  rwa [World.size_alloc] at this
theorem Blk.ne {W : World} {b c : Nat} {vs us : List Value} (h : Blk W b 24 vs) (k : Blk W c 27 us) : b ≠ c := by
  rintro rfl
  have := (show W.heap[b]? = _ from h).symm.trans k
  simp at this
/-- A slice that reads as zs, and lies from base on where there is something in it. -/
def SlX (base : Nat) (w : World) (v : Value) (zs : List Int) : Prop := ∃ a cap pb po, v = .slice a zs.length cap ∧ Reads w a pb po zs ∧ (0 < zs.length → pb < w.heap.size ∧ base ≤ pb) ∧ zs.length ≤ cap ∧ cap ≤ maxLen
theorem SlX.of {base : Nat} {w : World} {v : Value} {zs : List Int} (h : SlF base w v zs) : SlX base w v zs := by
  obtain ⟨a, cap, pb, po, h1, h2, h3, h4, h5, h6⟩ := h
  exact ⟨a, cap, pb, po, h1, h2, fun _ => ⟨h3, h6⟩, h4, h5⟩
theorem SlX.nil {base : Nat} {w : World} : SlX base w (.slice none 0 0) [] := ⟨none, 0, 0, 0, rfl, ⟨by simp, by simp⟩, by simp, by simp, by unfold maxLen; omega⟩
theorem SlX.move {base : Nat} {w w' : World} {v : Value} {zs : List Int} (h : SlX base w v zs) (hk : ∀ b, base ≤ b → b < w.heap.size → w'.heap[b]? = w.heap[b]?) (hs : w.heap.size ≤ w'.heap.size) (h0 : 0 < w'.heap.size) : Sl w' v zs := by
  obtain ⟨a, cap, pb, po, h1, h2, h3, h4, h5⟩ := h
  rcases Nat.eq_zero_or_pos zs.length with hz | hz
  · exact ⟨a, cap, 0, 0, h1, ⟨fun h => by omega, fun j hj => by omega⟩, h0, h4, h5⟩
  · obtain ⟨p1, p2⟩ := h3 hz
    exact ⟨a, cap, pb, po, h1, h2.of_eq (hk pb p2 p1), by omega, h4, h5⟩

theorem size_drew (w : World) : w.drew.heap.size = w.heap.size := rfl
/-- What stands in the boxes of a group and of its fault. -/
def PRel (w0 : World) (Q c i : Int) (T : List Int) (s5 s6 : Value) (wx : World) : Prop := ∃ b5 b6 a9 l9 cap9, s5 = .pointer (some ⟨b5, 0, none⟩) ∧ s6 = .pointer (some ⟨b6, 0, none⟩) ∧ Blk wx b5 24 [.int .i64 Q, .slice a9 l9 cap9] ∧ Blk wx b6 27 [.int .i64 c, .int .i64 i] ∧ Sl wx (.slice a9 l9 cap9) T ∧ Below w0.heap.size w0 wx
variable {w0 U : World} {Q c i : Int} {T : List Int} {a9 : Option Addr} {l9 cap9 base b5 b6 : Nat} {x y x' y' : Value}
theorem prA1 (h : SlX base U (.slice a9 l9 cap9) T) (hU : Below w0.heap.size w0 U) : PRel w0 Q c i T (.pointer (some ⟨U.heap.size, 0, none⟩)) (.pointer (some ⟨U.heap.size + 1, 0, none⟩)) ((U.alloc (.cells #[.int .i64 Q, .slice a9 l9 cap9] 24)).alloc (.cells #[.int .i64 c, .int .i64 i] 27)) :=
  ⟨_, _, _, _, _, rfl, rfl, (blk0 _ _).alloc _, blkNew _ _ _ _ _ (by simp), h.move (fun b _ hl => by rw [Below.heap_alloc _ _ _ (by simp; omega), Below.heap_alloc _ _ _ hl]) (by simp; omega) (by simp), bAlloc (bAlloc hU)⟩
theorem prA2 (h : SlX base U (.slice a9 l9 cap9) T) (hU : Below w0.heap.size w0 U) : PRel w0 Q c i T (.pointer (some ⟨U.heap.size + 1, 0, none⟩)) (.pointer (some ⟨U.heap.size, 0, none⟩)) ((U.alloc (.cells #[.int .i64 c, .int .i64 i] 27)).alloc (.cells #[.int .i64 Q, .slice a9 l9 cap9] 24)) :=
  ⟨_, _, _, _, _, rfl, rfl, blkNew _ _ _ _ _ (by simp), (blk0 _ _).alloc _, h.move (fun b _ hl => by rw [Below.heap_alloc _ _ _ (by simp; omega), Below.heap_alloc _ _ _ hl]) (by simp; omega) (by simp), bAlloc (bAlloc hU)⟩
theorem prB1 (h : SlX base U (.slice a9 l9 cap9) T) (hU : Below w0.heap.size w0 U) (g : Blk U b5 24 [x, y]) (h1 : w0.heap.size ≤ b5) (h2 : b5 < base) : PRel w0 Q c i T (.pointer (some ⟨b5, 0, none⟩)) (.pointer (some ⟨U.heap.size, 0, none⟩)) (((U.setCell ⟨b5, 0, none⟩ (.int .i64 Q)).setCell ⟨b5, 1, none⟩ (.slice a9 l9 cap9)).alloc (.cells #[.int .i64 c, .int .i64 i] 27)) :=
  ⟨_, _, _, _, _, rfl, rfl, ((g.set 0 _).set 1 _).alloc _, blkNew _ _ _ _ _ (by rw [size_set, size_set]), h.move (fun b hb hl => by
    rw [Below.heap_alloc _ _ _ (by rw [size_set, size_set]; exact hl), Below.heap_setCell _ _ _ _ (by show b ≠ b5; omega), Below.heap_setCell _ _ _ _ (by show b ≠ b5; omega)]) (by simp) (by simp), bAlloc (bSet (bSet hU h1) h1)⟩
theorem prB2 (h : SlX base U (.slice a9 l9 cap9) T) (hU : Below w0.heap.size w0 U) (g : Blk U b6 27 [x, y]) (h1 : w0.heap.size ≤ b6) (h2 : b6 < base) : PRel w0 Q c i T (.pointer (some ⟨U.heap.size, 0, none⟩)) (.pointer (some ⟨b6, 0, none⟩)) (((U.setCell ⟨b6, 0, none⟩ (.int .i64 c)).setCell ⟨b6, 1, none⟩ (.int .i64 i)).alloc (.cells #[.int .i64 Q, .slice a9 l9 cap9] 24)) :=
  ⟨_, _, _, _, _, rfl, rfl, blkNew _ _ _ _ _ (by rw [size_set, size_set]), ((g.set 0 _).set 1 _).alloc _, h.move (fun b hb hl => by
    rw [Below.heap_alloc _ _ _ (by rw [size_set, size_set]; exact hl), Below.heap_setCell _ _ _ _ (by show b ≠ b6; omega), Below.heap_setCell _ _ _ _ (by show b ≠ b6; omega)]) (by simp) (by simp), bAlloc (bSet (bSet hU h1) h1)⟩
theorem prC (h : SlX base U (.slice a9 l9 cap9) T) (hU : Below w0.heap.size w0 U) (g : Blk U b5 24 [x, y]) (f : Blk U b6 27 [x', y']) (h1 : w0.heap.size ≤ b5) (h2 : b5 < base) (h3 : w0.heap.size ≤ b6) (h4 : b6 < base) : PRel w0 Q c i T (.pointer (some ⟨b5, 0, none⟩)) (.pointer (some ⟨b6, 0, none⟩)) ((((U.setCell ⟨b5, 0, none⟩ (.int .i64 Q)).setCell ⟨b5, 1, none⟩ (.slice a9 l9 cap9)).setCell ⟨b6, 0, none⟩ (.int .i64 c)).setCell ⟨b6, 1, none⟩ (.int .i64 i)) := by
  have hne := g.ne f
  exact ⟨_, _, _, _, _, rfl, rfl, (((g.set 0 _).set 1 _).other (p := ⟨b6, 0, none⟩) hne _).other (p := ⟨b6, 1, none⟩) hne _, (((f.other (p := ⟨b5, 0, none⟩) hne.symm _).other (p := ⟨b5, 1, none⟩) hne.symm _).set 0 _).set 1 _, h.move (fun b hb hl => by
    rw [Below.heap_setCell _ _ _ _ (by show b ≠ b6; omega), Below.heap_setCell _ _ _ _ (by show b ≠ b6; omega), Below.heap_setCell _ _ _ _ (by show b ≠ b5; omega), Below.heap_setCell _ _ _ _ (by show b ≠ b5; omega)]) (by simp) (by have := g.lt; simp; omega), bSet (bSet (bSet (bSet hU h1) h1) h3) h3⟩

set_option maxRecDepth 100000 in
set_option maxHeartbeats 8000000 in
theorem noGroup_zero (a : Option Addr) (cap : Nat) (w : World) : Calls Try.prog 39 #[.agg #[.int .i64 0, .slice a 0 cap]] w fun r w' => r = .returned (.bool true) ∧ Below w.heap.size w w' := by
  have hB0 : Below w.heap.size w (w.alloc (.cells #[.int .i64 0, .slice a 0 cap] 24)) := balloc w _
  have N0 : Blk (w.alloc (.cells #[.int .i64 0, .slice a 0 cap] 24)) w.heap.size 24 [.int .i64 0, .slice a 0 cap] := blk0 _ _
  obtain ⟨c0, c1, _, _⟩ := N0.two
  go_enter Try.func39, Try.ntmps39
  go_wp2
  go_ret
  exact ⟨rfl, hB0⟩
theorem groupFault_ok {n e : Nat} {zs : List Int} (h : IsGrp n zs e) (v : Value) (w : World) (hv : Sl w v zs) :
    Calls Try.prog 18 #[.agg #[.int .i64 n, v]] w fun x w' => x = .returned (.agg #[.int .i64 0, .int .i64 0]) ∧ Below w.heap.size w w' := by
  have h1 := groupFault_any n v zs w hv
  rw [gfault_of_grp h] at h1
  exact h1
theorem M_is {n a b r : Nat} {zs : List Int} (h : IsTab n zs) (ha : a < n) (hb : b < n) (hr : tm n zs a b = r) (v : Value) (w : World) (hv : Sl w v zs) :
    Calls Try.prog 40 #[.agg #[.int .i64 n, v], .int .i64 a, .int .i64 b] w fun e w' => e = .returned (.int .i64 r) ∧ Below w.heap.size w w' := by
  have h1 := M_ok n v zs a b w h hv ha hb
  rw [hr] at h1
  exact h1

set_option maxRecDepth 100000 in
set_option maxHeartbeats 16000000 in
theorem products_any (N M Q c i : Int) (u v : Value) (zs ys T : List Int) (w : World) (hu : SlA w u zs) (hv : SlA w v ys) (hbz : zs.length * 8 ≤ 140737488355328) (hby : ys.length * 8 ≤ 140737488355328)
    (hpr : ∀ (x y : Value) (W : World), Sl W x zs → Sl W y ys → Calls Try.prog 44 #[.agg #[.int .i64 N, x], .agg #[.int .i64 M, y]] W fun r w' => ∃ a9 l9 cap9, r = .returned (.tuple #[.agg #[.int .i64 Q, .slice a9 l9 cap9], .agg #[.int .i64 c, .int .i64 i]]) ∧ SlX W.heap.size w' (.slice a9 l9 cap9) T ∧ Below W.heap.size W w')
    (hcase : (gfault N zs = (c, i) ∧ c ≠ 0 ∧ Q = 0 ∧ T = []) ∨ (gfault N zs = (0, 0) ∧ gfault M ys = (c, i) ∧ c ≠ 0 ∧ Q = 0 ∧ T = [])
      ∨ (∃ n m e d : Nat, N = n ∧ M = m ∧ IsGrp n zs e ∧ IsGrp m ys d ∧ 60 < n * m ∧ c = 9 ∧ i = 0 ∧ Q = 0 ∧ T = [])
      ∨ (∃ n m e d : Nat, N = n ∧ M = m ∧ IsGrp n zs e ∧ IsGrp m ys d ∧ n * m ≤ 60 ∧ c = 0 ∧ i = 0 ∧ Q = (n * m : Nat) ∧ T = mkT (n * m) (prodF n m zs ys))) :
    Calls Try.prog 6 #[.agg #[.int .i64 N, u], .agg #[.int .i64 M, v]] w fun r w' => r = .returned (.bool true) ∧ Below w.heap.size w w' := by
  obtain ⟨w0, hw0⟩ : ∃ w0, w0 = (w.alloc (.cells #[.int .i64 N, u] 24)).alloc (.cells #[.int .i64 M, v] 24) := ⟨_, rfl⟩
  have hB0 : Below w.heap.size w w0 := by rw [hw0]; exact (balloc w _).alloc (by simp) _
  have hg0 : BoxG w0 w.heap.size N u := by rw [hw0]; exact (blk0 _ _).alloc _
  have hh0 : BoxG w0 (w.heap.size + 1) M v := by rw [hw0]; exact blkNew _ _ _ _ _ (by simp)
  have hu0 := hu.up hB0 (by have := hg0.lt; omega)
  have hv0 := hv.up hB0 (by have := hg0.lt; omega)
  obtain ⟨g0, g1, _, _⟩ := hg0.two
  obtain ⟨h0, h1, _, _⟩ := hh0.two
  have Ho1 := hide (fun (W : World) (h : Sl W u zs) => ownGroup_any N u zs W h hbz)
  have Ho2 := hide (fun (W : World) (h : Sl W v ys) => ownGroup_any M v ys W h hby)
  have HPR := hide hpr
  have hS : ∀ W, Below w0.heap.size w0 W → (Below w0.heap.size w0 W ∧ W.cell? ⟨w.heap.size, 0, none⟩ = some (.int .i64 N) ∧ W.cell? ⟨w.heap.size, 1, none⟩ = some u ∧ W.cell? ⟨w.heap.size + 1, 0, none⟩ = some (.int .i64 M) ∧ W.cell? ⟨w.heap.size + 1, 1, none⟩ = some v) := fun W h => ⟨h, below_cell h g0, below_cell h g1, below_cell h h0, below_cell h h1⟩
  have hS0 := hS _ (bdrew (Below.refl _ w0))
  obtain ⟨au, cu, _, _, rfl, _⟩ := id hu0
  obtain ⟨av, cv, _, _, rfl, _⟩ := id hv0
  generalize zs.length = lu at *
  generalize ys.length = lv at *
  have HCASE := hide hcase
  clear hpr g0 g1 h0 h1 hcase
  go_enter Try.func6, Try.ntmps6
  go_wp2_with fail
  rw [← hw0]
  clear hw0
  go_cut [5, 6] (fun s5 s6 wx => PRel w0 Q c i T s5 s6 wx)
  case first =>
    clear HCASE
    go_region_held3 (fun W => Below w0.heap.size w0 W ∧ W.cell? ⟨w.heap.size, 0, none⟩ = some (.int .i64 N) ∧ W.cell? ⟨w.heap.size, 1, none⟩ = some (.slice au lu cu) ∧ W.cell? ⟨w.heap.size + 1, 0, none⟩ = some (.int .i64 M) ∧ W.cell? ⟨w.heap.size + 1, 1, none⟩ = some (.slice av lv cv))
      (first | exact hS0 | assumption | exact hS _ (bcat2 (And.left ‹_›) hl1) | exact hS _ (bcat2 (And.left ‹_›) (balloc _ _)) | (refine hS _ ?_; repeat (first | exact hU3 | (refine bAlloc ?_) | (refine bSet ?_ (by omega)))))
      (first
        | (go_at_call_of 13 (Value.agg #[Value.int IntKind.i64 N, Value.slice au lu cu]); refine (Ho1.out _ (hu0.below (And.left ‹_›))).mono ?_; rintro r U1 ⟨x1, rfl, hx1, hl1⟩; have hU1 := bcat2 (And.left ‹_›) hl1; have hs1 := hU1.size; have hz1 := hl1.size; (first | (with_reducible have gG := mk1 (T := 24) hl1) | (with_reducible have gG := mk1 (T := 24) (und hl1)) | skip); (first | (with_reducible have gG := mk2 (T := 24) hl1) | (with_reducible have gG := mk2 (T := 24) (und hl1)) | skip); (first | (with_reducible have gG := mk3 (T := 24) hl1) | (with_reducible have gG := mk3 (T := 24) (und hl1)) | skip); (first | (with_reducible have gF := mk1 (T := 27) hl1) | (with_reducible have gF := mk1 (T := 27) (und hl1)) | skip); (first | (with_reducible have gF := mk2 (T := 27) hl1) | (with_reducible have gF := mk2 (T := 27) (und hl1)) | skip); (first | (with_reducible have gF := mk3 (T := 27) hl1) | (with_reducible have gF := mk3 (T := 27) (und hl1)) | skip); obtain ⟨ax, cx, _, _, rfl, _⟩ := id hx1)
        | (go_at_call_of 13 (Value.agg #[Value.int IntKind.i64 M, Value.slice av lv cv]); refine (Ho2.out _ (hv0.below (And.left ‹_›))).mono ?_; rintro r U2 ⟨x2, rfl, hx2, hl1⟩; have hlB := hl1; have hU2 := bcat2 (And.left ‹_›) hl1; have hs2 := hU2.size; have hz2 := hl1.size; (first | (with_reducible have gG := mk1 (T := 24) hl1) | (with_reducible have gG := mk1 (T := 24) (und hl1)) | skip); (first | (with_reducible have gG := mk2 (T := 24) hl1) | (with_reducible have gG := mk2 (T := 24) (und hl1)) | skip); (first | (with_reducible have gG := mk3 (T := 24) hl1) | (with_reducible have gG := mk3 (T := 24) (und hl1)) | skip); (first | (with_reducible have gF := mk1 (T := 27) hl1) | (with_reducible have gF := mk1 (T := 27) (und hl1)) | skip); (first | (with_reducible have gF := mk2 (T := 27) hl1) | (with_reducible have gF := mk2 (T := 27) (und hl1)) | skip); (first | (with_reducible have gF := mk3 (T := 27) hl1) | (with_reducible have gF := mk3 (T := 27) (und hl1)) | skip); (first | (with_reducible have gG := gG.up hl1) | (with_reducible have gG := (gG.alloc _).up hl1) | skip); (first | (with_reducible have gF := gF.up hl1) | (with_reducible have gF := (gF.alloc _).up hl1) | skip); obtain ⟨ay, cy, _, _, rfl, _⟩ := id hx2)
        | (go_at_call 44; refine (HPR.out _ _ _ (by (repeat refine Sl.alloc ?_ _); refine Sl.below ?_ hlB; (repeat refine Sl.alloc ?_ _); exact hx1) (by (repeat refine Sl.alloc ?_ _); exact hx2)).mono ?_; rintro r U3 ⟨a9, l9, cap9, rfl, hF3, hl1⟩; have hU3 := bcat2 (And.left ‹_›) hl1; have hs3 := hU3.size; have hz3 := hl1.size; (first | (with_reducible have gG := mk1 (T := 24) hl1) | (with_reducible have gG := mk1 (T := 24) (und hl1)) | skip); (first | (with_reducible have gG := mk2 (T := 24) hl1) | (with_reducible have gG := mk2 (T := 24) (und hl1)) | skip); (first | (with_reducible have gG := mk3 (T := 24) hl1) | (with_reducible have gG := mk3 (T := 24) (und hl1)) | skip); (first | (with_reducible have gF := mk1 (T := 27) hl1) | (with_reducible have gF := mk1 (T := 27) (und hl1)) | skip); (first | (with_reducible have gF := mk2 (T := 27) hl1) | (with_reducible have gF := mk2 (T := 27) (und hl1)) | skip); (first | (with_reducible have gF := mk3 (T := 27) hl1) | (with_reducible have gF := mk3 (T := 27) (und hl1)) | skip); (first | (with_reducible have gG := gG.up hl1) | (with_reducible have gG := (gG.alloc _).up hl1) | skip); (first | (with_reducible have gF := gF.up hl1) | (with_reducible have gF := (gF.alloc _).up hl1) | skip); (try (obtain ⟨_, _, _, _⟩ := gG.two; have := gG.lt; have := Nat.ne_of_lt gG.lt; have := Nat.ne_of_gt gG.lt)); (try (obtain ⟨_, _, _, _⟩ := gF.two; have := gF.lt; have := Nat.ne_of_lt gF.lt; have := Nat.ne_of_gt gF.lt)); (try (have := gG.ne gF; have := (gG.ne gF).symm))))
    all_goals (go_wp2; go_meet)
    all_goals (try simp only [size_drew, World.size_alloc] at hz1)
    all_goals (try simp only [World.size_alloc] at hz2)
    all_goals (try simp only [World.size_alloc] at hz3)
    all_goals (try simp only [World.size_alloc] at hF3)
    all_goals (first
      | (with_reducible refine prA1 hF3 hU3; done)
      | (with_reducible refine prA2 hF3 hU3; done)
      | (with_reducible refine prB1 hF3 hU3 gG ?_ ?_)
      | (with_reducible refine prB2 hF3 hU3 gF ?_ ?_)
      | (with_reducible refine prC hF3 hU3 gG gF ?_ ?_ ?_ ?_))
    all_goals omega
  case rest =>
    obtain ⟨b5, b6, a9, l9, cap9, rfl, rfl, G5, F6, hT, hBx⟩ := hcut
    clear Ho1 Ho2 HPR hS hS0
    have HF1 := hide (fun W (h : Sl W (.slice au lu cu) zs) => groupFault_any N (.slice au lu cu) zs W h)
    have HF2 := hide (fun W (h : Sl W (.slice av lv cv) ys) => groupFault_any M (.slice av lv cv) ys W h)
    have g0 := below_cell hBx hg0.c0
    have g1 := below_cell hBx hg0.c1
    have huc := hu0.below hBx
    have hvc := hv0.below hBx
    have hBw := bcat hB0 hBx hB0.size
    have hgc := blk_below hg0 hBx
    have hhc := blk_below hh0 hBx
    clear hg0 hh0 hu0 hv0
    rcases HCASE.out with ⟨e1, hc, rfl, rfl⟩ | ⟨e1, e2, hc, rfl, rfl⟩ | ⟨n, m, e, d, rfl, rfl, hg, hh, h60, rfl, rfl, rfl, rfl⟩ | ⟨n, m, e, d, rfl, rfl, hg, hh, h60, rfl, rfl, rfl, rfl⟩
    · rw [e1] at HF1
      have hcb : (c != 0) = true := by simpa using hc
      have hcz : (c == 0) = false := by simpa using hc
      clear e1 HF2 HCASE
      have hl9 : l9 = 0 := by
        obtain ⟨_, _, _, _, e9, _⟩ := id hT
        have := congrArg lenOf e9
        simpa [lenOf] using this
      subst hl9
      go_wp2_with fail
      refine (HF1.out _ huc).mono ?_
      rintro r x1 ⟨rfl, hx1⟩
      clear g0 g1
      have h7 : Blk (x1.alloc (.cells #[.int .i64 c, .int .i64 i] 27)) x1.heap.size 27 [.int .i64 c, .int .i64 i] := blk0 _ _
      have hV := bcat2 hx1 (balloc x1 (.cells #[.int .i64 c, .int .i64 i] 27))
      have t0 := h7.c0
      have t1 := h7.c1
      go_wp2_with fail
      clear t0 t1
      generalize x1.alloc (.cells #[.int .i64 c, .int .i64 i] 27) = v1 at *
      refine (begun_any _).mono ?_
      rintro r y2 ⟨rfl, hy2⟩
      have t0 := below_cell hy2 h7.c0
      have t1 := below_cell hy2 h7.c1
      have f0 := below_cell (bcat2 hV hy2) F6.c0
      have f1 := below_cell (bcat2 hV hy2) F6.c1
      have p0 := below_cell (bcat2 hV hy2) G5.c0
      have p1 := below_cell (bcat2 hV hy2) G5.c1
      go_wp2_with fail
      refine (noGroup_zero _ _ _).mono ?_
      rintro r y3 ⟨rfl, hy3⟩
      clear t0 t1 f0 f1 p0 p1
      go_wp2
      go_ret
      exact ⟨rfl, bcat hBw (bcat2 hV (bcat2 hy2 hy3)) hBw.size⟩
    · rw [e1] at HF1
      rw [e2] at HF2
      have hcb : (c != 0) = true := by simpa using hc
      have hcz : (c == 0) = false := by simpa using hc
      clear e1 e2 HCASE
      have hl9 : l9 = 0 := by
        obtain ⟨_, _, _, _, e9, _⟩ := id hT
        have := congrArg lenOf e9
        simpa [lenOf] using this
      subst hl9
      go_wp2_with fail
      refine (HF1.out _ huc).mono ?_
      rintro r x1 ⟨rfl, hx1⟩
      clear g0 g1
      have h7 : Blk (x1.alloc (.cells #[.int .i64 0, .int .i64 0] 27)) x1.heap.size 27 [.int .i64 0, .int .i64 0] := blk0 _ _
      have hV1 := bcat2 hx1 (balloc x1 (.cells #[.int .i64 0, .int .i64 0] 27))
      have t0 := h7.c0
      have g0 := below_cell hV1 hhc.c0
      have g1 := below_cell hV1 hhc.c1
      go_wp2_with fail
      generalize x1.alloc (.cells #[.int .i64 0, .int .i64 0] 27) = v1 at *
      refine (HF2.out _ (hvc.below hV1)).mono ?_
      rintro r x2 ⟨rfl, hx2⟩
      clear t0 g0 g1
      have h7 := blk_below h7 hx2
      have hV2 := bcat2 hV1 hx2
      have hs7 : w0.heap.size ≤ x1.heap.size := by have := hBx.size; have := hx1.size; omega
      have hs8 : wc.heap.size ≤ x1.heap.size := hx1.size
      obtain ⟨y0, y1, fy0, fy1⟩ := h7.two
      have h8 : Blk ((x2.setCell ⟨x1.heap.size, 0, none⟩ (.int .i64 c)).setCell ⟨x1.heap.size, 1, none⟩ (.int .i64 i)) x1.heap.size 27 [.int .i64 c, .int .i64 i] := (h7.set 0 _).set 1 _
      have hV : Below wc.heap.size wc ((x2.setCell ⟨x1.heap.size, 0, none⟩ (.int .i64 c)).setCell ⟨x1.heap.size, 1, none⟩ (.int .i64 i)) := bSet (bSet hV2 hs8) hs8
      have t0 := h8.c0
      have t1 := h8.c1
      go_wp2_with fail
      clear t0 t1 y0 y1 fy0 fy1 h7
      have h7 := h8
      clear h8
      generalize (x2.setCell ⟨x1.heap.size, 0, none⟩ (.int .i64 c)).setCell ⟨x1.heap.size, 1, none⟩ (.int .i64 i) = v2 at *
      refine (begun_any _).mono ?_
      rintro r y2 ⟨rfl, hy2⟩
      have t0 := below_cell hy2 h7.c0
      have t1 := below_cell hy2 h7.c1
      have f0 := below_cell (bcat2 hV hy2) F6.c0
      have f1 := below_cell (bcat2 hV hy2) F6.c1
      have p0 := below_cell (bcat2 hV hy2) G5.c0
      have p1 := below_cell (bcat2 hV hy2) G5.c1
      go_wp2_with fail
      refine (noGroup_zero _ _ _).mono ?_
      rintro r y3 ⟨rfl, hy3⟩
      clear t0 t1 f0 f1 p0 p1
      go_wp2
      go_ret
      exact ⟨rfl, bcat hBw (bcat2 hV (bcat2 hy2 hy3)) hBw.size⟩
    · have e1 := gfault_of_grp hg
      have e2 := gfault_of_grp hh
      rw [e1] at HF1
      rw [e2] at HF2
      have hn60 := hg.tab.le
      have hm60 := hh.tab.le
      have hnp := hg.tab.pos
      have hmp := hh.tab.pos
      have hq36 : n * m ≤ 60 * 60 := Nat.mul_le_mul hn60 hm60
      have hmul : (n : Int) * (m : Int) = ((n * m : Nat) : Int) := by rw [Int.natCast_mul]
      clear e1 e2 HCASE
      generalize n * m = q at *
      have hl9 : l9 = 0 := by
        obtain ⟨_, _, _, _, e9, _⟩ := id hT
        have := congrArg lenOf e9
        simpa [lenOf] using this
      subst hl9
      go_wp2_with fail
      refine (HF1.out _ huc).mono ?_
      rintro r x1 ⟨rfl, hx1⟩
      clear g0 g1
      have h7 : Blk (x1.alloc (.cells #[.int .i64 0, .int .i64 0] 27)) x1.heap.size 27 [.int .i64 0, .int .i64 0] := blk0 _ _
      have hV1 := bcat2 hx1 (balloc x1 (.cells #[.int .i64 0, .int .i64 0] 27))
      have t0 := h7.c0
      have g0 := below_cell hV1 hhc.c0
      have g1 := below_cell hV1 hhc.c1
      go_wp2_with fail
      generalize x1.alloc (.cells #[.int .i64 0, .int .i64 0] 27) = v1 at *
      refine (HF2.out _ (hvc.below hV1)).mono ?_
      rintro r x2 ⟨rfl, hx2⟩
      clear t0 g0 g1
      have h7 := blk_below h7 hx2
      have hV2 := bcat2 hV1 hx2
      have hs7 : w0.heap.size ≤ x1.heap.size := by have := hBx.size; have := hx1.size; omega
      have hs8 : wc.heap.size ≤ x1.heap.size := hx1.size
      obtain ⟨_, y0, y1, fy0, fy1, s0, s1⟩ := Two.mk' h7
      have g0 := below_cell hV2 hgc.c0
      have k0 := below_cell hV2 hhc.c0
      go_wp2_with fail
      refine (f_any _ _ _).mono ?_
      rintro r x3 ⟨rfl, hx3⟩
      clear y0 y1 fy0 fy1 s0 s1 g0 k0
      have h7 := blk_below h7 hx3
      have hV3 := bcat2 hV2 hx3
      obtain ⟨y0, y1, fy0, fy1⟩ := h7.two
      have h8 : Blk ((x3.setCell ⟨x1.heap.size, 0, none⟩ (.int .i64 9)).setCell ⟨x1.heap.size, 1, none⟩ (.int .i64 0)) x1.heap.size 27 [.int .i64 9, .int .i64 0] := (h7.set 0 _).set 1 _
      have hV : Below wc.heap.size wc ((x3.setCell ⟨x1.heap.size, 0, none⟩ (.int .i64 9)).setCell ⟨x1.heap.size, 1, none⟩ (.int .i64 0)) := bSet (bSet hV3 hs8) hs8
      go_wp2_with fail
      clear y0 y1 fy0 fy1 h7
      have h7 := h8
      clear h8
      generalize (x3.setCell ⟨x1.heap.size, 0, none⟩ (.int .i64 9)).setCell ⟨x1.heap.size, 1, none⟩ (.int .i64 0) = v2 at *
      refine (begun_any _).mono ?_
      rintro r y2 ⟨rfl, hy2⟩
      have t0 := below_cell hy2 h7.c0
      have t1 := below_cell hy2 h7.c1
      have f0 := below_cell (bcat2 hV hy2) F6.c0
      have f1 := below_cell (bcat2 hV hy2) F6.c1
      have p0 := below_cell (bcat2 hV hy2) G5.c0
      have p1 := below_cell (bcat2 hV hy2) G5.c1
      go_wp2_with fail
      refine (noGroup_zero _ _ _).mono ?_
      rintro r y3 ⟨rfl, hy3⟩
      clear t0 t1 f0 f1 p0 p1
      go_wp2
      go_ret
      exact ⟨rfl, bcat hBw (bcat2 hV (bcat2 hy2 hy3)) hBw.size⟩
    · have e1 := gfault_of_grp hg
      have e2 := gfault_of_grp hh
      rw [e1] at HF1
      rw [e2] at HF2
      have hn60 := hg.tab.le
      have hm60 := hh.tab.le
      have hnp := hg.tab.pos
      have hmp := hh.tab.pos
      have hq36 : n * m ≤ 60 * 60 := Nat.mul_le_mul hn60 hm60
      have hmul : (n : Int) * (m : Int) = ((n * m : Nat) : Int) := by rw [Int.natCast_mul]
      clear e1 e2 HCASE
      have hP := prod_grp hg hh h60
      have HGP := hide (fun W (h : Sl W (.slice a9 l9 cap9) (mkT (n * m) (prodF n m zs ys))) => groupFault_ok hP (.slice a9 l9 cap9) W h)
      have HMP := hide (fun W (a b : Nat) (ha : a < n * m) (hb : b < n * m) (h : Sl W (.slice a9 l9 cap9) (mkT (n * m) (prodF n m zs ys))) => M_is hP.tab ha hb (tm_mk ha hb) (.slice a9 l9 cap9) W h)
      have HM1 := hide (fun W (a b : Nat) (ha : a < n) (hb : b < n) (h : Sl W (.slice au lu cu) zs) => M_ok n (.slice au lu cu) zs a b W hg.tab h ha hb)
      have HM2 := hide (fun W (a b : Nat) (ha : a < m) (hb : b < m) (h : Sl W (.slice av lv cv) ys) => M_ok m (.slice av lv cv) ys a b W hh.tab h ha hb)
      have HTM := hide (fun (a b : Nat) (ha : a < n * m) (hb : b < n * m) => show prodF n m zs ys a b = tm n zs (a / m) (b / m) * m + tm m ys (a % m) (b % m) ∧ prodF n m zs ys a b < n * m ∧ tm n zs (a / m) (b / m) < n ∧ tm m ys (a % m) (b % m) < m from
        ⟨rfl, by have := tm_lt hP.tab ha hb; rwa [tm_mk ha hb] at this, tm_lt hg.tab (pair_parts ha).1 (pair_parts hb).1, tm_lt hh.tab (pair_parts ha).2.1 (pair_parts hb).2.1⟩)
      have HPP := hide (fun k (hk : k < n * m) => pair_parts hk)
      have hl9 : l9 = (n * m) * (n * m) := by
        obtain ⟨_, _, _, _, e9, _⟩ := id hT
        have := congrArg lenOf e9
        rw [mkT_len] at this
        simpa [lenOf] using this
      have hqq : ((n * m : Nat) : Int) * ((n * m : Nat) : Int) = ((l9 : Nat) : Int) := by rw [hl9, Int.natCast_mul (n * m) (n * m)]
      have hl99 : l9 ≤ 60 * 60 := by rw [hl9]; exact Nat.mul_le_mul h60 h60
      have hq1 : 1 ≤ n * m := hP.tab.pos
      clear hl9 hP hg hh
      generalize mkT (n * m) (prodF n m zs ys) = T at *
      generalize prodF n m zs ys = pf at *
      generalize n * m = q at *
      go_wp2_with fail
      refine (HF1.out _ huc).mono ?_
      rintro r x1 ⟨rfl, hx1⟩
      clear g0 g1
      have h7 : Blk (x1.alloc (.cells #[.int .i64 0, .int .i64 0] 27)) x1.heap.size 27 [.int .i64 0, .int .i64 0] := blk0 _ _
      have hV1 := bcat2 hx1 (balloc x1 (.cells #[.int .i64 0, .int .i64 0] 27))
      have t0 := h7.c0
      have g0 := below_cell hV1 hhc.c0
      have g1 := below_cell hV1 hhc.c1
      go_wp2_with fail
      generalize x1.alloc (.cells #[.int .i64 0, .int .i64 0] 27) = v1 at *
      refine (HF2.out _ (hvc.below hV1)).mono ?_
      rintro r x2 ⟨rfl, hx2⟩
      clear t0 g0 g1
      have h7 := blk_below h7 hx2
      have hV2 := bcat2 hV1 hx2
      have hs7 : w0.heap.size ≤ x1.heap.size := by have := hBx.size; have := hx1.size; omega
      have hs8 : wc.heap.size ≤ x1.heap.size := hx1.size
      obtain ⟨_, y0, y1, fy0, fy1, s0, s1⟩ := Two.mk' h7
      have g0 := below_cell hV2 hgc.c0
      have k0 := below_cell hV2 hhc.c0
      go_wp2_with fail
      refine (begun_any _).mono ?_
      rintro r x3 ⟨rfl, hx3⟩
      clear y0 y1 fy0 fy1 s0 s1 g0 k0
      have h7 := blk_below h7 hx3
      have hV3 := bcat2 hV2 hx3
      have y0 := h7.c0
      have y1 := h7.c1
      have f0 := below_cell hV3 F6.c0
      have f1 := below_cell hV3 F6.c1
      have p0 := below_cell hV3 G5.c0
      have p1 := below_cell hV3 G5.c1
      have g0 := below_cell hV3 hgc.c0
      have k0 := below_cell hV3 hhc.c0
      go_wp2
      clear y0 y1 f0 f1 g0 k0 p0 p1
      go_loopw [8] (fun i wr => ∃ a : Nat, a ≤ q ∧ i = .int .i64 a ∧ Below wc.heap.size wc wr) (fun i _ => q - (intOf i).toNat)
      case atStart => exact ⟨0, Nat.zero_le _, rfl, hV3⟩
      case round =>
        obtain ⟨a, ha, rfl, hBa⟩ := hrel
        have p0 := below_cell hBa G5.c0
        by_cases hlta : a < q
        · go_wp2
          clear p0
          go_loopw [9] (fun i wr => ∃ b : Nat, b ≤ q ∧ i = .int .i64 b ∧ Below wc.heap.size wc wr) (fun i _ => q - (intOf i).toNat)
          case atStart => exact ⟨0, Nat.zero_le _, rfl, hBa⟩
          case round =>
            clear hBa
            obtain ⟨b, hb, rfl, hBb⟩ := hrel
            have p0 := below_cell hBb G5.c0
            by_cases hltb : b < q
            · obtain ⟨pe, pl, r1l, r2l⟩ := HTM.out a b hlta hltb
              obtain ⟨s1, s2, _⟩ := HPP.out a hlta
              obtain ⟨s3, s4, _⟩ := HPP.out b hltb
              have HA := hide (fun W h => HMP.out W a b hlta hltb h)
              have HB := hide (fun W h => HM1.out W _ _ s1 s3 h)
              have HC := hide (fun W h => HM2.out W _ _ s2 s4 h)
              have q1 := ndiv (x := a) (y := m)
              have q2 := ndiv (x := b) (y := m)
              have q3 := nmod (x := (a : Int)) (y := a) (m := m) rfl
              have q4 := nmod (x := (b : Int)) (y := b) (m := m) rfl
              rw [pe] at HA pl
              clear pe
              generalize a / m = ka at *
              generalize b / m = kb at *
              generalize a % m = la at *
              generalize b % m = lb at *
              generalize tm n zs ka kb = r1 at *
              generalize tm m ys la lb = r2 at *
              have hmr : (r1 : Int) * (m : Int) = ((r1 * m : Nat) : Int) := by rw [Int.natCast_mul]
              rw [Int.natCast_add] at HA
              generalize r1 * m = rm at *
              have hm0 : ¬ ((m : Int) = 0) := by omega
              have hm1 : ¬ m = 0 := by omega
              have hw1 : IntKind.i64.wrap (rm : Int) = (rm : Int) := by rw [IntKind.wrap_i64]; omega
              have hw2 : IntKind.i64.wrap ((rm : Int) + (r2 : Int)) = (rm : Int) + (r2 : Int) := by rw [IntKind.wrap_i64]; omega
              have hw3 : IntKind.i64.wrap (ka : Int) = (ka : Int) := by rw [IntKind.wrap_i64]; omega
              have hw4 : IntKind.i64.wrap (kb : Int) = (kb : Int) := by rw [IntKind.wrap_i64]; omega
              have hS : ∀ W, Below wc.heap.size wc W → (Below wc.heap.size wc W ∧ W.cell? ⟨b5, 0, none⟩ = some (.int .i64 q) ∧ W.cell? ⟨b5, 1, none⟩ = some (.slice a9 l9 cap9) ∧ W.cell? ⟨w.heap.size, 0, none⟩ = some (.int .i64 n) ∧ W.cell? ⟨w.heap.size, 1, none⟩ = some (.slice au lu cu) ∧ W.cell? ⟨w.heap.size + 1, 0, none⟩ = some (.int .i64 m) ∧ W.cell? ⟨w.heap.size + 1, 1, none⟩ = some (.slice av lv cv)) := fun W h => ⟨h, below_cell h G5.c0, below_cell h G5.c1, below_cell h hgc.c0, below_cell h hgc.c1, below_cell h hhc.c0, below_cell h hhc.c1⟩
              have hS0 := hS _ (bdrew hBb)
              go_wp2_with fail
              clear p0
              go_region_held3 (fun W => Below wc.heap.size wc W ∧ W.cell? ⟨b5, 0, none⟩ = some (.int .i64 q) ∧ W.cell? ⟨b5, 1, none⟩ = some (.slice a9 l9 cap9) ∧ W.cell? ⟨w.heap.size, 0, none⟩ = some (.int .i64 n) ∧ W.cell? ⟨w.heap.size, 1, none⟩ = some (.slice au lu cu) ∧ W.cell? ⟨w.heap.size + 1, 0, none⟩ = some (.int .i64 m) ∧ W.cell? ⟨w.heap.size + 1, 1, none⟩ = some (.slice av lv cv))
                (first | exact hS0 | assumption | exact hS _ (bcat2 (And.left ‹_›) hl1))
                (first
                  | (go_at_call_of 40 (Value.slice a9 l9 cap9); refine (HA.out _ (hT.below (And.left ‹_›))).mono ?_; rintro r V1 ⟨rfl, hl1⟩)
                  | (go_at_call_of 40 (Value.slice au lu cu); refine (HB.out _ (huc.below (And.left ‹_›))).mono ?_; rintro r V2 ⟨rfl, hl1⟩)
                  | (go_at_call_of 40 (Value.slice av lv cv); refine (HC.out _ (hvc.below (And.left ‹_›))).mono ?_; rintro r V3 ⟨rfl, hl1⟩))
              obtain ⟨hB4, _⟩ := ‹Below wc.heap.size wc V3 ∧ _›
              clear hS hS0 hBb
              go_wp2
              go_roundw
              case rel => exact ⟨b + 1, by omega, by go_num, hB4⟩
              case measure => simp [intOf]; omega
            · go_wp2
              go_roundw
              case rel => exact ⟨a + 1, by omega, by go_num, hBb⟩
              case measure => simp [intOf]; omega
        · have p1 := below_cell hBa G5.c1
          have hf27 := field27
          go_wp2_with fail
          refine (HGP.out _ (hT.below hBa)).mono ?_
          rintro r x9 ⟨rfl, hx9⟩
          clear p0 p1
          go_wp2
          go_ret
          exact ⟨rfl, bcat hBw (bcat2 hBa hx9) hBw.size⟩
theorem products_all (N M : Int) (u v : Value) (zs ys : List Int) (w : World) (hu : SlA w u zs) (hv : SlA w v ys) (hbz : zs.length * 8 ≤ 140737488355328) (hby : ys.length * 8 ≤ 140737488355328) :
    Calls Try.prog 6 #[.agg #[.int .i64 N, u], .agg #[.int .i64 M, v]] w fun r w' => r = .returned (.bool true) ∧ Below w.heap.size w w' := by
  by_cases h1 : (gfault N zs).1 = 0
  · obtain ⟨n, e, rfl, hg, e1⟩ := gfault_grp h1
    by_cases h2 : (gfault M ys).1 = 0
    · obtain ⟨m, d, rfl, hh, _⟩ := gfault_grp h2
      by_cases h60 : n * m ≤ 60
      · refine products_any n m (n * m : Nat) 0 0 u v zs ys _ w hu hv hbz hby (fun x y W hx hy => (prod_okF hg hh h60 x y W hx hy).mono ?_) (.inr (.inr (.inr ⟨n, m, e, d, rfl, rfl, hg, hh, h60, rfl, rfl, rfl, rfl⟩)))
        rintro r w' ⟨z, rfl, hz, hb⟩
        obtain ⟨a, cap, _, _, rfl, _⟩ := id hz
        exact ⟨_, _, _, rfl, SlX.of hz, hb⟩
      · refine products_any n m 0 9 0 u v zs ys [] w hu hv hbz hby (fun x y W hx hy => (prod_bad3 hg hh (by omega) x y W hx hy).mono ?_) (.inr (.inr (.inl ⟨n, m, e, d, rfl, rfl, hg, hh, by omega, rfl, rfl, rfl, rfl⟩)))
        rintro r w' ⟨rfl, hb⟩
        exact ⟨_, _, _, rfl, SlX.nil, hb⟩
    · refine products_any n M 0 (gfault M ys).1 (gfault M ys).2 u v zs ys [] w hu hv hbz hby (fun x y W hx hy => (prod_bad2 hg M ys x y W hx hy h2).mono ?_) (.inr (.inl ⟨e1, rfl, h2, rfl, rfl⟩))
      rintro r w' ⟨rfl, hb⟩
      exact ⟨_, _, _, rfl, SlX.nil, hb⟩
  · refine products_any N M 0 (gfault N zs).1 (gfault N zs).2 u v zs ys [] w hu hv hbz hby (fun x y W hx hy => (prod_bad1 N M zs x y W hx h1).mono ?_) (.inl ⟨rfl, h1, rfl, rfl⟩)
    rintro r w' ⟨rfl, hb⟩
    exact ⟨_, _, _, rfl, SlX.nil, hb⟩
end Go.Proofs.Ytpcgacelljbkdaa
