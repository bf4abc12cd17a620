/- The law ProdSemiParts: its walk, what it calls as premises. The law ProdSemi: what lies in its boxes, and what is asked of what it calls. For the law ProdSemi: long acts, lists by functions, what the document says of two entries. Condition: the library's table of places lies as its text lays it. What table.Orders answers at a group: a list of its own. What slices.Equal answers. slices.Sort at a list of the call's own; sorted lists are the same just where one is the other in another order. Few makers as mathematics: with a thing that is not yet made, more is made; so the best thing to add makes more. What hom's sameOrders answers: true where there is an isomorphism, and never where the sizes are not the same. -/
import Derived.Test.YtgdpgbldjpeopaaGreatDoorZ8
import Derived.Test.YtgdpgbldjpeopaaGreatDoorZ11
import Derived.Test.YtgdpgbldjpeopaaGreatDoorZ7
import Derived.Test.YtgdpgbldjpeopaaGreatDoorZ5
import Derived.Test.YtgdpgbldjpeopaaGreatDoorZ4
import Derived.Test.YtgdpgbldjpeopaaGreatDoorZ2
import Derived.Shelf.Sort.Plain
import Derived.Sort.OwnSortedInts
import Derived.Shelf.Lay
import Derived.Test.YtgdpgbldjpeopaaGreatDoorZ10
import Derived.Test.YtgdpgbldjpeopaaGreatDoorZ9
namespace Go.Proofs.YtgdpgbldjpeopaaGreatDoor
open Go Go.RowKit

set_option maxRecDepth 100000 in
set_option maxHeartbeats 4000000 in
theorem psp_bad (N M c i : Int) (v1 : Option Addr) (v2 v3 : Nat) (y1 : Option Addr) (y2 y3 : Nat) (l1 : Option Addr) (ll l3 : Nat) (w : World) (hc : c ≠ 0) (hll : ll ≤ 100)
    (HBE : Hid (∀ W, Below w.heap.size w W → Calls Tryz.prog 4 #[] W fun x W' => x = .returned (.bool true) ∧ Below W.heap.size W W'))
    (HSE : Hid (∀ W, Below w.heap.size w W → Calls Tryz.prog 5 #[.agg #[.int .i64 N, .slice v1 v2 v3], .agg #[.int .i64 M, .slice y1 y2 y3], .slice l1 ll l3] W fun x W' => x = .returned (.tuple #[.agg #[.int .i64 0, .slice none 0 0], .agg #[.int .i64 c, .int .i64 i]]) ∧ Below W.heap.size W W')) :
    Calls Tryz.prog 3 #[.agg #[.int .i64 N, .slice v1 v2 v3], .agg #[.int .i64 M, .slice y1 y2 y3], .slice l1 ll l3] w fun x w' => x = .returned (.bool true) ∧ Below w.heap.size w w' := by
  have hcb : (c != 0) = true := by simpa using hc
  have hli : ¬ (100 : Int) < (ll : Int) := by omega
  clear hc
  obtain ⟨w0, hw0⟩ : ∃ w0, w0 = (w.alloc (.cells #[.int .i64 N, .slice v1 v2 v3] 24)).alloc (.cells #[.int .i64 M, .slice y1 y2 y3] 24) := ⟨_, rfl⟩
  have hB0 : Below w.heap.size w w0 := by rw [hw0]; exact (balloc w _).alloc (by simp) _
  have hX0 : Blk w0 w.heap.size 24 [.int .i64 N, .slice v1 v2 v3] := by rw [hw0]; exact (blk0 _ _).alloc _
  have hY0 : Blk w0 (w.heap.size + 1) 24 [.int .i64 M, .slice y1 y2 y3] := by
    rw [hw0]
    have := blk0 (w := w.alloc (.cells #[.int .i64 N, .slice v1 v2 v3] 24)) (T := 24) (.int .i64 M) (.slice y1 y2 y3)
    rwa [World.size_alloc] at this
  go_enter Tryz.func3, Tryz.ntmps3
  go_wp2_with fail
  rw [← hw0]
  clear hw0
  refine (HBE.out _ hB0).mono ?_
  rintro x1 w1 ⟨rfl, hb1⟩
  have hB1 := bcat2 hB0 hb1
  obtain ⟨c0, c1, _, _⟩ := (blk_below hX0 hb1).two
  obtain ⟨d0, d1, _, _⟩ := (blk_below hY0 hb1).two
  go_wp2_with fail
  clear c0 c1 d0 d1
  refine (HSE.out _ hB1).mono ?_
  rintro x2 w2 ⟨rfl, hb2⟩
  obtain ⟨w3, hw3⟩ : ∃ w3, w3 = (w2.alloc (.cells #[.int .i64 0, .slice none 0 0] 24)).alloc (.cells #[.int .i64 c, .int .i64 i] 28) := ⟨_, rfl⟩
  have hb3 : Below w2.heap.size w2 w3 := by rw [hw3]; exact (balloc w2 _).alloc (by simp) _
  have hF3 : Blk w3 (w2.heap.size + 1) 28 [.int .i64 c, .int .i64 i] := by
    rw [hw3]
    have := blk0 (w := w2.alloc (.cells #[.int .i64 0, .slice none 0 0] 24)) (T := 28) (.int .i64 c) (.int .i64 i)
    rwa [World.size_alloc] at this
  have hBz := bcat2 hB1 (bcat2 hb2 hb3)
  obtain ⟨f0, f1, _, _⟩ := hF3.two
  rw [hw3] at f0 f1
  go_wp2
  rw [← hw3]
  go_ret
  exact ⟨rfl, hBz⟩
set_option maxRecDepth 100000 in
set_option maxHeartbeats 4000000 in
theorem psp_short (N M : Int) (v1 : Option Addr) (v2 v3 : Nat) (y1 : Option Addr) (y2 y3 : Nat) (l1 : Option Addr) (ll l3 : Nat) (w : World) (hll : 100 < ll)
    (HBE : Hid (∀ W, Below w.heap.size w W → Calls Tryz.prog 4 #[] W fun x W' => x = .returned (.bool true) ∧ Below W.heap.size W W')) :
    Calls Tryz.prog 3 #[.agg #[.int .i64 N, .slice v1 v2 v3], .agg #[.int .i64 M, .slice y1 y2 y3], .slice l1 ll l3] w fun x w' => x = .returned (.bool true) ∧ Below w.heap.size w w' := by
  have hli : (100 : Int) < (ll : Int) := by omega
  obtain ⟨w0, hw0⟩ : ∃ w0, w0 = (w.alloc (.cells #[.int .i64 N, .slice v1 v2 v3] 24)).alloc (.cells #[.int .i64 M, .slice y1 y2 y3] 24) := ⟨_, rfl⟩
  have hB0 : Below w.heap.size w w0 := by rw [hw0]; exact (balloc w _).alloc (by simp) _
  go_enter Tryz.func3, Tryz.ntmps3
  go_wp2_with fail
  rw [← hw0]
  clear hw0
  refine (HBE.out _ hB0).mono ?_
  rintro x1 w1 ⟨rfl, hb1⟩
  go_wp2
  go_ret
  exact ⟨rfl, bcat2 hB0 hb1⟩
set_option maxRecDepth 100000 in
set_option maxHeartbeats 8000000 in
theorem psp_good (n m e d q k : Nat) (v1 : Option Addr) (v2 v3 : Nat) (y1 : Option Addr) (y2 y3 : Nat) (lb lo ll l3 : Nat) (ea : Nat → Option Addr) (el ec : Nat → Nat) (Bs : Nat → Bool) (dir : Bool) (w : World) (hq : (q : Int) = (n : Int) * (m : Int)) (h60 : q ≤ 60) (hll : ll ≤ 60) (hdir : dir = (List.range ll).all Bs)
    (PP PA PB PQ PS : World → Value → Prop)
    (HPU : Hid (∀ W W' x, PP W x → Below W.heap.size W W' → PP W' x)) (HAU : Hid (∀ W W' x, PA W x → Below W.heap.size W W' → PA W' x)) (HBU : Hid (∀ W W' x, PB W x → Below W.heap.size W W' → PB W' x)) (HQU : Hid (∀ W W' x, PQ W x → Below W.heap.size W W' → PQ W' x))
    (HBE : Hid (∀ W, Below w.heap.size w W → Calls Tryz.prog 4 #[] W fun x W' => x = .returned (.bool true) ∧ Below W.heap.size W W'))
    (HSE : Hid (∀ W, Below w.heap.size w W → Calls Tryz.prog 5 #[.agg #[.int .i64 n, .slice v1 v2 v3], .agg #[.int .i64 m, .slice y1 y2 y3], .slice (some ⟨lb, lo, none⟩) ll l3] W fun x W' => ∃ p1 p2 p3, x = .returned (.tuple #[.agg #[.int .i64 q, .slice p1 p2 p3], .agg #[.int .i64 0, .int .i64 0]]) ∧ PP W' (.slice p1 p2 p3) ∧ Below W.heap.size W W'))
    (HGF : Hid (∀ W u, Below w.heap.size w W → PP W u → Calls Tryz.prog 6 #[.agg #[.int .i64 q, u]] W fun x W' => x = .returned (.agg #[.int .i64 0, .int .i64 0]) ∧ Below W.heap.size W W'))
    (HE1 : Hid (∀ W, Below w.heap.size w W → Calls Tryz.prog 7 #[.agg #[.int .i64 n, .slice v1 v2 v3]] W fun x W' => x = .returned (.int .i64 e) ∧ Below W.heap.size W W'))
    (HE2 : Hid (∀ W, Below w.heap.size w W → Calls Tryz.prog 7 #[.agg #[.int .i64 m, .slice y1 y2 y3]] W fun x W' => x = .returned (.int .i64 d) ∧ Below W.heap.size W W'))
    (HTA : Hid (∀ W u hb db, Below w.heap.size w W → BoxG W hb m (.slice y1 y2 y3) → Boxed W db 3 (.int .i64 d) → Calls Tryz.prog 8 #[.agg #[.int .i64 q, u], .func (.func 9) #[] #[.pointer (some ⟨hb, 0, none⟩), .pointer (some ⟨db, 0, none⟩)]] W fun x W' => ∃ a1 a2 a3, x = .returned (.slice a1 a2 a3) ∧ PA W' (.slice a1 a2 a3) ∧ Below W.heap.size W W'))
    (HTB : Hid (∀ W u hb eb, Below w.heap.size w W → BoxG W hb m (.slice y1 y2 y3) → Boxed W eb 3 (.int .i64 e) → Calls Tryz.prog 8 #[.agg #[.int .i64 q, u], .func (.func 10) #[] #[.pointer (some ⟨hb, 0, none⟩), .pointer (some ⟨eb, 0, none⟩)]] W fun x W' => ∃ a1 a2 a3, x = .returned (.slice a1 a2 a3) ∧ PB W' (.slice a1 a2 a3) ∧ Below W.heap.size W W'))
    (HNR : Hid (∀ W u a, Below w.heap.size w W → PP W u → PA W a → Calls Tryz.prog 11 #[.agg #[.int .i64 q, u], a] W fun x W' => x = .returned (.tuple #[.bool true, .agg #[.int .i64 0, .int .i64 0]]) ∧ Below W.heap.size W W'))
    (HIS : Hid (∀ W u b, Below w.heap.size w W → PP W u → PB W b → Calls Tryz.prog 12 #[.agg #[.int .i64 q, u], b] W fun x W' => x = .returned (.tuple #[.bool true, .agg #[.int .i64 0, .int .i64 0]]) ∧ Below W.heap.size W W'))
    (HDI : Hid (∀ W u a b, Below w.heap.size w W → PP W u → PA W a → PB W b → Calls Tryz.prog 13 #[.agg #[.int .i64 q, u], a, b] W fun x W' => x = .returned (.tuple #[.bool dir, .agg #[.int .i64 0, .int .i64 0]]) ∧ Below W.heap.size W W'))
    (HQO : Hid (∀ W u a, Below w.heap.size w W → PP W u → PA W a → Calls Tryz.prog 14 #[.agg #[.int .i64 q, u], a] W fun x W' => ∃ r1 r2 r3 s1 s2 s3, x = .returned (.tuple #[.agg #[.int .i64 k, .slice r1 r2 r3], .slice s1 s2 s3, .agg #[.int .i64 0, .int .i64 0]]) ∧ PQ W' (.slice r1 r2 r3) ∧ Below W.heap.size W W'))
    (HLC : Hid (∀ W, Below w.heap.size w W → ∀ i, i < ll → W.cell? ⟨lb, lo + i, none⟩ = some (.slice (ea i) (el i) (ec i))))
    (HST : Hid (∀ W, Below w.heap.size w W → Calls Tryz.prog 16 #[.int .i64 n] W fun x W' => ∃ s1 s2 s3, x = .returned (.slice s1 s2 s3) ∧ PS W' (.slice s1 s2 s3) ∧ Below W.heap.size W W'))
    (HIN : Hid (∀ W i s, i < ll → Below w.heap.size w W → PS W s → Calls Tryz.prog 15 #[.slice (ea i) (el i) (ec i), s] W fun x W' => x = .returned (.bool (Bs i)) ∧ Below W.heap.size W W'))
    (HIO : Hid (∀ W u, Below w.heap.size w W → PQ W u → Calls Tryz.prog 17 #[.agg #[.int .i64 k, u], .agg #[.int .i64 m, .slice y1 y2 y3]] W fun x W' => ∃ r1 r2 r3, x = .returned (.tuple #[.slice r1 r2 r3, .agg #[.int .i64 0, .int .i64 0]]) ∧ Below W.heap.size W W')) :
    Calls Tryz.prog 3 #[.agg #[.int .i64 n, .slice v1 v2 v3], .agg #[.int .i64 m, .slice y1 y2 y3], .slice (some ⟨lb, lo, none⟩) ll l3] w fun x w' => x = .returned (.bool true) ∧ Below w.heap.size w w' := by
  have hli : ¬ (100 : Int) < (ll : Int) := by omega
  have HQ := hide hq
  have HDR := hide hdir
  clear hq hdir
  obtain ⟨w0, hw0⟩ : ∃ w0, w0 = (w.alloc (.cells #[.int .i64 n, .slice v1 v2 v3] 24)).alloc (.cells #[.int .i64 m, .slice y1 y2 y3] 24) := ⟨_, rfl⟩
  have hB0 : Below w.heap.size w w0 := by rw [hw0]; exact (balloc w _).alloc (by simp) _
  have hX0 : Blk w0 w.heap.size 24 [.int .i64 n, .slice v1 v2 v3] := by rw [hw0]; exact (blk0 _ _).alloc _
  have hY0 : Blk w0 (w.heap.size + 1) 24 [.int .i64 m, .slice y1 y2 y3] := by
    rw [hw0]
    have := blk0 (w := w.alloc (.cells #[.int .i64 n, .slice v1 v2 v3] 24)) (T := 24) (.int .i64 m) (.slice y1 y2 y3)
    rwa [World.size_alloc] at this
  go_enter Tryz.func3, Tryz.ntmps3
  go_wp2_with fail
  rw [← hw0]
  clear hw0
  refine (HBE.out _ hB0).mono ?_
  rintro x1 w1 ⟨rfl, hb1⟩
  have hB1 := bcat2 hB0 hb1
  have hX1 := blk_below hX0 hb1
  have hY1 := blk_below hY0 hb1
  clear hX0 hY0 hb1
  obtain ⟨c0, c1, _, _⟩ := hX1.two
  obtain ⟨d0, d1, _, _⟩ := hY1.two
  go_wp2_with fail
  clear c0 c1 d0 d1
  refine (HSE.out _ hB1).mono ?_
  rintro x2 w2 ⟨p1, p2, p3, rfl, hP2, hb2⟩
  obtain ⟨w3, hw3⟩ : ∃ w3, w3 = (w2.alloc (.cells #[.int .i64 q, .slice p1 p2 p3] 24)).alloc (.cells #[.int .i64 0, .int .i64 0] 28) := ⟨_, rfl⟩
  have hb3 : Below w2.heap.size w2 w3 := by rw [hw3]; exact (balloc w2 _).alloc (by simp) _
  have hQ3 : Blk w3 w2.heap.size 24 [.int .i64 q, .slice p1 p2 p3] := by rw [hw3]; exact (blk0 _ _).alloc _
  have hF3 : Blk w3 (w2.heap.size + 1) 28 [.int .i64 0, .int .i64 0] := by
    rw [hw3]
    have := blk0 (w := w2.alloc (.cells #[.int .i64 q, .slice p1 p2 p3] 24)) (T := 28) (.int .i64 0) (.int .i64 0)
    rwa [World.size_alloc] at this
  have hP3 := HPU.out _ _ _ hP2 hb3
  have hb13 := bcat2 hb2 hb3
  have hB3 := bcat2 hB1 hb13
  have hX3 := blk_below hX1 hb13
  have hY3 := blk_below hY1 hb13
  clear hP2 hb2 hb3 hb13 hX1 hY1 hB1
  obtain ⟨f0, f1, _, _⟩ := hF3.two
  obtain ⟨q0, q1, _, _⟩ := hQ3.two
  obtain ⟨c0, c1, _, _⟩ := hX3.two
  obtain ⟨d0, d1, _, _⟩ := hY3.two
  have hwq : IntKind.i64.wrap ((n : Int) * (m : Int)) = (q : Int) := by rw [← HQ.out, IntKind.wrap_i64]; omega
  rw [hw3] at f0 f1 q0 q1 c0 c1 d0 d1
  go_wp2_with fail
  rw [← hw3]
  clear f0 f1 q0 q1 c0 c1 d0 d1 hw3
  refine (HGF.out _ _ hB3 hP3).mono ?_
  rintro x4 w7 ⟨rfl, hb7⟩
  have hB7 := bcat2 hB3 hb7
  have hX7 := blk_below hX3 hb7
  have hY7 := blk_below hY3 hb7
  have hQ7 := blk_below hQ3 hb7
  have hF7 := blk_below hF3 hb7
  have hP7 := HPU.out _ _ _ hP3 hb7
  clear hX3 hY3 hQ3 hF3 hP3 hB3 hb7
  generalize w2.heap.size = pb at *
  obtain ⟨c0, c1, _, _⟩ := hX7.two
  obtain ⟨d0, d1, _, _⟩ := hY7.two
  have hfd := field27 0 0 w7
  go_wp2_with fail
  clear hfd
  have hS : ∀ W, Below w7.heap.size w7 W → (Below w7.heap.size w7 W ∧ W.cell? ⟨w.heap.size, 0, none⟩ = some (.int .i64 n) ∧ W.cell? ⟨w.heap.size, 1, none⟩ = some (.slice v1 v2 v3) ∧ W.cell? ⟨w.heap.size + 1, 0, none⟩ = some (.int .i64 m) ∧ W.cell? ⟨w.heap.size + 1, 1, none⟩ = some (.slice y1 y2 y3)) := fun W h => ⟨h, below_cell h c0, below_cell h c1, below_cell h d0, below_cell h d1⟩
  have hBc : Below w7.heap.size w7 w7.drew := bdrew (Below.refl _ _)
  have hS0 := hS _ hBc
  clear c0 c1 d0 d1
  go_cut [9, 10] (fun s9 s10 wx => ∃ eb db, s9 = .pointer (some ⟨eb, 0, none⟩) ∧ s10 = .pointer (some ⟨db, 0, none⟩) ∧ Boxed wx eb 3 (.int .i64 e) ∧ Boxed wx db 3 (.int .i64 d) ∧ Below w7.heap.size w7 wx)
  case first =>
    clear HBE HSE HGF HTA HTB HNR HIS HDI HQO HLC HST HIN HIO
    refine wp_region_held_drew (S := fun W => Below w7.heap.size w7 W ∧ W.cell? ⟨w.heap.size, 0, none⟩ = some (.int .i64 n) ∧ W.cell? ⟨w.heap.size, 1, none⟩ = some (.slice v1 v2 v3) ∧ W.cell? ⟨w.heap.size + 1, 0, none⟩ = some (.int .i64 m) ∧ W.cell? ⟨w.heap.size + 1, 1, none⟩ = some (.slice y1 y2 y3)) (by kernel_rfl) hS0 (fun hHeld => ?_)
    generalize w7.drew = wd at *
    refine wpAnyH_take (i := 0) (oi := ({ dst := some 58, op := Go.Op.load 24 (Go.Operand.tmp 3), type := 24, pos := _, after := _, guard := none } : Oper)) (v := ?_) rfl (by kernel_rfl) (by kernel_rfl) (by kernel_rfl) (fun _ _ _ h => h) (Or.inl ⟨by rfl, ?_⟩) (by assumption) ?_
    rotate_left
    · (intro w hSw; (try dsimp only at hSw); go_simp; try with_reducible rfl)
    simp only [Act.put, List.setIfInBounds_toArray, List.set_cons_zero, List.set_cons_succ]
    refine wpAnyH_take (i := 2) (oi := ({ dst := some 60, op := Go.Op.load 24 (Go.Operand.tmp 4), type := 24, pos := _, after := _, guard := none } : Oper)) (v := ?_) rfl (by kernel_rfl) (by kernel_rfl) (by kernel_rfl) (fun _ _ _ h => h) (Or.inl ⟨by rfl, ?_⟩) (by assumption) ?_
    rotate_left
    · (intro w hSw; (try dsimp only at hSw); go_simp; try with_reducible rfl)
    simp only [Act.put, List.setIfInBounds_toArray, List.set_cons_zero, List.set_cons_succ]
    refine wpAnyH_ready (rs := [1, 4, 5]) (by kernel_rfl) (by simp) (AllReadyH.cons (o := ({ dst := some 59, op := Go.Op.call { callee := Go.Callee.value (Go.Operand.func 7), args := #[Go.Operand.tmp 58], argTypes := #[24] }, type := 3, pos := _, after := _, guard := none } : Oper)) rfl (fun KK hK => ?_) (AllReadyH.cons (o := ({ dst := some 9, op := Go.Op.alloc 3, type := 0, pos := _, after := _, guard := none } : Oper)) rfl (fun KK hK => ?_) (AllReadyH.cons (o := ({ dst := some 10, op := Go.Op.alloc 3, type := 0, pos := _, after := _, guard := none } : Oper)) rfl (fun KK hK => ?_) AllReadyH.nil)))
    · go_simp
      refine (HE1.out _ (bcat2 hB7 hBc)).mono ?_
      rintro x1 U1 ⟨rfl, hl1⟩
      have hBc := bcat2 hBc hl1
      try go_wp2_with fail
      refine hK.out _ _ (hS _ hBc) (fun hHeld => ?_)
      clear hK
      try simp only [Act.put, List.setIfInBounds_toArray, List.set_cons_zero, List.set_cons_succ]
      refine wpAnyH_ready (rs := [3, 4, 5]) (by kernel_rfl) (by simp) (AllReadyH.cons (o := ({ dst := some 61, op := Go.Op.call { callee := Go.Callee.value (Go.Operand.func 7), args := #[Go.Operand.tmp 60], argTypes := #[24] }, type := 3, pos := _, after := _, guard := none } : Oper)) rfl (fun KK hK => ?_) (AllReadyH.cons (o := ({ dst := some 9, op := Go.Op.alloc 3, type := 0, pos := _, after := _, guard := none } : Oper)) rfl (fun KK hK => ?_) (AllReadyH.cons (o := ({ dst := some 10, op := Go.Op.alloc 3, type := 0, pos := _, after := _, guard := none } : Oper)) rfl (fun KK hK => ?_) AllReadyH.nil)))
      · go_simp
        refine (HE2.out _ (bcat2 hB7 hBc)).mono ?_
        rintro x2 U2 ⟨rfl, hl2⟩
        have hBc := bcat2 hBc hl2
        try go_wp2_with fail
        refine hK.out _ _ (hS _ hBc) (fun hHeld => ?_)
        clear hK
        try simp only [Act.put, List.setIfInBounds_toArray, List.set_cons_zero, List.set_cons_succ]
        refine wpAnyH_ready (rs := [4, 5]) (by kernel_rfl) (by simp) (AllReadyH.cons (o := ({ dst := some 9, op := Go.Op.alloc 3, type := 0, pos := _, after := _, guard := none } : Oper)) rfl (fun KK hK => ?_) (AllReadyH.cons (o := ({ dst := some 10, op := Go.Op.alloc 3, type := 0, pos := _, after := _, guard := none } : Oper)) rfl (fun KK hK => ?_) AllReadyH.nil))
        · go_simp
          have hgE : w7.heap.size ≤ (U2).heap.size := hBc.size
          have haE := balloc (U2) (.cells #[.int .i64 0] 3)
          have hBc := bcat2 hBc haE
          have hE := Boxed.new (U2) 3 (.int .i64 0)
          refine hK.out _ _ (hS _ hBc) (fun hHeld => ?_)
          clear hK
          try simp only [Act.put, List.setIfInBounds_toArray, List.set_cons_zero, List.set_cons_succ]
          generalize (U2).alloc (.cells #[.int .i64 0] 3) = WAe at *
          generalize (U2).heap.size = eb at *
          refine wpAnyH_ready (rs := [5]) (by kernel_rfl) (by simp) (AllReadyH.cons (o := ({ dst := some 10, op := Go.Op.alloc 3, type := 0, pos := _, after := _, guard := none } : Oper)) rfl (fun KK hK => ?_) AllReadyH.nil)
          go_simp
          have hgD : w7.heap.size ≤ (WAe).heap.size := hBc.size
          have haD := balloc (WAe) (.cells #[.int .i64 0] 3)
          have hBc := bcat2 hBc haD
          have hlt9 := hE.lt
          have hE := Boxed.below hE haD
          have hD := Boxed.new (WAe) 3 (.int .i64 0)
          refine hK.out _ _ (hS _ hBc) (fun hHeld => ?_)
          clear hK
          try simp only [Act.put, List.setIfInBounds_toArray, List.set_cons_zero, List.set_cons_succ]
          generalize (WAe).alloc (.cells #[.int .i64 0] 3) = WAd at *
          generalize (WAe).heap.size = db at *
          have hne : eb ≠ db := by omega
          refine wpAnyH_ready (rs := [6]) (by kernel_rfl) (by simp) (AllReadyH.cons (o := ({ dst := none, op := Go.Op.store 3 (Go.Operand.tmp 9) (Go.Operand.tmp 59), type := 0, pos := _, after := _, guard := none } : Oper)) rfl (fun KK hK => ?_) AllReadyH.nil)
          have ce := hE.cell
          have fe := hE.frozen
          go_simp
          have hBc := hBc.setCell (p := ⟨eb, 0, none⟩) hgE (.int .i64 e)
          have hE := Boxed.set (.int .i64 e) hE
          have hD := Boxed.other hD (show db ≠ eb from fun h => hne h.symm) (.int .i64 e)
          refine hK.out _ _ (hS _ hBc) (fun hHeld => ?_)
          clear hK
          try simp only [Act.put, List.setIfInBounds_toArray, List.set_cons_zero, List.set_cons_succ]
          clear ce fe
          generalize (WAd).setCell ⟨eb, 0, none⟩ (.int .i64 e) = WE at *
          refine wpAnyH_ready (rs := [7]) (by kernel_rfl) (by simp) (AllReadyH.cons (o := ({ dst := none, op := Go.Op.store 3 (Go.Operand.tmp 10) (Go.Operand.tmp 61), type := 0, pos := _, after := _, guard := none } : Oper)) rfl (fun KK hK => ?_) AllReadyH.nil)
          have ce := hD.cell
          have fe := hD.frozen
          go_simp
          have hBc := hBc.setCell (p := ⟨db, 0, none⟩) hgD (.int .i64 d)
          have hD := Boxed.set (.int .i64 d) hD
          have hE := Boxed.other hE hne (.int .i64 d)
          refine hK.out _ _ (hS _ hBc) (fun hHeld => ?_)
          clear hK
          try simp only [Act.put, List.setIfInBounds_toArray, List.set_cons_zero, List.set_cons_succ]
          clear ce fe
          refine wpAnyH_done (by kernel_rfl) ?_ _
          go_wp2
          go_meet
          exact ⟨eb, db, rfl, rfl, hE, hD, hBc⟩
        go_simp
        have hgD : w7.heap.size ≤ (U2).heap.size := hBc.size
        have haD := balloc (U2) (.cells #[.int .i64 0] 3)
        have hBc := bcat2 hBc haD
        have hD := Boxed.new (U2) 3 (.int .i64 0)
        refine hK.out _ _ (hS _ hBc) (fun hHeld => ?_)
        clear hK
        try simp only [Act.put, List.setIfInBounds_toArray, List.set_cons_zero, List.set_cons_succ]
        generalize (U2).alloc (.cells #[.int .i64 0] 3) = WAd at *
        generalize (U2).heap.size = db at *
        refine wpAnyH_ready (rs := [4]) (by kernel_rfl) (by simp) (AllReadyH.cons (o := ({ dst := some 9, op := Go.Op.alloc 3, type := 0, pos := _, after := _, guard := none } : Oper)) rfl (fun KK hK => ?_) AllReadyH.nil)
        go_simp
        have hgE : w7.heap.size ≤ (WAd).heap.size := hBc.size
        have haE := balloc (WAd) (.cells #[.int .i64 0] 3)
        have hBc := bcat2 hBc haE
        have hlt9 := hD.lt
        have hD := Boxed.below hD haE
        have hE := Boxed.new (WAd) 3 (.int .i64 0)
        refine hK.out _ _ (hS _ hBc) (fun hHeld => ?_)
        clear hK
        try simp only [Act.put, List.setIfInBounds_toArray, List.set_cons_zero, List.set_cons_succ]
        generalize (WAd).alloc (.cells #[.int .i64 0] 3) = WAe at *
        generalize (WAd).heap.size = eb at *
        have hne : eb ≠ db := by omega
        refine wpAnyH_ready (rs := [6]) (by kernel_rfl) (by simp) (AllReadyH.cons (o := ({ dst := none, op := Go.Op.store 3 (Go.Operand.tmp 9) (Go.Operand.tmp 59), type := 0, pos := _, after := _, guard := none } : Oper)) rfl (fun KK hK => ?_) AllReadyH.nil)
        have ce := hE.cell
        have fe := hE.frozen
        go_simp
        have hBc := hBc.setCell (p := ⟨eb, 0, none⟩) hgE (.int .i64 e)
        have hE := Boxed.set (.int .i64 e) hE
        have hD := Boxed.other hD (show db ≠ eb from fun h => hne h.symm) (.int .i64 e)
        refine hK.out _ _ (hS _ hBc) (fun hHeld => ?_)
        clear hK
        try simp only [Act.put, List.setIfInBounds_toArray, List.set_cons_zero, List.set_cons_succ]
        clear ce fe
        generalize (WAe).setCell ⟨eb, 0, none⟩ (.int .i64 e) = WE at *
        refine wpAnyH_ready (rs := [7]) (by kernel_rfl) (by simp) (AllReadyH.cons (o := ({ dst := none, op := Go.Op.store 3 (Go.Operand.tmp 10) (Go.Operand.tmp 61), type := 0, pos := _, after := _, guard := none } : Oper)) rfl (fun KK hK => ?_) AllReadyH.nil)
        have ce := hD.cell
        have fe := hD.frozen
        go_simp
        have hBc := hBc.setCell (p := ⟨db, 0, none⟩) hgD (.int .i64 d)
        have hD := Boxed.set (.int .i64 d) hD
        have hE := Boxed.other hE hne (.int .i64 d)
        refine hK.out _ _ (hS _ hBc) (fun hHeld => ?_)
        clear hK
        try simp only [Act.put, List.setIfInBounds_toArray, List.set_cons_zero, List.set_cons_succ]
        clear ce fe
        refine wpAnyH_done (by kernel_rfl) ?_ _
        go_wp2
        go_meet
        exact ⟨eb, db, rfl, rfl, hE, hD, hBc⟩
      · go_simp
        have hgE : w7.heap.size ≤ (U1).heap.size := hBc.size
        have haE := balloc (U1) (.cells #[.int .i64 0] 3)
        have hBc := bcat2 hBc haE
        have hE := Boxed.new (U1) 3 (.int .i64 0)
        refine hK.out _ _ (hS _ hBc) (fun hHeld => ?_)
        clear hK
        try simp only [Act.put, List.setIfInBounds_toArray, List.set_cons_zero, List.set_cons_succ]
        generalize (U1).alloc (.cells #[.int .i64 0] 3) = WAe at *
        generalize (U1).heap.size = eb at *
        refine wpAnyH_ready (rs := [3, 5]) (by kernel_rfl) (by simp) (AllReadyH.cons (o := ({ dst := some 61, op := Go.Op.call { callee := Go.Callee.value (Go.Operand.func 7), args := #[Go.Operand.tmp 60], argTypes := #[24] }, type := 3, pos := _, after := _, guard := none } : Oper)) rfl (fun KK hK => ?_) (AllReadyH.cons (o := ({ dst := some 10, op := Go.Op.alloc 3, type := 0, pos := _, after := _, guard := none } : Oper)) rfl (fun KK hK => ?_) AllReadyH.nil))
        · go_simp
          refine (HE2.out _ (bcat2 hB7 hBc)).mono ?_
          rintro x2 U2 ⟨rfl, hl2⟩
          have hBc := bcat2 hBc hl2
          have hE := Boxed.below hE hl2
          try go_wp2_with fail
          refine hK.out _ _ (hS _ hBc) (fun hHeld => ?_)
          clear hK
          try simp only [Act.put, List.setIfInBounds_toArray, List.set_cons_zero, List.set_cons_succ]
          refine wpAnyH_ready (rs := [5]) (by kernel_rfl) (by simp) (AllReadyH.cons (o := ({ dst := some 10, op := Go.Op.alloc 3, type := 0, pos := _, after := _, guard := none } : Oper)) rfl (fun KK hK => ?_) AllReadyH.nil)
          go_simp
          have hgD : w7.heap.size ≤ (U2).heap.size := hBc.size
          have haD := balloc (U2) (.cells #[.int .i64 0] 3)
          have hBc := bcat2 hBc haD
          have hlt9 := hE.lt
          have hE := Boxed.below hE haD
          have hD := Boxed.new (U2) 3 (.int .i64 0)
          refine hK.out _ _ (hS _ hBc) (fun hHeld => ?_)
          clear hK
          try simp only [Act.put, List.setIfInBounds_toArray, List.set_cons_zero, List.set_cons_succ]
          generalize (U2).alloc (.cells #[.int .i64 0] 3) = WAd at *
          generalize (U2).heap.size = db at *
          have hne : eb ≠ db := by omega
          refine wpAnyH_ready (rs := [6]) (by kernel_rfl) (by simp) (AllReadyH.cons (o := ({ dst := none, op := Go.Op.store 3 (Go.Operand.tmp 9) (Go.Operand.tmp 59), type := 0, pos := _, after := _, guard := none } : Oper)) rfl (fun KK hK => ?_) AllReadyH.nil)
          have ce := hE.cell
          have fe := hE.frozen
          go_simp
          have hBc := hBc.setCell (p := ⟨eb, 0, none⟩) hgE (.int .i64 e)
          have hE := Boxed.set (.int .i64 e) hE
          have hD := Boxed.other hD (show db ≠ eb from fun h => hne h.symm) (.int .i64 e)
          refine hK.out _ _ (hS _ hBc) (fun hHeld => ?_)
          clear hK
          try simp only [Act.put, List.setIfInBounds_toArray, List.set_cons_zero, List.set_cons_succ]
          clear ce fe
          generalize (WAd).setCell ⟨eb, 0, none⟩ (.int .i64 e) = WE at *
          refine wpAnyH_ready (rs := [7]) (by kernel_rfl) (by simp) (AllReadyH.cons (o := ({ dst := none, op := Go.Op.store 3 (Go.Operand.tmp 10) (Go.Operand.tmp 61), type := 0, pos := _, after := _, guard := none } : Oper)) rfl (fun KK hK => ?_) AllReadyH.nil)
          have ce := hD.cell
          have fe := hD.frozen
          go_simp
          have hBc := hBc.setCell (p := ⟨db, 0, none⟩) hgD (.int .i64 d)
          have hD := Boxed.set (.int .i64 d) hD
          have hE := Boxed.other hE hne (.int .i64 d)
          refine hK.out _ _ (hS _ hBc) (fun hHeld => ?_)
          clear hK
          try simp only [Act.put, List.setIfInBounds_toArray, List.set_cons_zero, List.set_cons_succ]
          clear ce fe
          refine wpAnyH_done (by kernel_rfl) ?_ _
          go_wp2
          go_meet
          exact ⟨eb, db, rfl, rfl, hE, hD, hBc⟩
        go_simp
        have hgD : w7.heap.size ≤ (WAe).heap.size := hBc.size
        have haD := balloc (WAe) (.cells #[.int .i64 0] 3)
        have hBc := bcat2 hBc haD
        have hlt9 := hE.lt
        have hE := Boxed.below hE haD
        have hD := Boxed.new (WAe) 3 (.int .i64 0)
        refine hK.out _ _ (hS _ hBc) (fun hHeld => ?_)
        clear hK
        try simp only [Act.put, List.setIfInBounds_toArray, List.set_cons_zero, List.set_cons_succ]
        generalize (WAe).alloc (.cells #[.int .i64 0] 3) = WAd at *
        generalize (WAe).heap.size = db at *
        have hne : eb ≠ db := by omega
        refine wpAnyH_ready (rs := [3]) (by kernel_rfl) (by simp) (AllReadyH.cons (o := ({ dst := some 61, op := Go.Op.call { callee := Go.Callee.value (Go.Operand.func 7), args := #[Go.Operand.tmp 60], argTypes := #[24] }, type := 3, pos := _, after := _, guard := none } : Oper)) rfl (fun KK hK => ?_) AllReadyH.nil)
        go_simp
        refine (HE2.out _ (bcat2 hB7 hBc)).mono ?_
        rintro x2 U2 ⟨rfl, hl2⟩
        have hBc := bcat2 hBc hl2
        have hE := Boxed.below hE hl2
        have hD := Boxed.below hD hl2
        try go_wp2_with fail
        refine hK.out _ _ (hS _ hBc) (fun hHeld => ?_)
        clear hK
        try simp only [Act.put, List.setIfInBounds_toArray, List.set_cons_zero, List.set_cons_succ]
        refine wpAnyH_ready (rs := [6]) (by kernel_rfl) (by simp) (AllReadyH.cons (o := ({ dst := none, op := Go.Op.store 3 (Go.Operand.tmp 9) (Go.Operand.tmp 59), type := 0, pos := _, after := _, guard := none } : Oper)) rfl (fun KK hK => ?_) AllReadyH.nil)
        have ce := hE.cell
        have fe := hE.frozen
        go_simp
        have hBc := hBc.setCell (p := ⟨eb, 0, none⟩) hgE (.int .i64 e)
        have hE := Boxed.set (.int .i64 e) hE
        have hD := Boxed.other hD (show db ≠ eb from fun h => hne h.symm) (.int .i64 e)
        refine hK.out _ _ (hS _ hBc) (fun hHeld => ?_)
        clear hK
        try simp only [Act.put, List.setIfInBounds_toArray, List.set_cons_zero, List.set_cons_succ]
        clear ce fe
        generalize (U2).setCell ⟨eb, 0, none⟩ (.int .i64 e) = WE at *
        refine wpAnyH_ready (rs := [7]) (by kernel_rfl) (by simp) (AllReadyH.cons (o := ({ dst := none, op := Go.Op.store 3 (Go.Operand.tmp 10) (Go.Operand.tmp 61), type := 0, pos := _, after := _, guard := none } : Oper)) rfl (fun KK hK => ?_) AllReadyH.nil)
        have ce := hD.cell
        have fe := hD.frozen
        go_simp
        have hBc := hBc.setCell (p := ⟨db, 0, none⟩) hgD (.int .i64 d)
        have hD := Boxed.set (.int .i64 d) hD
        have hE := Boxed.other hE hne (.int .i64 d)
        refine hK.out _ _ (hS _ hBc) (fun hHeld => ?_)
        clear hK
        try simp only [Act.put, List.setIfInBounds_toArray, List.set_cons_zero, List.set_cons_succ]
        clear ce fe
        refine wpAnyH_done (by kernel_rfl) ?_ _
        go_wp2
        go_meet
        exact ⟨eb, db, rfl, rfl, hE, hD, hBc⟩
      go_simp
      have hgD : w7.heap.size ≤ (U1).heap.size := hBc.size
      have haD := balloc (U1) (.cells #[.int .i64 0] 3)
      have hBc := bcat2 hBc haD
      have hD := Boxed.new (U1) 3 (.int .i64 0)
      refine hK.out _ _ (hS _ hBc) (fun hHeld => ?_)
      clear hK
      try simp only [Act.put, List.setIfInBounds_toArray, List.set_cons_zero, List.set_cons_succ]
      generalize (U1).alloc (.cells #[.int .i64 0] 3) = WAd at *
      generalize (U1).heap.size = db at *
      refine wpAnyH_ready (rs := [3, 4]) (by kernel_rfl) (by simp) (AllReadyH.cons (o := ({ dst := some 61, op := Go.Op.call { callee := Go.Callee.value (Go.Operand.func 7), args := #[Go.Operand.tmp 60], argTypes := #[24] }, type := 3, pos := _, after := _, guard := none } : Oper)) rfl (fun KK hK => ?_) (AllReadyH.cons (o := ({ dst := some 9, op := Go.Op.alloc 3, type := 0, pos := _, after := _, guard := none } : Oper)) rfl (fun KK hK => ?_) AllReadyH.nil))
      · go_simp
        refine (HE2.out _ (bcat2 hB7 hBc)).mono ?_
        rintro x2 U2 ⟨rfl, hl2⟩
        have hBc := bcat2 hBc hl2
        have hD := Boxed.below hD hl2
        try go_wp2_with fail
        refine hK.out _ _ (hS _ hBc) (fun hHeld => ?_)
        clear hK
        try simp only [Act.put, List.setIfInBounds_toArray, List.set_cons_zero, List.set_cons_succ]
        refine wpAnyH_ready (rs := [4]) (by kernel_rfl) (by simp) (AllReadyH.cons (o := ({ dst := some 9, op := Go.Op.alloc 3, type := 0, pos := _, after := _, guard := none } : Oper)) rfl (fun KK hK => ?_) AllReadyH.nil)
        go_simp
        have hgE : w7.heap.size ≤ (U2).heap.size := hBc.size
        have haE := balloc (U2) (.cells #[.int .i64 0] 3)
        have hBc := bcat2 hBc haE
        have hlt9 := hD.lt
        have hD := Boxed.below hD haE
        have hE := Boxed.new (U2) 3 (.int .i64 0)
        refine hK.out _ _ (hS _ hBc) (fun hHeld => ?_)
        clear hK
        try simp only [Act.put, List.setIfInBounds_toArray, List.set_cons_zero, List.set_cons_succ]
        generalize (U2).alloc (.cells #[.int .i64 0] 3) = WAe at *
        generalize (U2).heap.size = eb at *
        have hne : eb ≠ db := by omega
        refine wpAnyH_ready (rs := [6]) (by kernel_rfl) (by simp) (AllReadyH.cons (o := ({ dst := none, op := Go.Op.store 3 (Go.Operand.tmp 9) (Go.Operand.tmp 59), type := 0, pos := _, after := _, guard := none } : Oper)) rfl (fun KK hK => ?_) AllReadyH.nil)
        have ce := hE.cell
        have fe := hE.frozen
        go_simp
        have hBc := hBc.setCell (p := ⟨eb, 0, none⟩) hgE (.int .i64 e)
        have hE := Boxed.set (.int .i64 e) hE
        have hD := Boxed.other hD (show db ≠ eb from fun h => hne h.symm) (.int .i64 e)
        refine hK.out _ _ (hS _ hBc) (fun hHeld => ?_)
        clear hK
        try simp only [Act.put, List.setIfInBounds_toArray, List.set_cons_zero, List.set_cons_succ]
        clear ce fe
        generalize (WAe).setCell ⟨eb, 0, none⟩ (.int .i64 e) = WE at *
        refine wpAnyH_ready (rs := [7]) (by kernel_rfl) (by simp) (AllReadyH.cons (o := ({ dst := none, op := Go.Op.store 3 (Go.Operand.tmp 10) (Go.Operand.tmp 61), type := 0, pos := _, after := _, guard := none } : Oper)) rfl (fun KK hK => ?_) AllReadyH.nil)
        have ce := hD.cell
        have fe := hD.frozen
        go_simp
        have hBc := hBc.setCell (p := ⟨db, 0, none⟩) hgD (.int .i64 d)
        have hD := Boxed.set (.int .i64 d) hD
        have hE := Boxed.other hE hne (.int .i64 d)
        refine hK.out _ _ (hS _ hBc) (fun hHeld => ?_)
        clear hK
        try simp only [Act.put, List.setIfInBounds_toArray, List.set_cons_zero, List.set_cons_succ]
        clear ce fe
        refine wpAnyH_done (by kernel_rfl) ?_ _
        go_wp2
        go_meet
        exact ⟨eb, db, rfl, rfl, hE, hD, hBc⟩
      go_simp
      have hgE : w7.heap.size ≤ (WAd).heap.size := hBc.size
      have haE := balloc (WAd) (.cells #[.int .i64 0] 3)
      have hBc := bcat2 hBc haE
      have hlt9 := hD.lt
      have hD := Boxed.below hD haE
      have hE := Boxed.new (WAd) 3 (.int .i64 0)
      refine hK.out _ _ (hS _ hBc) (fun hHeld => ?_)
      clear hK
      try simp only [Act.put, List.setIfInBounds_toArray, List.set_cons_zero, List.set_cons_succ]
      generalize (WAd).alloc (.cells #[.int .i64 0] 3) = WAe at *
      generalize (WAd).heap.size = eb at *
      have hne : eb ≠ db := by omega
      refine wpAnyH_ready (rs := [3]) (by kernel_rfl) (by simp) (AllReadyH.cons (o := ({ dst := some 61, op := Go.Op.call { callee := Go.Callee.value (Go.Operand.func 7), args := #[Go.Operand.tmp 60], argTypes := #[24] }, type := 3, pos := _, after := _, guard := none } : Oper)) rfl (fun KK hK => ?_) AllReadyH.nil)
      go_simp
      refine (HE2.out _ (bcat2 hB7 hBc)).mono ?_
      rintro x2 U2 ⟨rfl, hl2⟩
      have hBc := bcat2 hBc hl2
      have hE := Boxed.below hE hl2
      have hD := Boxed.below hD hl2
      try go_wp2_with fail
      refine hK.out _ _ (hS _ hBc) (fun hHeld => ?_)
      clear hK
      try simp only [Act.put, List.setIfInBounds_toArray, List.set_cons_zero, List.set_cons_succ]
      refine wpAnyH_ready (rs := [6]) (by kernel_rfl) (by simp) (AllReadyH.cons (o := ({ dst := none, op := Go.Op.store 3 (Go.Operand.tmp 9) (Go.Operand.tmp 59), type := 0, pos := _, after := _, guard := none } : Oper)) rfl (fun KK hK => ?_) AllReadyH.nil)
      have ce := hE.cell
      have fe := hE.frozen
      go_simp
      have hBc := hBc.setCell (p := ⟨eb, 0, none⟩) hgE (.int .i64 e)
      have hE := Boxed.set (.int .i64 e) hE
      have hD := Boxed.other hD (show db ≠ eb from fun h => hne h.symm) (.int .i64 e)
      refine hK.out _ _ (hS _ hBc) (fun hHeld => ?_)
      clear hK
      try simp only [Act.put, List.setIfInBounds_toArray, List.set_cons_zero, List.set_cons_succ]
      clear ce fe
      generalize (U2).setCell ⟨eb, 0, none⟩ (.int .i64 e) = WE at *
      refine wpAnyH_ready (rs := [7]) (by kernel_rfl) (by simp) (AllReadyH.cons (o := ({ dst := none, op := Go.Op.store 3 (Go.Operand.tmp 10) (Go.Operand.tmp 61), type := 0, pos := _, after := _, guard := none } : Oper)) rfl (fun KK hK => ?_) AllReadyH.nil)
      have ce := hD.cell
      have fe := hD.frozen
      go_simp
      have hBc := hBc.setCell (p := ⟨db, 0, none⟩) hgD (.int .i64 d)
      have hD := Boxed.set (.int .i64 d) hD
      have hE := Boxed.other hE hne (.int .i64 d)
      refine hK.out _ _ (hS _ hBc) (fun hHeld => ?_)
      clear hK
      try simp only [Act.put, List.setIfInBounds_toArray, List.set_cons_zero, List.set_cons_succ]
      clear ce fe
      refine wpAnyH_done (by kernel_rfl) ?_ _
      go_wp2
      go_meet
      exact ⟨eb, db, rfl, rfl, hE, hD, hBc⟩
    · go_simp
      have hgE : w7.heap.size ≤ (wd).heap.size := hBc.size
      have haE := balloc (wd) (.cells #[.int .i64 0] 3)
      have hBc := bcat2 hBc haE
      have hE := Boxed.new (wd) 3 (.int .i64 0)
      refine hK.out _ _ (hS _ hBc) (fun hHeld => ?_)
      clear hK
      try simp only [Act.put, List.setIfInBounds_toArray, List.set_cons_zero, List.set_cons_succ]
      generalize (wd).alloc (.cells #[.int .i64 0] 3) = WAe at *
      generalize (wd).heap.size = eb at *
      refine wpAnyH_ready (rs := [1, 5]) (by kernel_rfl) (by simp) (AllReadyH.cons (o := ({ dst := some 59, op := Go.Op.call { callee := Go.Callee.value (Go.Operand.func 7), args := #[Go.Operand.tmp 58], argTypes := #[24] }, type := 3, pos := _, after := _, guard := none } : Oper)) rfl (fun KK hK => ?_) (AllReadyH.cons (o := ({ dst := some 10, op := Go.Op.alloc 3, type := 0, pos := _, after := _, guard := none } : Oper)) rfl (fun KK hK => ?_) AllReadyH.nil))
      · go_simp
        refine (HE1.out _ (bcat2 hB7 hBc)).mono ?_
        rintro x1 U1 ⟨rfl, hl1⟩
        have hBc := bcat2 hBc hl1
        have hE := Boxed.below hE hl1
        try go_wp2_with fail
        refine hK.out _ _ (hS _ hBc) (fun hHeld => ?_)
        clear hK
        try simp only [Act.put, List.setIfInBounds_toArray, List.set_cons_zero, List.set_cons_succ]
        refine wpAnyH_ready (rs := [3, 5]) (by kernel_rfl) (by simp) (AllReadyH.cons (o := ({ dst := some 61, op := Go.Op.call { callee := Go.Callee.value (Go.Operand.func 7), args := #[Go.Operand.tmp 60], argTypes := #[24] }, type := 3, pos := _, after := _, guard := none } : Oper)) rfl (fun KK hK => ?_) (AllReadyH.cons (o := ({ dst := some 10, op := Go.Op.alloc 3, type := 0, pos := _, after := _, guard := none } : Oper)) rfl (fun KK hK => ?_) AllReadyH.nil))
        · go_simp
          refine (HE2.out _ (bcat2 hB7 hBc)).mono ?_
          rintro x2 U2 ⟨rfl, hl2⟩
          have hBc := bcat2 hBc hl2
          have hE := Boxed.below hE hl2
          try go_wp2_with fail
          refine hK.out _ _ (hS _ hBc) (fun hHeld => ?_)
          clear hK
          try simp only [Act.put, List.setIfInBounds_toArray, List.set_cons_zero, List.set_cons_succ]
          refine wpAnyH_ready (rs := [5]) (by kernel_rfl) (by simp) (AllReadyH.cons (o := ({ dst := some 10, op := Go.Op.alloc 3, type := 0, pos := _, after := _, guard := none } : Oper)) rfl (fun KK hK => ?_) AllReadyH.nil)
          go_simp
          have hgD : w7.heap.size ≤ (U2).heap.size := hBc.size
          have haD := balloc (U2) (.cells #[.int .i64 0] 3)
          have hBc := bcat2 hBc haD
          have hlt9 := hE.lt
          have hE := Boxed.below hE haD
          have hD := Boxed.new (U2) 3 (.int .i64 0)
          refine hK.out _ _ (hS _ hBc) (fun hHeld => ?_)
          clear hK
          try simp only [Act.put, List.setIfInBounds_toArray, List.set_cons_zero, List.set_cons_succ]
          generalize (U2).alloc (.cells #[.int .i64 0] 3) = WAd at *
          generalize (U2).heap.size = db at *
          have hne : eb ≠ db := by omega
          refine wpAnyH_ready (rs := [6]) (by kernel_rfl) (by simp) (AllReadyH.cons (o := ({ dst := none, op := Go.Op.store 3 (Go.Operand.tmp 9) (Go.Operand.tmp 59), type := 0, pos := _, after := _, guard := none } : Oper)) rfl (fun KK hK => ?_) AllReadyH.nil)
          have ce := hE.cell
          have fe := hE.frozen
          go_simp
          have hBc := hBc.setCell (p := ⟨eb, 0, none⟩) hgE (.int .i64 e)
          have hE := Boxed.set (.int .i64 e) hE
          have hD := Boxed.other hD (show db ≠ eb from fun h => hne h.symm) (.int .i64 e)
          refine hK.out _ _ (hS _ hBc) (fun hHeld => ?_)
          clear hK
          try simp only [Act.put, List.setIfInBounds_toArray, List.set_cons_zero, List.set_cons_succ]
          clear ce fe
          generalize (WAd).setCell ⟨eb, 0, none⟩ (.int .i64 e) = WE at *
          refine wpAnyH_ready (rs := [7]) (by kernel_rfl) (by simp) (AllReadyH.cons (o := ({ dst := none, op := Go.Op.store 3 (Go.Operand.tmp 10) (Go.Operand.tmp 61), type := 0, pos := _, after := _, guard := none } : Oper)) rfl (fun KK hK => ?_) AllReadyH.nil)
          have ce := hD.cell
          have fe := hD.frozen
          go_simp
          have hBc := hBc.setCell (p := ⟨db, 0, none⟩) hgD (.int .i64 d)
          have hD := Boxed.set (.int .i64 d) hD
          have hE := Boxed.other hE hne (.int .i64 d)
          refine hK.out _ _ (hS _ hBc) (fun hHeld => ?_)
          clear hK
          try simp only [Act.put, List.setIfInBounds_toArray, List.set_cons_zero, List.set_cons_succ]
          clear ce fe
          refine wpAnyH_done (by kernel_rfl) ?_ _
          go_wp2
          go_meet
          exact ⟨eb, db, rfl, rfl, hE, hD, hBc⟩
        go_simp
        have hgD : w7.heap.size ≤ (U1).heap.size := hBc.size
        have haD := balloc (U1) (.cells #[.int .i64 0] 3)
        have hBc := bcat2 hBc haD
        have hlt9 := hE.lt
        have hE := Boxed.below hE haD
        have hD := Boxed.new (U1) 3 (.int .i64 0)
        refine hK.out _ _ (hS _ hBc) (fun hHeld => ?_)
        clear hK
        try simp only [Act.put, List.setIfInBounds_toArray, List.set_cons_zero, List.set_cons_succ]
        generalize (U1).alloc (.cells #[.int .i64 0] 3) = WAd at *
        generalize (U1).heap.size = db at *
        have hne : eb ≠ db := by omega
        refine wpAnyH_ready (rs := [3]) (by kernel_rfl) (by simp) (AllReadyH.cons (o := ({ dst := some 61, op := Go.Op.call { callee := Go.Callee.value (Go.Operand.func 7), args := #[Go.Operand.tmp 60], argTypes := #[24] }, type := 3, pos := _, after := _, guard := none } : Oper)) rfl (fun KK hK => ?_) AllReadyH.nil)
        go_simp
        refine (HE2.out _ (bcat2 hB7 hBc)).mono ?_
        rintro x2 U2 ⟨rfl, hl2⟩
        have hBc := bcat2 hBc hl2
        have hE := Boxed.below hE hl2
        have hD := Boxed.below hD hl2
        try go_wp2_with fail
        refine hK.out _ _ (hS _ hBc) (fun hHeld => ?_)
        clear hK
        try simp only [Act.put, List.setIfInBounds_toArray, List.set_cons_zero, List.set_cons_succ]
        refine wpAnyH_ready (rs := [6]) (by kernel_rfl) (by simp) (AllReadyH.cons (o := ({ dst := none, op := Go.Op.store 3 (Go.Operand.tmp 9) (Go.Operand.tmp 59), type := 0, pos := _, after := _, guard := none } : Oper)) rfl (fun KK hK => ?_) AllReadyH.nil)
        have ce := hE.cell
        have fe := hE.frozen
        go_simp
        have hBc := hBc.setCell (p := ⟨eb, 0, none⟩) hgE (.int .i64 e)
        have hE := Boxed.set (.int .i64 e) hE
        have hD := Boxed.other hD (show db ≠ eb from fun h => hne h.symm) (.int .i64 e)
        refine hK.out _ _ (hS _ hBc) (fun hHeld => ?_)
        clear hK
        try simp only [Act.put, List.setIfInBounds_toArray, List.set_cons_zero, List.set_cons_succ]
        clear ce fe
        generalize (U2).setCell ⟨eb, 0, none⟩ (.int .i64 e) = WE at *
        refine wpAnyH_ready (rs := [7]) (by kernel_rfl) (by simp) (AllReadyH.cons (o := ({ dst := none, op := Go.Op.store 3 (Go.Operand.tmp 10) (Go.Operand.tmp 61), type := 0, pos := _, after := _, guard := none } : Oper)) rfl (fun KK hK => ?_) AllReadyH.nil)
        have ce := hD.cell
        have fe := hD.frozen
        go_simp
        have hBc := hBc.setCell (p := ⟨db, 0, none⟩) hgD (.int .i64 d)
        have hD := Boxed.set (.int .i64 d) hD
        have hE := Boxed.other hE hne (.int .i64 d)
        refine hK.out _ _ (hS _ hBc) (fun hHeld => ?_)
        clear hK
        try simp only [Act.put, List.setIfInBounds_toArray, List.set_cons_zero, List.set_cons_succ]
        clear ce fe
        refine wpAnyH_done (by kernel_rfl) ?_ _
        go_wp2
        go_meet
        exact ⟨eb, db, rfl, rfl, hE, hD, hBc⟩
      go_simp
      have hgD : w7.heap.size ≤ (WAe).heap.size := hBc.size
      have haD := balloc (WAe) (.cells #[.int .i64 0] 3)
      have hBc := bcat2 hBc haD
      have hlt9 := hE.lt
      have hE := Boxed.below hE haD
      have hD := Boxed.new (WAe) 3 (.int .i64 0)
      refine hK.out _ _ (hS _ hBc) (fun hHeld => ?_)
      clear hK
      try simp only [Act.put, List.setIfInBounds_toArray, List.set_cons_zero, List.set_cons_succ]
      generalize (WAe).alloc (.cells #[.int .i64 0] 3) = WAd at *
      generalize (WAe).heap.size = db at *
      have hne : eb ≠ db := by omega
      refine wpAnyH_ready (rs := [1]) (by kernel_rfl) (by simp) (AllReadyH.cons (o := ({ dst := some 59, op := Go.Op.call { callee := Go.Callee.value (Go.Operand.func 7), args := #[Go.Operand.tmp 58], argTypes := #[24] }, type := 3, pos := _, after := _, guard := none } : Oper)) rfl (fun KK hK => ?_) AllReadyH.nil)
      go_simp
      refine (HE1.out _ (bcat2 hB7 hBc)).mono ?_
      rintro x1 U1 ⟨rfl, hl1⟩
      have hBc := bcat2 hBc hl1
      have hE := Boxed.below hE hl1
      have hD := Boxed.below hD hl1
      try go_wp2_with fail
      refine hK.out _ _ (hS _ hBc) (fun hHeld => ?_)
      clear hK
      try simp only [Act.put, List.setIfInBounds_toArray, List.set_cons_zero, List.set_cons_succ]
      refine wpAnyH_ready (rs := [3]) (by kernel_rfl) (by simp) (AllReadyH.cons (o := ({ dst := some 61, op := Go.Op.call { callee := Go.Callee.value (Go.Operand.func 7), args := #[Go.Operand.tmp 60], argTypes := #[24] }, type := 3, pos := _, after := _, guard := none } : Oper)) rfl (fun KK hK => ?_) AllReadyH.nil)
      go_simp
      refine (HE2.out _ (bcat2 hB7 hBc)).mono ?_
      rintro x2 U2 ⟨rfl, hl2⟩
      have hBc := bcat2 hBc hl2
      have hE := Boxed.below hE hl2
      have hD := Boxed.below hD hl2
      try go_wp2_with fail
      refine hK.out _ _ (hS _ hBc) (fun hHeld => ?_)
      clear hK
      try simp only [Act.put, List.setIfInBounds_toArray, List.set_cons_zero, List.set_cons_succ]
      refine wpAnyH_ready (rs := [6]) (by kernel_rfl) (by simp) (AllReadyH.cons (o := ({ dst := none, op := Go.Op.store 3 (Go.Operand.tmp 9) (Go.Operand.tmp 59), type := 0, pos := _, after := _, guard := none } : Oper)) rfl (fun KK hK => ?_) AllReadyH.nil)
      have ce := hE.cell
      have fe := hE.frozen
      go_simp
      have hBc := hBc.setCell (p := ⟨eb, 0, none⟩) hgE (.int .i64 e)
      have hE := Boxed.set (.int .i64 e) hE
      have hD := Boxed.other hD (show db ≠ eb from fun h => hne h.symm) (.int .i64 e)
      refine hK.out _ _ (hS _ hBc) (fun hHeld => ?_)
      clear hK
      try simp only [Act.put, List.setIfInBounds_toArray, List.set_cons_zero, List.set_cons_succ]
      clear ce fe
      generalize (U2).setCell ⟨eb, 0, none⟩ (.int .i64 e) = WE at *
      refine wpAnyH_ready (rs := [7]) (by kernel_rfl) (by simp) (AllReadyH.cons (o := ({ dst := none, op := Go.Op.store 3 (Go.Operand.tmp 10) (Go.Operand.tmp 61), type := 0, pos := _, after := _, guard := none } : Oper)) rfl (fun KK hK => ?_) AllReadyH.nil)
      have ce := hD.cell
      have fe := hD.frozen
      go_simp
      have hBc := hBc.setCell (p := ⟨db, 0, none⟩) hgD (.int .i64 d)
      have hD := Boxed.set (.int .i64 d) hD
      have hE := Boxed.other hE hne (.int .i64 d)
      refine hK.out _ _ (hS _ hBc) (fun hHeld => ?_)
      clear hK
      try simp only [Act.put, List.setIfInBounds_toArray, List.set_cons_zero, List.set_cons_succ]
      clear ce fe
      refine wpAnyH_done (by kernel_rfl) ?_ _
      go_wp2
      go_meet
      exact ⟨eb, db, rfl, rfl, hE, hD, hBc⟩
    go_simp
    have hgD : w7.heap.size ≤ (wd).heap.size := hBc.size
    have haD := balloc (wd) (.cells #[.int .i64 0] 3)
    have hBc := bcat2 hBc haD
    have hD := Boxed.new (wd) 3 (.int .i64 0)
    refine hK.out _ _ (hS _ hBc) (fun hHeld => ?_)
    clear hK
    try simp only [Act.put, List.setIfInBounds_toArray, List.set_cons_zero, List.set_cons_succ]
    generalize (wd).alloc (.cells #[.int .i64 0] 3) = WAd at *
    generalize (wd).heap.size = db at *
    refine wpAnyH_ready (rs := [1, 4]) (by kernel_rfl) (by simp) (AllReadyH.cons (o := ({ dst := some 59, op := Go.Op.call { callee := Go.Callee.value (Go.Operand.func 7), args := #[Go.Operand.tmp 58], argTypes := #[24] }, type := 3, pos := _, after := _, guard := none } : Oper)) rfl (fun KK hK => ?_) (AllReadyH.cons (o := ({ dst := some 9, op := Go.Op.alloc 3, type := 0, pos := _, after := _, guard := none } : Oper)) rfl (fun KK hK => ?_) AllReadyH.nil))
    · go_simp
      refine (HE1.out _ (bcat2 hB7 hBc)).mono ?_
      rintro x1 U1 ⟨rfl, hl1⟩
      have hBc := bcat2 hBc hl1
      have hD := Boxed.below hD hl1
      try go_wp2_with fail
      refine hK.out _ _ (hS _ hBc) (fun hHeld => ?_)
      clear hK
      try simp only [Act.put, List.setIfInBounds_toArray, List.set_cons_zero, List.set_cons_succ]
      refine wpAnyH_ready (rs := [3, 4]) (by kernel_rfl) (by simp) (AllReadyH.cons (o := ({ dst := some 61, op := Go.Op.call { callee := Go.Callee.value (Go.Operand.func 7), args := #[Go.Operand.tmp 60], argTypes := #[24] }, type := 3, pos := _, after := _, guard := none } : Oper)) rfl (fun KK hK => ?_) (AllReadyH.cons (o := ({ dst := some 9, op := Go.Op.alloc 3, type := 0, pos := _, after := _, guard := none } : Oper)) rfl (fun KK hK => ?_) AllReadyH.nil))
      · go_simp
        refine (HE2.out _ (bcat2 hB7 hBc)).mono ?_
        rintro x2 U2 ⟨rfl, hl2⟩
        have hBc := bcat2 hBc hl2
        have hD := Boxed.below hD hl2
        try go_wp2_with fail
        refine hK.out _ _ (hS _ hBc) (fun hHeld => ?_)
        clear hK
        try simp only [Act.put, List.setIfInBounds_toArray, List.set_cons_zero, List.set_cons_succ]
        refine wpAnyH_ready (rs := [4]) (by kernel_rfl) (by simp) (AllReadyH.cons (o := ({ dst := some 9, op := Go.Op.alloc 3, type := 0, pos := _, after := _, guard := none } : Oper)) rfl (fun KK hK => ?_) AllReadyH.nil)
        go_simp
        have hgE : w7.heap.size ≤ (U2).heap.size := hBc.size
        have haE := balloc (U2) (.cells #[.int .i64 0] 3)
        have hBc := bcat2 hBc haE
        have hlt9 := hD.lt
        have hD := Boxed.below hD haE
        have hE := Boxed.new (U2) 3 (.int .i64 0)
        refine hK.out _ _ (hS _ hBc) (fun hHeld => ?_)
        clear hK
        try simp only [Act.put, List.setIfInBounds_toArray, List.set_cons_zero, List.set_cons_succ]
        generalize (U2).alloc (.cells #[.int .i64 0] 3) = WAe at *
        generalize (U2).heap.size = eb at *
        have hne : eb ≠ db := by omega
        refine wpAnyH_ready (rs := [6]) (by kernel_rfl) (by simp) (AllReadyH.cons (o := ({ dst := none, op := Go.Op.store 3 (Go.Operand.tmp 9) (Go.Operand.tmp 59), type := 0, pos := _, after := _, guard := none } : Oper)) rfl (fun KK hK => ?_) AllReadyH.nil)
        have ce := hE.cell
        have fe := hE.frozen
        go_simp
        have hBc := hBc.setCell (p := ⟨eb, 0, none⟩) hgE (.int .i64 e)
        have hE := Boxed.set (.int .i64 e) hE
        have hD := Boxed.other hD (show db ≠ eb from fun h => hne h.symm) (.int .i64 e)
        refine hK.out _ _ (hS _ hBc) (fun hHeld => ?_)
        clear hK
        try simp only [Act.put, List.setIfInBounds_toArray, List.set_cons_zero, List.set_cons_succ]
        clear ce fe
        generalize (WAe).setCell ⟨eb, 0, none⟩ (.int .i64 e) = WE at *
        refine wpAnyH_ready (rs := [7]) (by kernel_rfl) (by simp) (AllReadyH.cons (o := ({ dst := none, op := Go.Op.store 3 (Go.Operand.tmp 10) (Go.Operand.tmp 61), type := 0, pos := _, after := _, guard := none } : Oper)) rfl (fun KK hK => ?_) AllReadyH.nil)
        have ce := hD.cell
        have fe := hD.frozen
        go_simp
        have hBc := hBc.setCell (p := ⟨db, 0, none⟩) hgD (.int .i64 d)
        have hD := Boxed.set (.int .i64 d) hD
        have hE := Boxed.other hE hne (.int .i64 d)
        refine hK.out _ _ (hS _ hBc) (fun hHeld => ?_)
        clear hK
        try simp only [Act.put, List.setIfInBounds_toArray, List.set_cons_zero, List.set_cons_succ]
        clear ce fe
        refine wpAnyH_done (by kernel_rfl) ?_ _
        go_wp2
        go_meet
        exact ⟨eb, db, rfl, rfl, hE, hD, hBc⟩
      go_simp
      have hgE : w7.heap.size ≤ (U1).heap.size := hBc.size
      have haE := balloc (U1) (.cells #[.int .i64 0] 3)
      have hBc := bcat2 hBc haE
      have hlt9 := hD.lt
      have hD := Boxed.below hD haE
      have hE := Boxed.new (U1) 3 (.int .i64 0)
      refine hK.out _ _ (hS _ hBc) (fun hHeld => ?_)
      clear hK
      try simp only [Act.put, List.setIfInBounds_toArray, List.set_cons_zero, List.set_cons_succ]
      generalize (U1).alloc (.cells #[.int .i64 0] 3) = WAe at *
      generalize (U1).heap.size = eb at *
      have hne : eb ≠ db := by omega
      refine wpAnyH_ready (rs := [3]) (by kernel_rfl) (by simp) (AllReadyH.cons (o := ({ dst := some 61, op := Go.Op.call { callee := Go.Callee.value (Go.Operand.func 7), args := #[Go.Operand.tmp 60], argTypes := #[24] }, type := 3, pos := _, after := _, guard := none } : Oper)) rfl (fun KK hK => ?_) AllReadyH.nil)
      go_simp
      refine (HE2.out _ (bcat2 hB7 hBc)).mono ?_
      rintro x2 U2 ⟨rfl, hl2⟩
      have hBc := bcat2 hBc hl2
      have hE := Boxed.below hE hl2
      have hD := Boxed.below hD hl2
      try go_wp2_with fail
      refine hK.out _ _ (hS _ hBc) (fun hHeld => ?_)
      clear hK
      try simp only [Act.put, List.setIfInBounds_toArray, List.set_cons_zero, List.set_cons_succ]
      refine wpAnyH_ready (rs := [6]) (by kernel_rfl) (by simp) (AllReadyH.cons (o := ({ dst := none, op := Go.Op.store 3 (Go.Operand.tmp 9) (Go.Operand.tmp 59), type := 0, pos := _, after := _, guard := none } : Oper)) rfl (fun KK hK => ?_) AllReadyH.nil)
      have ce := hE.cell
      have fe := hE.frozen
      go_simp
      have hBc := hBc.setCell (p := ⟨eb, 0, none⟩) hgE (.int .i64 e)
      have hE := Boxed.set (.int .i64 e) hE
      have hD := Boxed.other hD (show db ≠ eb from fun h => hne h.symm) (.int .i64 e)
      refine hK.out _ _ (hS _ hBc) (fun hHeld => ?_)
      clear hK
      try simp only [Act.put, List.setIfInBounds_toArray, List.set_cons_zero, List.set_cons_succ]
      clear ce fe
      generalize (U2).setCell ⟨eb, 0, none⟩ (.int .i64 e) = WE at *
      refine wpAnyH_ready (rs := [7]) (by kernel_rfl) (by simp) (AllReadyH.cons (o := ({ dst := none, op := Go.Op.store 3 (Go.Operand.tmp 10) (Go.Operand.tmp 61), type := 0, pos := _, after := _, guard := none } : Oper)) rfl (fun KK hK => ?_) AllReadyH.nil)
      have ce := hD.cell
      have fe := hD.frozen
      go_simp
      have hBc := hBc.setCell (p := ⟨db, 0, none⟩) hgD (.int .i64 d)
      have hD := Boxed.set (.int .i64 d) hD
      have hE := Boxed.other hE hne (.int .i64 d)
      refine hK.out _ _ (hS _ hBc) (fun hHeld => ?_)
      clear hK
      try simp only [Act.put, List.setIfInBounds_toArray, List.set_cons_zero, List.set_cons_succ]
      clear ce fe
      refine wpAnyH_done (by kernel_rfl) ?_ _
      go_wp2
      go_meet
      exact ⟨eb, db, rfl, rfl, hE, hD, hBc⟩
    go_simp
    have hgE : w7.heap.size ≤ (WAd).heap.size := hBc.size
    have haE := balloc (WAd) (.cells #[.int .i64 0] 3)
    have hBc := bcat2 hBc haE
    have hlt9 := hD.lt
    have hD := Boxed.below hD haE
    have hE := Boxed.new (WAd) 3 (.int .i64 0)
    refine hK.out _ _ (hS _ hBc) (fun hHeld => ?_)
    clear hK
    try simp only [Act.put, List.setIfInBounds_toArray, List.set_cons_zero, List.set_cons_succ]
    generalize (WAd).alloc (.cells #[.int .i64 0] 3) = WAe at *
    generalize (WAd).heap.size = eb at *
    have hne : eb ≠ db := by omega
    refine wpAnyH_ready (rs := [1]) (by kernel_rfl) (by simp) (AllReadyH.cons (o := ({ dst := some 59, op := Go.Op.call { callee := Go.Callee.value (Go.Operand.func 7), args := #[Go.Operand.tmp 58], argTypes := #[24] }, type := 3, pos := _, after := _, guard := none } : Oper)) rfl (fun KK hK => ?_) AllReadyH.nil)
    go_simp
    refine (HE1.out _ (bcat2 hB7 hBc)).mono ?_
    rintro x1 U1 ⟨rfl, hl1⟩
    have hBc := bcat2 hBc hl1
    have hE := Boxed.below hE hl1
    have hD := Boxed.below hD hl1
    try go_wp2_with fail
    refine hK.out _ _ (hS _ hBc) (fun hHeld => ?_)
    clear hK
    try simp only [Act.put, List.setIfInBounds_toArray, List.set_cons_zero, List.set_cons_succ]
    refine wpAnyH_ready (rs := [3]) (by kernel_rfl) (by simp) (AllReadyH.cons (o := ({ dst := some 61, op := Go.Op.call { callee := Go.Callee.value (Go.Operand.func 7), args := #[Go.Operand.tmp 60], argTypes := #[24] }, type := 3, pos := _, after := _, guard := none } : Oper)) rfl (fun KK hK => ?_) AllReadyH.nil)
    go_simp
    refine (HE2.out _ (bcat2 hB7 hBc)).mono ?_
    rintro x2 U2 ⟨rfl, hl2⟩
    have hBc := bcat2 hBc hl2
    have hE := Boxed.below hE hl2
    have hD := Boxed.below hD hl2
    try go_wp2_with fail
    refine hK.out _ _ (hS _ hBc) (fun hHeld => ?_)
    clear hK
    try simp only [Act.put, List.setIfInBounds_toArray, List.set_cons_zero, List.set_cons_succ]
    refine wpAnyH_ready (rs := [6]) (by kernel_rfl) (by simp) (AllReadyH.cons (o := ({ dst := none, op := Go.Op.store 3 (Go.Operand.tmp 9) (Go.Operand.tmp 59), type := 0, pos := _, after := _, guard := none } : Oper)) rfl (fun KK hK => ?_) AllReadyH.nil)
    have ce := hE.cell
    have fe := hE.frozen
    go_simp
    have hBc := hBc.setCell (p := ⟨eb, 0, none⟩) hgE (.int .i64 e)
    have hE := Boxed.set (.int .i64 e) hE
    have hD := Boxed.other hD (show db ≠ eb from fun h => hne h.symm) (.int .i64 e)
    refine hK.out _ _ (hS _ hBc) (fun hHeld => ?_)
    clear hK
    try simp only [Act.put, List.setIfInBounds_toArray, List.set_cons_zero, List.set_cons_succ]
    clear ce fe
    generalize (U2).setCell ⟨eb, 0, none⟩ (.int .i64 e) = WE at *
    refine wpAnyH_ready (rs := [7]) (by kernel_rfl) (by simp) (AllReadyH.cons (o := ({ dst := none, op := Go.Op.store 3 (Go.Operand.tmp 10) (Go.Operand.tmp 61), type := 0, pos := _, after := _, guard := none } : Oper)) rfl (fun KK hK => ?_) AllReadyH.nil)
    have ce := hD.cell
    have fe := hD.frozen
    go_simp
    have hBc := hBc.setCell (p := ⟨db, 0, none⟩) hgD (.int .i64 d)
    have hD := Boxed.set (.int .i64 d) hD
    have hE := Boxed.other hE hne (.int .i64 d)
    refine hK.out _ _ (hS _ hBc) (fun hHeld => ?_)
    clear hK
    try simp only [Act.put, List.setIfInBounds_toArray, List.set_cons_zero, List.set_cons_succ]
    clear ce fe
    refine wpAnyH_done (by kernel_rfl) ?_ _
    go_wp2
    go_meet
    exact ⟨eb, db, rfl, rfl, hE, hD, hBc⟩
  case rest =>
    clear hS hS0 hBc
    obtain ⟨eb, db, rfl, rfl, hE, hD, hbx⟩ := hcut
    have hB8 := bcat2 hB7 hbx
    have hX8 := blk_below hX7 hbx
    have hY8 := blk_below hY7 hbx
    have hQ8 := blk_below hQ7 hbx
    have hF8 := blk_below hF7 hbx
    have hP8 := HPU.out _ _ _ hP7 hbx
    clear hX7 hY7 hQ7 hF7 hP7 hB7 hbx
    obtain ⟨q0, q1, _, _⟩ := hQ8.two
    go_wp2_with fail
    clear q0 q1
    refine (HTA.out _ _ _ _ hB8 hY8 hD).mono ?_
    rintro x5 w9 ⟨a1, a2, a3, rfl, hA9, hb9⟩
    have hB9 := bcat2 hB8 hb9
    have hX9 := blk_below hX8 hb9
    have hY9 := blk_below hY8 hb9
    have hQ9 := blk_below hQ8 hb9
    have hF9 := blk_below hF8 hb9
    have hP9 := HPU.out _ _ _ hP8 hb9
    have hE9 := Boxed.below hE hb9
    clear hX8 hY8 hQ8 hF8 hP8 hB8 hb9 hE hD
    obtain ⟨q0, q1, _, _⟩ := hQ9.two
    go_wp2_with fail
    clear q0 q1
    refine (HTB.out _ _ _ _ hB9 hY9 hE9).mono ?_
    rintro x6 w10 ⟨b1, b2, b3, rfl, hb10B, hb10⟩
    have hB10 := bcat2 hB9 hb10
    have hX10 := blk_below hX9 hb10
    have hY10 := blk_below hY9 hb10
    have hQ10 := blk_below hQ9 hb10
    have hF10 := blk_below hF9 hb10
    have hP10 := HPU.out _ _ _ hP9 hb10
    have hA10 := HAU.out _ _ _ hA9 hb10
    clear hX9 hY9 hQ9 hF9 hP9 hB9 hb10 hE9 hA9
    obtain ⟨q0, q1, _, _⟩ := hQ10.two
    go_wp2_with fail
    clear q0 q1
    refine (HNR.out _ _ _ hB10 hP10 hA10).mono ?_
    rintro x7 u1 ⟨rfl, hu1⟩
    have hu2 := balloc u1 (.cells #[.int .i64 0, .int .i64 0] 28)
    have hM1 := blk0 (w := u1) (T := 28) (.int .i64 0) (.int .i64 0)
    have hu12 := bcat2 hu1 hu2
    have hB11 := bcat2 hB10 hu12
    have hX11 := blk_below hX10 hu12
    have hY11 := blk_below hY10 hu12
    have hQ11 := blk_below hQ10 hu12
    have hF11 := blk_below hF10 hu12
    have hP11 := HPU.out _ _ _ hP10 hu12
    have hA11 := HAU.out _ _ _ hA10 hu12
    have hb11B := HBU.out _ _ _ hb10B hu12
    clear hX10 hY10 hQ10 hF10 hP10 hB10 hA10 hb10B hu1 hu2 hu12
    obtain ⟨q0, q1, _, _⟩ := hQ11.two
    obtain ⟨t0, t1, _, _⟩ := hM1.two
    go_wp2_with fail
    generalize u1.alloc (.cells #[.int .i64 0, .int .i64 0] 28) = w11 at *
    generalize u1.heap.size = mb1 at *
    clear q0 q1 t0 t1
    refine (HIS.out _ _ _ hB11 hP11 hb11B).mono ?_
    rintro x7 u1 ⟨rfl, hu1⟩
    have hu2 := balloc u1 (.cells #[.int .i64 0, .int .i64 0] 28)
    have hM2 := blk0 (w := u1) (T := 28) (.int .i64 0) (.int .i64 0)
    have hu12 := bcat2 hu1 hu2
    have hB12 := bcat2 hB11 hu12
    have hX12 := blk_below hX11 hu12
    have hY12 := blk_below hY11 hu12
    have hQ12 := blk_below hQ11 hu12
    have hF12 := blk_below hF11 hu12
    have hM12 := blk_below hM1 hu12
    have hP12 := HPU.out _ _ _ hP11 hu12
    have hA12 := HAU.out _ _ _ hA11 hu12
    have hb12B := HBU.out _ _ _ hb11B hu12
    clear hX11 hY11 hQ11 hF11 hP11 hB11 hA11 hb11B hu1 hu2 hu12 hM1
    obtain ⟨q0, q1, _, _⟩ := hQ12.two
    obtain ⟨t0, t1, _, _⟩ := hM2.two
    go_wp2_with fail
    generalize u1.alloc (.cells #[.int .i64 0, .int .i64 0] 28) = w12 at *
    generalize u1.heap.size = mb2 at *
    clear q0 q1 t0 t1
    refine (HDI.out _ _ _ _ hB12 hP12 hA12 hb12B).mono ?_
    rintro x7 u1 ⟨rfl, hu1⟩
    have hu2 := balloc u1 (.cells #[.int .i64 0, .int .i64 0] 28)
    have hM3 := blk0 (w := u1) (T := 28) (.int .i64 0) (.int .i64 0)
    have hu12 := bcat2 hu1 hu2
    have hB13 := bcat2 hB12 hu12
    have hX13 := blk_below hX12 hu12
    have hY13 := blk_below hY12 hu12
    have hQ13 := blk_below hQ12 hu12
    have hF13 := blk_below hF12 hu12
    have hM13 := blk_below hM12 hu12
    have hM23 := blk_below hM2 hu12
    have hP13 := HPU.out _ _ _ hP12 hu12
    have hA13 := HAU.out _ _ _ hA12 hu12
    clear hX12 hY12 hQ12 hF12 hP12 hB12 hA12 hb12B hu1 hu2 hu12 hM12 hM2
    obtain ⟨q0, q1, _, _⟩ := hQ13.two
    obtain ⟨t0, t1, _, _⟩ := hM3.two
    go_wp2_with fail
    generalize u1.alloc (.cells #[.int .i64 0, .int .i64 0] 28) = w13 at *
    generalize u1.heap.size = mb3 at *
    clear q0 q1 t0 t1
    refine (HQO.out _ _ _ hB13 hP13 hA13).mono ?_
    rintro x7 u1 ⟨r1, r2, r3, s1, s2, s3, rfl, hQQ, hu1⟩
    obtain ⟨wL, hwL⟩ : ∃ wL, wL = (u1.alloc (.cells #[.int .i64 k, .slice r1 r2 r3] 24)).alloc (.cells #[.int .i64 0, .int .i64 0] 28) := ⟨_, rfl⟩
    have hu2 : Below u1.heap.size u1 wL := by rw [hwL]; exact (balloc u1 _).alloc (by simp) _
    have hK : Blk wL u1.heap.size 24 [.int .i64 k, .slice r1 r2 r3] := by rw [hwL]; exact (blk0 _ _).alloc _
    have hM4 : Blk wL (u1.heap.size + 1) 28 [.int .i64 0, .int .i64 0] := by
      rw [hwL]
      have := blk0 (w := u1.alloc (.cells #[.int .i64 k, .slice r1 r2 r3] 24)) (T := 28) (.int .i64 0) (.int .i64 0)
      rwa [World.size_alloc] at this
    have hu12 := bcat2 hu1 hu2
    have hBL := bcat2 hB13 hu12
    have hXL := blk_below hX13 hu12
    have hYL := blk_below hY13 hu12
    have hFL := blk_below hF13 hu12
    have hM1L := blk_below hM13 hu12
    have hM2L := blk_below hM23 hu12
    have hM3L := blk_below hM3 hu12
    have hQQL := HQU.out _ _ _ hQQ hu2
    clear hX13 hY13 hQ13 hF13 hP13 hB13 hA13 hu1 hu2 hu12 hM13 hM23 hM3 hQQ
    obtain ⟨t0, _, _, _⟩ := hM1L.two
    obtain ⟨t1, _, _, _⟩ := hM2L.two
    obtain ⟨t2, _, _, _⟩ := hM3L.two
    obtain ⟨t3, t4, _, _⟩ := hM4.two
    obtain ⟨k0, k1, _, _⟩ := hK.two
    rw [hwL] at t0 t1 t2 t3 t4 k0 k1
    go_wp2
    rw [← hwL]
    clear t0 t1 t2 t3 t4 k0 k1 hwL
    generalize u1.heap.size = kb at *
    go_loopw [22, 23] (fun s i wr => ∃ i9 : Nat, i9 ≤ ll ∧ i = .int .i64 i9 ∧ s = .bool ((List.range i9).all Bs) ∧ Below wL.heap.size wL wr) (fun _ i _ => ll - (intOf i).toNat)
    case atStart => exact ⟨0, Nat.zero_le _, rfl, rfl, Below.refl _ _⟩
    case round =>
      obtain ⟨i, hi9, rfl, rfl, hB⟩ := hrel
      by_cases hlt : i < ll
      · have hii : (i : Int) < (ll : Int) := by omega
        have HRS := hide (show (List.range (i + 1)).all Bs = ((List.range i).all Bs && Bs i) by rw [List.range_succ, List.all_append]; simp)
        have hS : ∀ W, Below wL.heap.size wL W → (Below wL.heap.size wL W ∧ W.cell? ⟨w.heap.size, 0, none⟩ = some (.int .i64 n) ∧ W.cell? ⟨lb, lo + i, none⟩ = some (.slice (ea i) (el i) (ec i))) := fun W h => ⟨h, (blk_below hXL h).cell 0, HLC.out _ (bcat2 hBL h) i hlt⟩
        have hBc : Below wL.heap.size wL wr.drew := bdrew hB
        cases hall : (List.range i).all Bs with
        | true =>
          go_wp2_with fail
          refine wp_region_held_drew (S := fun W => Below wL.heap.size wL W ∧ W.cell? ⟨w.heap.size, 0, none⟩ = some (.int .i64 n) ∧ W.cell? ⟨lb, lo + i, none⟩ = some (.slice (ea i) (el i) (ec i))) (by kernel_rfl) (hS _ hBc) (fun hHeld => ?_)
          generalize wr.drew = wd at *
          refine wpAnyH_take (i := 0) (oi := ({ dst := some 126, op := Go.Op.move (Go.Operand.tmp 22), type := 4, pos := _, after := _, guard := none } : Oper)) (v := ?_) rfl (by kernel_rfl) (by kernel_rfl) (by kernel_rfl) (fun _ _ _ h => h) (Or.inl ⟨by rfl, ?_⟩) (by assumption) ?_
          rotate_left
          · (intro w hSw; (try dsimp only at hSw); go_simp; try with_reducible rfl)
          simp only [Act.put, List.setIfInBounds_toArray, List.set_cons_zero, List.set_cons_succ]
          refine wpAnyH_take (i := 1) (oi := ({ dst := some 127, op := Go.Op.move (Go.Operand.tmp 126), type := 4, pos := _, after := _, guard := none } : Oper)) (v := ?_) rfl (by kernel_rfl) (by kernel_rfl) (by kernel_rfl) (fun _ _ _ h => h) (Or.inl ⟨by rfl, ?_⟩) (by assumption) ?_
          rotate_left
          · (intro w hSw; (try dsimp only at hSw); go_simp; try with_reducible rfl)
          simp only [Act.put, List.setIfInBounds_toArray, List.set_cons_zero, List.set_cons_succ]
          refine wpAnyH_take (i := 2) (oi := ({ dst := some 128, op := Go.Op.move (Go.Operand.tmp 2), type := 25, pos := _, after := _, guard := some (1, true) } : Oper)) (v := ?_) rfl (by kernel_rfl) (by kernel_rfl) (by kernel_rfl) (fun _ _ _ h => h) (Or.inl ⟨by rfl, ?_⟩) (by assumption) ?_
          rotate_left
          · (intro w hSw; (try dsimp only at hSw); go_simp; try with_reducible rfl)
          simp only [Act.put, List.setIfInBounds_toArray, List.set_cons_zero, List.set_cons_succ]
          refine wpAnyH_take (i := 3) (oi := ({ dst := some 129, op := Go.Op.move (Go.Operand.tmp 23), type := 3, pos := _, after := _, guard := some (1, true) } : Oper)) (v := ?_) rfl (by kernel_rfl) (by kernel_rfl) (by kernel_rfl) (fun _ _ _ h => h) (Or.inl ⟨by rfl, ?_⟩) (by assumption) ?_
          rotate_left
          · (intro w hSw; (try dsimp only at hSw); go_simp; try with_reducible rfl)
          simp only [Act.put, List.setIfInBounds_toArray, List.set_cons_zero, List.set_cons_succ]
          refine wpAnyH_take (i := 4) (oi := ({ dst := some 130, op := Go.Op.indexAddr 25 (Go.Operand.tmp 128) (Go.Operand.tmp 129), type := 0, pos := _, after := _, guard := some (1, true) } : Oper)) (v := ?_) rfl (by kernel_rfl) (by kernel_rfl) (by kernel_rfl) (fun _ _ _ h => h) (Or.inl ⟨by rfl, ?_⟩) (by assumption) ?_
          rotate_left
          · (intro w hSw; (try dsimp only at hSw); go_simp; try with_reducible rfl)
          simp only [Act.put, List.setIfInBounds_toArray, List.set_cons_zero, List.set_cons_succ]
          refine wpAnyH_take (i := 5) (oi := ({ dst := some 131, op := Go.Op.load 22 (Go.Operand.tmp 130), type := 22, pos := _, after := _, guard := some (1, true) } : Oper)) (v := ?_) rfl (by kernel_rfl) (by kernel_rfl) (by kernel_rfl) (fun _ _ _ h => h) (Or.inl ⟨by rfl, ?_⟩) (by assumption) ?_
          rotate_left
          · (intro w hSw; (try dsimp only at hSw); go_simp; try with_reducible rfl)
          simp only [Act.put, List.setIfInBounds_toArray, List.set_cons_zero, List.set_cons_succ]
          refine wpAnyH_take (i := 6) (oi := ({ dst := some 132, op := Go.Op.fieldAddr 24 (Go.Operand.tmp 3) 0, type := 0, pos := _, after := _, guard := some (1, true) } : Oper)) (v := ?_) rfl (by kernel_rfl) (by kernel_rfl) (by kernel_rfl) (fun _ _ _ h => h) (Or.inl ⟨by rfl, ?_⟩) (by assumption) ?_
          rotate_left
          · (intro w hSw; (try dsimp only at hSw); go_simp; try with_reducible rfl)
          simp only [Act.put, List.setIfInBounds_toArray, List.set_cons_zero, List.set_cons_succ]
          refine wpAnyH_take (i := 7) (oi := ({ dst := some 133, op := Go.Op.load 3 (Go.Operand.tmp 132), type := 3, pos := _, after := _, guard := some (1, true) } : Oper)) (v := ?_) rfl (by kernel_rfl) (by kernel_rfl) (by kernel_rfl) (fun _ _ _ h => h) (Or.inl ⟨by rfl, ?_⟩) (by assumption) ?_
          rotate_left
          · (intro w hSw; (try dsimp only at hSw); go_simp; try with_reducible rfl)
          simp only [Act.put, List.setIfInBounds_toArray, List.set_cons_zero, List.set_cons_succ]
          refine wpAnyH_ready (rs := [8]) (by kernel_rfl) (by simp) (AllReadyH.cons (o := ({ dst := some 134, op := Go.Op.call { callee := Go.Callee.value (Go.Operand.func 16), args := #[Go.Operand.tmp 133], argTypes := #[3] }, type := 22, pos := _, after := _, guard := some (1, true) } : Oper)) rfl (fun KK hK => ?_) AllReadyH.nil)
          go_simp
          refine (HST.out _ (bcat2 hBL hBc)).mono ?_
          rintro x1 U1 ⟨s1, s2, s3, rfl, hPS, hl1⟩
          have hBc := bcat2 hBc hl1
          try go_wp2_with fail
          refine hK.out _ _ (hS _ hBc) (fun hHeld => ?_)
          clear hK
          try simp only [Act.put, List.setIfInBounds_toArray, List.set_cons_zero, List.set_cons_succ]
          refine wpAnyH_ready (rs := [9]) (by kernel_rfl) (by simp) (AllReadyH.cons (o := ({ dst := some 135, op := Go.Op.call { callee := Go.Callee.value (Go.Operand.func 15), args := #[Go.Operand.tmp 131, Go.Operand.tmp 134], argTypes := #[22, 22] }, type := 4, pos := _, after := _, guard := some (1, true) } : Oper)) rfl (fun KK hK => ?_) AllReadyH.nil)
          go_simp
          refine (HIN.out _ i _ hlt (bcat2 hBL hBc) hPS).mono ?_
          rintro x2 U2 ⟨rfl, hl2⟩
          have hBc := bcat2 hBc hl2
          try go_wp2_with fail
          refine hK.out _ _ (hS _ hBc) (fun hHeld => ?_)
          clear hK
          try simp only [Act.put, List.setIfInBounds_toArray, List.set_cons_zero, List.set_cons_succ]
          refine wpAnyH_take (i := 10) (oi := ({ dst := some 136, op := Go.Op.pick (Go.Operand.tmp 127) (Go.Operand.tmp 135) (Go.Operand.const (Go.Value.bool false)), type := 4, pos := _, after := _, guard := none } : Oper)) (v := ?_) rfl (by kernel_rfl) (by kernel_rfl) (by kernel_rfl) (fun _ _ _ h => h) (Or.inl ⟨by rfl, ?_⟩) (by assumption) ?_
          rotate_left
          · (intro w hSw; (try dsimp only at hSw); go_simp; try with_reducible rfl)
          simp only [Act.put, List.setIfInBounds_toArray, List.set_cons_zero, List.set_cons_succ]
          refine wpAnyH_take (i := 11) (oi := ({ dst := some 22, op := Go.Op.assign (Go.Operand.tmp 136), type := 4, pos := _, after := _, guard := none } : Oper)) (v := ?_) rfl (by kernel_rfl) (by kernel_rfl) (by kernel_rfl) (fun _ _ _ h => h) (Or.inl ⟨by rfl, ?_⟩) (by assumption) ?_
          rotate_left
          · (intro w hSw; (try dsimp only at hSw); go_simp; try with_reducible rfl)
          simp only [Act.put, List.setIfInBounds_toArray, List.set_cons_zero, List.set_cons_succ]
          refine wpAnyH_done (by kernel_rfl) ?_ _
          go_wp2
          go_roundw
          case rel => exact ⟨i + 1, by omega, by go_num, by rw [HRS.out, hall]; rfl, hBc⟩
          case measure => simp [intOf]; omega
        | false =>
          go_wp2_with fail
          refine wp_region_held_drew (S := fun W => Below wL.heap.size wL W ∧ W.cell? ⟨w.heap.size, 0, none⟩ = some (.int .i64 n) ∧ W.cell? ⟨lb, lo + i, none⟩ = some (.slice (ea i) (el i) (ec i))) (by kernel_rfl) (hS _ hBc) (fun hHeld => ?_)
          generalize wr.drew = wd at *
          refine wpAnyH_take (i := 0) (oi := ({ dst := some 126, op := Go.Op.move (Go.Operand.tmp 22), type := 4, pos := _, after := _, guard := none } : Oper)) (v := ?_) rfl (by kernel_rfl) (by kernel_rfl) (by kernel_rfl) (fun _ _ _ h => h) (Or.inl ⟨by rfl, ?_⟩) (by assumption) ?_
          rotate_left
          · (intro w hSw; (try dsimp only at hSw); go_simp; try with_reducible rfl)
          simp only [Act.put, List.setIfInBounds_toArray, List.set_cons_zero, List.set_cons_succ]
          refine wpAnyH_take (i := 1) (oi := ({ dst := some 127, op := Go.Op.move (Go.Operand.tmp 126), type := 4, pos := _, after := _, guard := none } : Oper)) (v := ?_) rfl (by kernel_rfl) (by kernel_rfl) (by kernel_rfl) (fun _ _ _ h => h) (Or.inl ⟨by rfl, ?_⟩) (by assumption) ?_
          rotate_left
          · (intro w hSw; (try dsimp only at hSw); go_simp; try with_reducible rfl)
          simp only [Act.put, List.setIfInBounds_toArray, List.set_cons_zero, List.set_cons_succ]
          refine wpAnyH_take (i := 2) (oi := ({ dst := some 128, op := Go.Op.move (Go.Operand.tmp 2), type := 25, pos := _, after := _, guard := some (1, true) } : Oper)) (v := undef) rfl (by kernel_rfl) (by kernel_rfl) (by kernel_rfl) (fun _ _ _ h => h) (Or.inr ⟨by rfl, rfl⟩) (by assumption) ?_
          simp only [Act.put, List.setIfInBounds_toArray, List.set_cons_zero, List.set_cons_succ]
          refine wpAnyH_take (i := 3) (oi := ({ dst := some 129, op := Go.Op.move (Go.Operand.tmp 23), type := 3, pos := _, after := _, guard := some (1, true) } : Oper)) (v := undef) rfl (by kernel_rfl) (by kernel_rfl) (by kernel_rfl) (fun _ _ _ h => h) (Or.inr ⟨by rfl, rfl⟩) (by assumption) ?_
          simp only [Act.put, List.setIfInBounds_toArray, List.set_cons_zero, List.set_cons_succ]
          refine wpAnyH_take (i := 4) (oi := ({ dst := some 130, op := Go.Op.indexAddr 25 (Go.Operand.tmp 128) (Go.Operand.tmp 129), type := 0, pos := _, after := _, guard := some (1, true) } : Oper)) (v := undef) rfl (by kernel_rfl) (by kernel_rfl) (by kernel_rfl) (fun _ _ _ h => h) (Or.inr ⟨by rfl, rfl⟩) (by assumption) ?_
          simp only [Act.put, List.setIfInBounds_toArray, List.set_cons_zero, List.set_cons_succ]
          refine wpAnyH_take (i := 5) (oi := ({ dst := some 131, op := Go.Op.load 22 (Go.Operand.tmp 130), type := 22, pos := _, after := _, guard := some (1, true) } : Oper)) (v := undef) rfl (by kernel_rfl) (by kernel_rfl) (by kernel_rfl) (fun _ _ _ h => h) (Or.inr ⟨by rfl, rfl⟩) (by assumption) ?_
          simp only [Act.put, List.setIfInBounds_toArray, List.set_cons_zero, List.set_cons_succ]
          refine wpAnyH_take (i := 6) (oi := ({ dst := some 132, op := Go.Op.fieldAddr 24 (Go.Operand.tmp 3) 0, type := 0, pos := _, after := _, guard := some (1, true) } : Oper)) (v := undef) rfl (by kernel_rfl) (by kernel_rfl) (by kernel_rfl) (fun _ _ _ h => h) (Or.inr ⟨by rfl, rfl⟩) (by assumption) ?_
          simp only [Act.put, List.setIfInBounds_toArray, List.set_cons_zero, List.set_cons_succ]
          refine wpAnyH_take (i := 7) (oi := ({ dst := some 133, op := Go.Op.load 3 (Go.Operand.tmp 132), type := 3, pos := _, after := _, guard := some (1, true) } : Oper)) (v := undef) rfl (by kernel_rfl) (by kernel_rfl) (by kernel_rfl) (fun _ _ _ h => h) (Or.inr ⟨by rfl, rfl⟩) (by assumption) ?_
          simp only [Act.put, List.setIfInBounds_toArray, List.set_cons_zero, List.set_cons_succ]
          refine wpAnyH_take (i := 8) (oi := ({ dst := some 134, op := Go.Op.call { callee := Go.Callee.value (Go.Operand.func 16), args := #[Go.Operand.tmp 133], argTypes := #[3] }, type := 22, pos := _, after := _, guard := some (1, true) } : Oper)) (v := undef) rfl (by kernel_rfl) (by kernel_rfl) (by kernel_rfl) (fun _ _ _ h => h) (Or.inr ⟨by rfl, rfl⟩) (by assumption) ?_
          simp only [Act.put, List.setIfInBounds_toArray, List.set_cons_zero, List.set_cons_succ]
          refine wpAnyH_take (i := 9) (oi := ({ dst := some 135, op := Go.Op.call { callee := Go.Callee.value (Go.Operand.func 15), args := #[Go.Operand.tmp 131, Go.Operand.tmp 134], argTypes := #[22, 22] }, type := 4, pos := _, after := _, guard := some (1, true) } : Oper)) (v := undef) rfl (by kernel_rfl) (by kernel_rfl) (by kernel_rfl) (fun _ _ _ h => h) (Or.inr ⟨by rfl, rfl⟩) (by assumption) ?_
          simp only [Act.put, List.setIfInBounds_toArray, List.set_cons_zero, List.set_cons_succ]
          refine wpAnyH_take (i := 10) (oi := ({ dst := some 136, op := Go.Op.pick (Go.Operand.tmp 127) (Go.Operand.tmp 135) (Go.Operand.const (Go.Value.bool false)), type := 4, pos := _, after := _, guard := none } : Oper)) (v := ?_) rfl (by kernel_rfl) (by kernel_rfl) (by kernel_rfl) (fun _ _ _ h => h) (Or.inl ⟨by rfl, ?_⟩) (by assumption) ?_
          rotate_left
          · (intro w hSw; (try dsimp only at hSw); go_simp; try with_reducible rfl)
          simp only [Act.put, List.setIfInBounds_toArray, List.set_cons_zero, List.set_cons_succ]
          refine wpAnyH_take (i := 11) (oi := ({ dst := some 22, op := Go.Op.assign (Go.Operand.tmp 136), type := 4, pos := _, after := _, guard := none } : Oper)) (v := ?_) rfl (by kernel_rfl) (by kernel_rfl) (by kernel_rfl) (fun _ _ _ h => h) (Or.inl ⟨by rfl, ?_⟩) (by assumption) ?_
          rotate_left
          · (intro w hSw; (try dsimp only at hSw); go_simp; try with_reducible rfl)
          simp only [Act.put, List.setIfInBounds_toArray, List.set_cons_zero, List.set_cons_succ]
          refine wpAnyH_done (by kernel_rfl) ?_ _
          go_wp2
          go_roundw
          case rel => exact ⟨i + 1, by omega, by go_num, by rw [HRS.out, hall]; rfl, hBc⟩
          case measure => simp [intOf]; omega
      · have hii : ¬ (i : Int) < (ll : Int) := by omega
        obtain rfl : i = ll := by omega
        rw [← HDR.out]
        obtain ⟨k0, k1, _, _⟩ := (blk_below hK hB).two
        obtain ⟨d0, d1, _, _⟩ := (blk_below hYL hB).two
        go_wp2_with fail
        clear k0 k1 d0 d1
        refine (HIO.out _ _ (bcat2 hBL hB) (HQU.out _ _ _ hQQL hB)).mono ?_
        rintro x9 w20 ⟨o1, o2, o3, rfl, hb20⟩
        obtain ⟨_, f0, f1, g0, g1, z0, z1⟩ := Two.mk' (blk_below hFL (bcat2 hB hb20))
        go_wp2
        go_ret
        exact ⟨by cases dir <;> rfl, bcat2 hBL (bcat2 hB hb20)⟩
end Go.Proofs.YtgdpgbldjpeopaaGreatDoor

namespace Go.Proofs.YtgdpgbldjpeopaaGreatDoor
open Go Go.RowKit

/-- The five boxes of the law. -/
structure PSt (w W : World) (wb gb fb : Nat) (N M : Int) (v y : Value) (GN : Int) (r : Value) (sc si c i : Int) : Prop where
  x : Blk W w.heap.size 24 [.int .i64 N, v]
  y : Blk W (w.heap.size + 1) 24 [.int .i64 M, y]
  g : Blk W gb 24 [.int .i64 GN, r]
  f : Blk W fb 28 [.int .i64 sc, .int .i64 si]
  b : Blk W wb 28 [.int .i64 c, .int .i64 i]
  bel : Below w.heap.size w W
  l1 : w.heap.size + 1 < wb
  l2 : gb < wb
  l3 : fb < wb
variable {w W W' : World} {wb gb fb : Nat} {N M : Int} {v y : Value} {GN : Int} {r : Value} {sc si c i : Int}
theorem PSt.below (h : PSt w W wb gb fb N M v y GN r sc si c i) (hb : Below W.heap.size W W') : PSt w W' wb gb fb N M v y GN r sc si c i :=
  ⟨blk_below h.x hb, blk_below h.y hb, blk_below h.g hb, blk_below h.f hb, blk_below h.b hb, bcat2 h.bel hb, h.l1, h.l2, h.l3⟩
theorem PSt.put (h : PSt w W wb gb fb N M v y GN r sc si c i) (d j : Int) : PSt w ((W.setCell ⟨wb, 0, none⟩ (.int .i64 d)).setCell ⟨wb, 1, none⟩ (.int .i64 j)) wb gb fb N M v y GN r sc si d j := by
  have l1 := h.l1
  have l2 := h.l2
  have l3 := h.l3
  obtain ⟨k1, k2⟩ := put2 h.b h.bel (by omega) d j
  exact ⟨(h.x.other (by show w.heap.size ≠ wb; omega) _).other (by show w.heap.size ≠ wb; omega) _, (h.y.other (by show w.heap.size + 1 ≠ wb; omega) _).other (by show w.heap.size + 1 ≠ wb; omega) _, (h.g.other (by show gb ≠ wb; omega) _).other (by show gb ≠ wb; omega) _, (h.f.other (by show fb ≠ wb; omega) _).other (by show fb ≠ wb; omega) _, k1, k2, l1, l2, l3⟩

end Go.Proofs.YtgdpgbldjpeopaaGreatDoor

namespace Go.Proofs.YtgdpgbldjpeopaaGreatDoor
open Go Go.RowKit

/-- A list of lists, its rows by functions. -/
theorem lists_at {w : World} {lv : Value} {ls : List (List Int)} (h : SlL w lv ls) (hp : 0 < ls.length) : ∃ lb lo lc, ∃ (ea : Nat → Option Addr) (el ec : Nat → Nat), lv = .slice (some ⟨lb, lo, none⟩) ls.length lc ∧ lb < w.heap.size ∧ ∀ i, i < ls.length → w.cell? ⟨lb, lo + i, none⟩ = some (.slice (ea i) (el i) (ec i)) ∧ Sl w (.slice (ea i) (el i) (ec i)) (ls[i]?.getD []) := by
  obtain ⟨la, lc, lb, lo, rfl, h1, h2, h3, _, _⟩ := h
  obtain rfl := h1 hp
  have h4 : ∀ i, ∃ t : Option Addr × Nat × Nat, i < ls.length → w.cell? ⟨lb, lo + i, none⟩ = some (.slice t.1 t.2.1 t.2.2) ∧ Sl w (.slice t.1 t.2.1 t.2.2) (ls[i]?.getD []) := fun i => by
    by_cases hi : i < ls.length
    · obtain ⟨x, hx, hs⟩ := h2 i hi
      obtain ⟨a, l, c, rfl⟩ := hs.isSlice
      exact ⟨(a, l, c), fun _ => ⟨hx, hs⟩⟩
    · exact ⟨(none, 0, 0), fun h => absurd h hi⟩
  obtain ⟨f, hf⟩ := Classical.skolem.1 h4
  exact ⟨lb, lo, lc, fun i => (f i).1, fun i => (f i).2.1, fun i => (f i).2.2, rfl, h3, hf⟩
/-- Where no entry is wrong: what the document says of two entries. -/
theorem then_st {n m e d : Nat} {zs ys : List Int} {ls : List (List Int)} (g1 : IsGrp n zs e) (g2 : IsGrp m ys d) (h0 : ∀ t, t < m → cent n zs (ls[t]?.getD []) = 0) {a b : Nat} (ha : a < m) (hb : b < m) :
    decide (ls[tm m ys a b]?.getD [] = (ls[b]?.getD []).map fun x => (ls[a]?.getD [])[x.toNat]?.getD 0) = !((List.range n).any fun y => decide (actf ls (tm m ys a b) y ≠ actf ls a (actf ls b y))) := by
  have ht := tm_lt g2.tab ha hb
  obtain ⟨ka, ea, _⟩ := cent_row g1 (h0 a ha)
  obtain ⟨kb, eb, _⟩ := cent_row g1 (h0 b hb)
  obtain ⟨kt, et, _⟩ := cent_row g1 (h0 _ ht)
  have hmap : (ls[b]?.getD []).map (fun x => (ls[a]?.getD [])[x.toNat]?.getD 0) = li ((List.range n).map fun y => actf ls a (actf ls b y)) := by
    rw [eb, ea]
    unfold li
    simp only [List.map_map]
    refine List.map_congr_left fun y hy => ?_
    have hy' := List.mem_range.1 hy
    have hlt := kb.lt y hy'
    simp only [Function.comp_apply, Int.toNat_natCast]
    show _ = ((actf ls a (actf ls b y) : Nat) : Int)
    have hlt2 : actf ls b y < n := hlt
    rw [show ((ls[b]?.getD [])[y]?.getD 0).toNat = actf ls b y from rfl]
    rw [List.getElem?_map, List.getElem?_range hlt2]
    rfl
  rw [hmap, Bool.eq_iff_iff, decide_eq_true_eq, Bool.not_eq_true']
  constructor
  · intro h
    refine Classical.byContradiction fun h9 => ?_
    rw [Bool.not_eq_false, List.any_eq_true] at h9
    obtain ⟨y, hy, h8⟩ := h9
    refine of_decide_eq_true h8 ?_
    have hy' := List.mem_range.1 hy
    have := congrArg (fun l => (l[y]?.getD 0).toNat) h
    have h7 : ((ls[tm m ys a b]?.getD [])[y]?.getD 0).toNat = actf ls a (actf ls b y) := by simpa [li, hy'] using this
    exact h7
  · intro h
    rw [et]
    refine congrArg li (List.map_congr_left fun y hy => ?_)
    have h8 := (List.any_eq_false.1 h) y hy
    exact Classical.byContradiction fun h9 => h8 (decide_eq_true h9)
end Go.Proofs.YtgdpgbldjpeopaaGreatDoor

namespace Go.Proofs.YtgdpgbldjpeopaaGreatDoor
open Go Go.RowKit

set_option maxRecDepth 100000 in
set_option maxHeartbeats 4000000 in
theorem orderOf_ok (n e a : Nat) (v : Value) (zs : List Int) (w : World) (h : IsGrp n zs e) (hv : Sl w v zs) (ha : a < n) :
    Calls Tryz.prog 85 #[.agg #[.int .i64 n, v], .int .i64 e, .int .i64 a] w fun x w' => x = .returned (.int .i64 (ordN n zs e a)) ∧ Below w.heap.size w w' := by
  have hB0 : Below w.heap.size w (w.alloc (.cells #[.int .i64 n, v] 24)) := balloc w _
  have hg0 : BoxG (w.alloc (.cells #[.int .i64 n, v] 24)) w.heap.size n v := blk0 _ _
  have hv0 := hv.below hB0
  have hle := h.tab.le
  have HT := hide h.tab
  obtain ⟨k9, hk9, hoe, hp9, hn9⟩ := ordN_spec h ha
  rw [hoe]
  have HP := hide hp9
  have HN := hide hn9
  obtain ⟨g0, g1, _, _⟩ := hg0.two
  clear h hoe hp9 hn9
  go_enter Tryz.func85, Tryz.ntmps85
  go_wp2
  generalize w.alloc (.cells #[.int .i64 n, v] 24) = w0 at *
  go_loopw [7, 8] (fun o p wr => ∃ k : Nat, k ≤ k9 ∧ o = .int .i64 ((k : Int) + 1) ∧ p = .int .i64 (pr n zs a k) ∧ Below w0.heap.size w0 wr) (fun o _ _ => k9 + 1 - (intOf o).toNat)
  case atStart => exact ⟨0, Nat.zero_le _, rfl, rfl, Below.refl _ _⟩
  case round =>
    obtain ⟨k, hk, rfl, rfl, hB⟩ := hrel
    have d0 := below_cell hB g0
    have d1 := below_cell hB g1
    by_cases hlt : k < k9
    · have hne : ((pr n zs a k : Int) != (e : Int)) = true := by
        have := HN.out k hlt
        simp; omega
      have hpl := pr_lt HT.out ha k
      have hstep : tm n zs (pr n zs a k) a = pr n zs a (k + 1) := rfl
      have HST := hide hstep
      clear hstep
      go_wp2_with fail
      refine (product_ok n v zs _ a _ HT.out (hv0.below hB) hpl ha).mono ?_
      rintro x w1 ⟨rfl, hb1⟩
      have hB1 := bcat2 hB hb1
      rw [HST.out]
      clear d0 d1
      go_wp2
      go_roundw
      case rel => exact ⟨k + 1, by omega, by go_num, rfl, hB1⟩
      case measure => simp [intOf]; omega
    · have hkk : k = k9 := by omega
      subst hkk
      have hne : ((pr n zs a k : Int) != (e : Int)) = false := by
        have := HP.out
        simp; omega
      go_wp2
      go_ret
      exact ⟨retI (by simp), bcat hB0 hB hB0.size⟩
/-- A list that is filled up to k. -/
def fillU (m : Nat) (f : Nat → Int) (k : Nat) : List Int := (List.range m).map fun i => if i < k then f i else 0
theorem fillU_len (m : Nat) (f : Nat → Int) (k : Nat) : (fillU m f k).length = m := by simp [fillU]
theorem fillU_zero (m : Nat) (f : Nat → Int) : fillU m f 0 = List.replicate m 0 := by
  apply List.ext_getElem
  · simp [fillU]
  · intro i h1 h2; simp [fillU]
theorem fillU_set {m : Nat} {f : Nat → Int} {k : Nat} (_hk : k < m) : (fillU m f k).set k (f k) = fillU m f (k + 1) := by
  apply List.ext_getElem
  · simp [fillU]
  · intro i h1 h2
    rw [List.getElem_set]
    split
    · rename_i e; subst e; simp [fillU]
    · rename_i e
      simp only [fillU, List.getElem_map, List.getElem_range]
      by_cases h : i < k
      · rw [if_pos h, if_pos (by omega)]
      · rw [if_neg h, if_neg (by omega)]
theorem fillU_all (m : Nat) (f : Nat → Int) : fillU m f m = (List.range m).map f := by
  apply List.ext_getElem
  · simp [fillU]
  · intro i h1 h2
    have : i < m := by simpa [fillU] using h1
    simp [fillU, this]

/-- The orders of all things. -/
def ordL (n : Nat) (zs : List Int) (e : Nat) : List Int := (List.range n).map fun a => (ordN n zs e a : Int)
theorem ordL_len (n : Nat) (zs : List Int) (e : Nat) : (ordL n zs e).length = n := by simp [ordL]

set_option maxRecDepth 100000 in
set_option maxHeartbeats 4000000 in
theorem orders_ok (n e : Nat) (v : Value) (zs : List Int) (w : World) (h : IsGrp n zs e) (hv : Sl w v zs) :
    Calls Tryz.prog 67 #[.agg #[.int .i64 n, v]] w fun x w' => ∃ g, w.heap.size ≤ g ∧ x = .returned (.tuple #[.slice (some ⟨g, 0, none⟩) n n, .agg #[.int .i64 0, .int .i64 0]]) ∧ Blk w' g 3 ((ordL n zs e).map (Value.int .i64)) ∧ Below w.heap.size w w' := by
  obtain ⟨i0, hi, hz0, hz1, hz2⟩ := info_parts info3b
  obtain ⟨w0, BG⟩ := Beg.new w n v
  have hv0 := hv.below BG.bel
  obtain ⟨c0, c1, _, _⟩ := BG.box.two
  have hck := check_any n v zs w0 hv0
  rw [gfault_of_grp h] at hck
  have HCK := hide hck
  have HO := hide (fun W (hW : Sl W v zs) => oneOf_ok n v zs W h.tab hW)
  rw [h.one] at HO
  have HR := hide (fun W a (hW : Sl W v zs) ha => orderOf_ok n e a v zs W h hW ha)
  have hle := h.tab.le
  clear hck h
  rw [BG.eq] at c0 c1
  go_enter Tryz.func67, Tryz.ntmps67
  go_wp2_with fail
  rw [← BG.eq]
  refine HCK.out.mono ?_
  rintro x w1 ⟨rfl, hb1⟩
  clear c0 c1
  have hB1 := bcat2 hb1 (balloc w1 (.cells #[.int .i64 0, .int .i64 0] 28))
  obtain ⟨k0, k1, _, _⟩ := (blk_below BG.box hB1).two
  go_wp2_with fail
  refine (HO.out _ (hv0.below hB1)).mono ?_
  rintro x w2 ⟨rfl, hb2⟩
  have hB2 := bcat2 hB1 hb2
  clear k0 k1
  obtain ⟨k0, k1, _, _⟩ := (blk_below BG.box hB2).two
  have hv2 := hv0.below hB2
  have hR2 := blk_below BG.res hB2
  have hBw := bcat BG.bel hB2 BG.bel.size
  clear hb2 hB1 hb1
  go_wp2_with (first
    | (at_make; refine wpList_make_full _ rfl _ _ 22 rfl w2.heap.size 3 i0 (.int .i64 0) 1 under22b hi hz0 hz1 _ _ _ _ n rfl rfl rfl rfl (by rw [hz2]; omega) (by unfold maxLen; omega) (by simp) ?_))
  intro w3 hown hg
  have hM : Blk w3 w2.heap.size 3 ((fillU n (fun a => (ordN n zs e a : Int)) 0).map (Value.int .i64)) := by
    have := Blk.of_owns hown
    rw [made_rep] at this
    rw [fillU_zero, List.map_replicate]; exact this
  have hB3 : Below w2.heap.size w2 w3 := (Below.refl _ w2).grown hg (Nat.le_refl _) (by simp)
  clear hown hg
  go_wp2
  go_loopw [21] (fun i wr => ∃ k : Nat, k ≤ n ∧ i = .int .i64 k ∧ Blk wr w2.heap.size 3 ((fillU n (fun a => (ordN n zs e a : Int)) k).map (Value.int .i64)) ∧ Below w2.heap.size w2 wr) (fun i _ => n - (intOf i).toNat)
  case atStart => exact ⟨0, Nat.zero_le _, rfl, hM, hB3⟩
  case round =>
    obtain ⟨k, hk, rfl, hMk, hB⟩ := hrel
    have d0 := below_cell hB k0
    have d1 := below_cell hB k1
    by_cases hlt : k < n
    · go_wp2_with fail
      refine (HR.out _ k (hv2.below hB) hlt).mono ?_
      rintro x w5 ⟨rfl, hb5⟩
      have hM5 := blk_below hMk hb5
      have hB5 := bcat2 hB hb5
      have hc5 := hM5.int (y := k) (by rw [fillU_len]; exact hlt)
      have hf5 := hM5.frozen k
      have hM6 := hM5.setInt k (ordN n zs e k : Int)
      rw [fillU_set (f := fun a => (ordN n zs e a : Int)) hlt] at hM6
      have hB6 := hB5.setCell (p := ⟨w2.heap.size, k, none⟩) (Nat.le_refl _) (.int .i64 (ordN n zs e k : Int))
      have hki : (k : Int) < (n : Int) := by omega
      generalize (fillU n (fun a => (ordN n zs e a : Int)) k)[k]?.getD 0 = old at hc5
      clear d0 d1 hM5 hMk
      go_wp2
      go_roundw
      case rel => exact ⟨k + 1, by omega, by go_num, hM6, hB6⟩
      case measure => simp [intOf]; omega
    · have hkn : k = n := by omega
      subst hkn
      rw [fillU_all] at hMk
      have hR9 := blk_below hR2 hB
      have hB9 := bcat hBw hB hBw.size
      obtain ⟨_, z0, z1, fz0, fz1, s0, s1⟩ := Two.mk' hR9
      clear d0 d1
      go_wp2
      exact bodyPost_ret (v := .tuple #[.slice (some ⟨w2.heap.size, 0, none⟩) k k, .agg #[.int .i64 0, .int .i64 0]]) (by simp [results, Tryz.results67, go_sem, z0, z1]) rfl ⟨_, hBw.size, rfl, hMk, hB9⟩

end Go.Proofs.YtgdpgbldjpeopaaGreatDoor

namespace Go.Proofs.YtgdpgbldjpeopaaGreatDoor
open Go Go.RowKit

set_option maxRecDepth 100000 in
set_option maxHeartbeats 4000000 in
theorem seql_ok (v u : Value) (xs ys : List Int) (w : World) (hv : Sl w v xs) (hu : Sl w u ys) :
    Calls Tryz.prog 69 #[v, u] w fun e w' => e = .returned (.bool (decide (xs = ys))) ∧ Below w.heap.size w w' := by
  obtain ⟨xa, xcap, xb, xo, rfl, ⟨x1, x2⟩, _, x4, x5⟩ := hv
  obtain ⟨ya, ycap, yb, yo, rfl, ⟨y1, y2⟩, _, _, _⟩ := hu
  have hxl : xs.length ≤ 9223372036854775807 := by unfold maxLen at x5; omega
  have HX1 := hide x1
  have HX2 := hide x2
  have HY1 := hide y1
  have HY2 := hide y2
  clear x1 x2 y1 y2 x5 x4
  obtain ⟨bb, hbb⟩ : ∃ bb, bb = decide (xs = ys) := ⟨_, rfl⟩
  rw [← hbb]
  have HBB := hide hbb
  clear hbb
  by_cases hl : xs.length = ys.length
  · have hne : ((xs.length : Int) != (ys.length : Int)) = false := by rw [hl]; simp
    have hli : (xs.length : Int) = (ys.length : Int) := by omega
    have HL := hide hl
    clear hl
    rw [← hli] at *
    have HYL := hide (show ys.length = xs.length from HL.out.symm)
    rw [HYL.out]
    go_enter Tryz.func69, Tryz.ntmps69
    go_wp2
    go_loopw [13] (fun i wr => ∃ k : Nat, k ≤ xs.length ∧ i = .int .i64 k ∧ (∀ t, t < k → xs[t]?.getD 0 = ys[t]?.getD 0) ∧ Below w.heap.size w wr) (fun i _ => xs.length - (intOf i).toNat)
    case atStart => exact ⟨0, Nat.zero_le _, rfl, fun t ht => by omega, Below.refl _ _⟩
    case round =>
      obtain ⟨k, hk, rfl, heq, hB⟩ := hrel
      have HEQ := hide heq
      clear heq
      by_cases hlt : k < xs.length
      · have hki : (k : Int) < (xs.length : Int) := by omega
        obtain rfl := HX1.out (by omega)
        obtain rfl := HY1.out (by rw [HYL.out]; omega)
        have cx := below_cell hB (HX2.out k hlt)
        have cy := below_cell hB (HY2.out k (by rw [HYL.out]; exact hlt))
        have HZ := hide (show xs[k]?.getD 0 = ys[k]?.getD 0 → ∀ t, t < k + 1 → xs[t]?.getD 0 = ys[t]?.getD 0 from fun h t ht => by
          by_cases e9 : t = k
          · subst e9; exact h
          · exact HEQ.out t (by omega))
        have HN := hide (show ¬ xs[k]?.getD 0 = ys[k]?.getD 0 → bb = false from fun h => by
          rw [HBB.out]
          exact decide_eq_false fun e9 => h (by rw [e9]))
        generalize xs[k]?.getD 0 = x at *
        generalize ys[k]?.getD 0 = y at *
        by_cases hxy : x = y
        · have HZ' := hide (HZ.out hxy)
          subst hxy
          clear HZ HN
          go_wp2_with fail
          go_region
          go_wp2
          go_roundw
          case rel => exact ⟨k + 1, by omega, by go_num, HZ'.out, bdrew hB⟩
          case measure => simp [intOf]; omega
        · have hne2 : (x != y) = true := by simpa using hxy
          have HN' := hide (HN.out hxy)
          clear HZ HN
          go_wp2_with fail
          go_region
          go_wp2
          go_ret
          exact ⟨by rw [HN'.out]; rfl, bdrew hB⟩
      · have hki : ¬ (k : Int) < (xs.length : Int) := by omega
        have HT := hide (show bb = true by
          rw [HBB.out]
          refine decide_eq_true (List.ext_getElem? fun t => ?_)
          by_cases ht : t < xs.length
          · have h9 := HEQ.out t (by omega)
            rw [List.getElem?_eq_getElem ht, List.getElem?_eq_getElem (by rw [HYL.out]; exact ht)] at h9 ⊢
            simpa using h9
          · rw [List.getElem?_eq_none (by omega), List.getElem?_eq_none (by rw [HYL.out]; omega)])
        go_wp2
        go_ret
        exact ⟨by rw [HT.out]; rfl, hB⟩
  · have hne : ((xs.length : Int) != (ys.length : Int)) = true := by
      have : ¬ (xs.length : Int) = (ys.length : Int) := by omega
      simpa using this
    have HF := hide (show bb = false by rw [HBB.out]; exact decide_eq_false fun e9 => hl (by rw [e9]))
    go_enter Tryz.func69, Tryz.ntmps69
    go_wp2
    go_ret
    exact ⟨by rw [HF.out]; rfl, Below.refl _ _⟩
end Go.Proofs.YtgdpgbldjpeopaaGreatDoor

namespace Go.Proofs
shelf_lay Lays.n189 Nm 189 at Tryz as Tryz.lays189
end Go.Proofs
namespace Go.Proofs.YtgdpgbldjpeopaaGreatDoor
open Go Go.RowKit

def srtI (zs : List Int) : List Int := zs.mergeSort fun x y => decide (x ≤ y)
theorem srtI_len (zs : List Int) : (srtI zs).length = zs.length := List.length_mergeSort _
theorem srtI_perm {xs ys : List Int} (h : xs.Perm ys) : srtI xs = srtI ys := by
  have tr : ∀ a b c : Int, decide (a ≤ b) = true → decide (b ≤ c) = true → decide (a ≤ c) = true := fun a b c h1 h2 => by simp at *; omega
  have tot : ∀ a b : Int, (decide (a ≤ b) || decide (b ≤ a)) = true := fun a b => by simp; omega
  refine List.Perm.eq_of_pairwise (le := fun a b => decide (a ≤ b) = true) (fun a b _ _ h1 h2 => by simp at h1 h2; omega) (List.pairwise_mergeSort tr tot xs) (List.pairwise_mergeSort tr tot ys) ?_
  exact ((List.mergeSort_perm xs _).trans h).trans (List.mergeSort_perm ys _).symm
theorem sort_own (g : Nat) (zs : List Int) (w : World) (hB : Blk w g 3 (zs.map (Value.int .i64))) (hl : zs.length ≤ 1000) :
    Calls Tryz.prog 68 #[.slice (some ⟨g, 0, none⟩) zs.length zs.length] w fun e w' => e = .returned (.tuple #[]) ∧ Blk w' g 3 ((srtI zs).map (Value.int .i64)) ∧ w.grownBy w' (some g) := by
  refine Calls.mono (Any.slices_Sort_int Tryz.lays189 g 0 zs.length zs w (holds_of_blockI hB (by rw [List.take_of_length_le (by simp)])) hB.lt (by omega)) ?_
  rintro e w' ⟨rfl, n, os, rfl⟩
  refine ⟨rfl, ?_, grownBy_sortedI _⟩
  have h1 := ownsRow_sortedI (n := n) (os := os) (base := 0) (cap := zs.length) (ss := zs) (ts := srtI zs) (srtI_len zs) (Nat.zero_le _) hB (Nat.le_refl _) (by unfold maxLen; omega) (by simp)
  exact Blk.of_owns h1
end Go.Proofs.YtgdpgbldjpeopaaGreatDoor

namespace Go.Proofs.YtgdpgbldjpeopaaGreatDoor
open Go Go.RowKit

section
variable {n e : Nat} {zs : List Int}
theorem lst_sub_len {p q : Nat → Bool} (h : ∀ x, x < n → p x = true → q x = true) : (lst n p).length ≤ (lst n q).length ∧ ((∃ x, x < n ∧ q x = true ∧ ¬ p x = true) → (lst n p).length < (lst n q).length) := by
  have e1 : lst n p = (lst n q).filter p := by
    unfold lst
    rw [List.filter_filter]
    refine List.filter_congr fun x hx => ?_
    cases hp : p x with
    | false => simp
    | true => simp [h x (List.mem_range.1 hx) hp]
  rw [e1]
  refine ⟨List.length_filter_le _ _, ?_⟩
  rintro ⟨x, hx, h1, h2⟩
  exact List.length_filter_lt_length_iff_exists.2 ⟨x, mem_lst.2 ⟨hx, h1⟩, h2⟩
theorem mkd_wider {ks : List Nat} {a x : Nat} (h : Mkd n zs e (fun y => decide (y ∈ ks)) x) : Mkd n zs e (fun y => decide (y ∈ ks ++ [a])) x :=
  Fin.Gen.mono (fun _ _ h1 => decide_eq_true (List.mem_append_left _ (of_decide_eq_true h1))) h
/-- With a thing that is not made, more is made. -/
theorem mkd_more {ks : List Nat} {a : Nat} {p q : Nat → Bool} (hp : ∀ x, x < n → (p x = true ↔ Mkd n zs e (fun y => decide (y ∈ ks)) x)) (hq : ∀ x, x < n → (q x = true ↔ Mkd n zs e (fun y => decide (y ∈ ks ++ [a])) x)) (ha : a < n) (hna : ¬ p a = true) : (lst n p).length < (lst n q).length :=
  (lst_sub_len (fun x hx h => (hq x hx).2 (mkd_wider ((hp x hx).1 h)))).2 ⟨a, ha, (hq a ha).2 (mkd_base ha (by simp)), hna⟩
theorem mkd_full {p : Nat → Bool} : (∀ x, x < n → p x = true) ↔ bs p n = bs (fun _ => true) n :=
  ⟨fun h => bs_ext fun x hx => h x hx, fun h x hx => bs_inj h x hx⟩
end
end Go.Proofs.YtgdpgbldjpeopaaGreatDoor

namespace Go.Proofs.YtgdpgbldjpeopaaGreatDoor
open Go Go.RowKit

set_option maxRecDepth 100000 in
set_option maxHeartbeats 4000000 in
theorem same_orders (n e m d : Nat) (v y : Value) (zs ys : List Int) (w : World) (hv : Sl w v zs) (hg : IsGrp n zs e) (hy : Sl w y ys) (hh : IsGrp m ys d) :
    Calls Tryz.prog 38 #[.agg #[.int .i64 n, v], .agg #[.int .i64 m, y]] w fun x w' => ∃ b, x = .returned (.bool b) ∧ (n = m → (∃ φ, IsIso n zs m ys φ) → b = true) ∧ (b = true → n = m) ∧ Below w.heap.size w w' := by
  have hB0 : Below w.heap.size w ((w.alloc (.cells #[.int .i64 n, v] 24)).alloc (.cells #[.int .i64 m, y] 24)) := bcat2 (balloc w _) (balloc _ _)
  have hX0 : BoxG ((w.alloc (.cells #[.int .i64 n, v] 24)).alloc (.cells #[.int .i64 m, y] 24)) w.heap.size n v := (blk0 (w := w) (T := 24) _ _).alloc _
  have hY0 : BoxG ((w.alloc (.cells #[.int .i64 n, v] 24)).alloc (.cells #[.int .i64 m, y] 24)) (w.heap.size + 1) m y := by
    have := blk0 (w := w.alloc (.cells #[.int .i64 n, v] 24)) (T := 24) (.int .i64 m) y
    simpa using this
  have hn60 := hg.tab.le
  have hm60 := hh.tab.le
  have HO1 := hide (fun W (h : Below w.heap.size w W) => orders_ok n e v zs W hg (hv.below h))
  have HO2 := hide (fun W (h : Below w.heap.size w W) => orders_ok m d y ys W hh (hy.below h))
  have HEQ := hide (show n = m → (∃ φ, IsIso n zs m ys φ) → decide (srtI (ordL n zs e) = srtI (ordL m ys d)) = true from fun hnm ⟨φ, A⟩ => decide_eq_true (srtI_perm (by
    have := (A.orders hg hh hnm).map (fun k : Nat => (k : Int))
    rw [List.map_map, List.map_map] at this
    exact this)))
  have HLE := hide (show decide (srtI (ordL n zs e) = srtI (ordL m ys d)) = true → n = m from fun h => by
    have := congrArg List.length (of_decide_eq_true h)
    rwa [srtI_len, srtI_len, ordL_len, ordL_len] at this)
  obtain ⟨w0, hw0⟩ : ∃ w0, w0 = (w.alloc (.cells #[.int .i64 n, v] 24)).alloc (.cells #[.int .i64 m, y] 24) := ⟨_, rfl⟩
  obtain ⟨c0, c1, _, _⟩ := hX0.two
  rw [← hw0] at hB0 hX0 hY0
  clear hg hh hv hy
  go_enter Tryz.func38, Tryz.ntmps38
  go_wp2_with fail
  rw [← hw0]
  clear hw0 c0 c1
  refine (HO1.out _ hB0).mono ?_
  rintro x w1 ⟨g1, hg1, rfl, hL1, hb1⟩
  have hb1 := bcat2 hb1 (balloc w1 (.cells #[.int .i64 0, .int .i64 0] 28))
  have hL1 := blk_below hL1 (balloc w1 (.cells #[.int .i64 0, .int .i64 0] 28))
  have hB1 := bcat2 hB0 hb1
  have hY1 := blk_below hY0 hb1
  obtain ⟨d0, d1, _, _⟩ := hY1.two
  go_wp2_with fail
  clear d0 d1
  generalize w1.alloc (.cells #[.int .i64 0, .int .i64 0] 28) = w2 at *
  refine (HO2.out _ hB1).mono ?_
  rintro x w3 ⟨g2, hg2, rfl, hL2, hb3⟩
  have hb3 := bcat2 hb3 (balloc w3 (.cells #[.int .i64 0, .int .i64 0] 28))
  have hL2 := blk_below hL2 (balloc w3 (.cells #[.int .i64 0, .int .i64 0] 28))
  have hB3 := bcat2 hB1 hb3
  have hL3 := blk_below hL1 hb3
  have HS1 := hide (sort_own g1 (ordL n zs e) _ hL3 (by rw [ordL_len]; omega))
  have hn12 : g1 ≠ g2 := by have := hL1.lt; omega
  go_wp2_with fail
  generalize w3.alloc (.cells #[.int .i64 0, .int .i64 0] 28) = w4 at *
  rw [ordL_len] at HS1
  refine HS1.out.mono ?_
  rintro x w5 ⟨rfl, hS1, hgr1⟩
  have hL5 : Blk w5 g2 3 ((ordL m ys d).map (Value.int .i64)) := hL2.grown hgr1 (fun h => by injection h with h; omega)
  have hB5 : Below w.heap.size w w5 := hB3.grown hgr1 hB3.size (fun k hk => by injection hk with hk; have := hB0.size; omega)
  have HS2 := hide (sort_own g2 (ordL m ys d) _ hL5 (by rw [ordL_len]; omega))
  rw [ordL_len] at HS2
  go_wp2_with fail
  refine HS2.out.mono ?_
  rintro x w6 ⟨rfl, hS2, hgr2⟩
  have hS6 : Blk w6 g1 3 ((srtI (ordL n zs e)).map (Value.int .i64)) := hS1.grown hgr2 (fun h => by injection h with h; omega)
  have hB6 : Below w.heap.size w w6 := hB5.grown hgr2 hB5.size (fun k hk => by injection hk with hk; have := hB1.size; omega)
  have HE := hide (seql_ok (.slice (some ⟨g1, 0, none⟩) n n) (.slice (some ⟨g2, 0, none⟩) m m) (srtI (ordL n zs e)) (srtI (ordL m ys d)) w6 (Sl.of_blk hS6 (by rw [srtI_len, ordL_len]) (by rw [srtI_len, ordL_len]; omega)) (Sl.of_blk hS2 (by rw [srtI_len, ordL_len]) (by rw [srtI_len, ordL_len]; omega)))
  go_wp2_with fail
  refine HE.out.mono ?_
  rintro x w7 ⟨rfl, hb7⟩
  go_wp2
  go_ret
  exact ⟨_, rfl, HEQ.out, HLE.out, bcat2 hB6 hb7⟩
end Go.Proofs.YtgdpgbldjpeopaaGreatDoor
