/- The law QuotThird at a group. -/
import Derived.Test.YtlhjeenijcokoaaGreatDoorZ12
namespace Go.Proofs.YtlhjeenijcokoaaGreatDoor
open Go Go.RowKit

/-- A table in a box and a box for a fault behind a region. -/
def NRel (w0 : World) (K : Nat) (T : List Int) (s15 s17 : Value) (wx : World) : Prop := ∃ (b15 b17 : Nat) (r1 : Option Addr) (r2 r3 : Nat), s15 = .pointer (some ⟨b15, 0, none⟩) ∧ s17 = .pointer (some ⟨b17, 0, none⟩) ∧ BoxG wx b15 K (.slice r1 r2 r3) ∧ Blk wx b17 26 [.int .i64 0, .int .i64 0] ∧ Sl wx (.slice r1 r2 r3) T ∧ Below w0.heap.size w0 wx
theorem mkGA {X U : World} {x x' y z : Value} (k : Below ((X.alloc (.cells #[x, x'] 24)).alloc (.cells #[y, z] 26)).heap.size ((X.alloc (.cells #[x, x'] 24)).alloc (.cells #[y, z] 26)) U) : Blk U X.heap.size 24 [x, x'] ∧ Blk U (X.heap.size + 1) 26 [y, z] := by
  refine ⟨blk_below ((blk0 (w := X) (T := 24) x x').alloc _) k, ?_⟩
  have h := blk_below (blk0 (w := X.alloc (.cells #[x, x'] 24)) (T := 26) y z) k
  rwa [World.size_alloc] at h
theorem mkAG {X U : World} {x x' y z : Value} (k : Below ((X.alloc (.cells #[y, z] 26)).alloc (.cells #[x, x'] 24)).heap.size ((X.alloc (.cells #[y, z] 26)).alloc (.cells #[x, x'] 24)) U) : Blk U (X.heap.size + 1) 24 [x, x'] ∧ Blk U X.heap.size 26 [y, z] := by
  refine ⟨?_, blk_below ((blk0 (w := X) (T := 26) y z).alloc _) k⟩
  have h := blk_below (blk0 (w := X.alloc (.cells #[y, z] 26)) (T := 24) x x') k
  rwa [World.size_alloc] at h
theorem blk_blk {U : World} {a b : Nat} {xs vs : List Value} (h : Blk U a 24 xs) (k : Blk U b 26 vs) : b ≠ a := fun e => by
  subst e
  have h1 : U.heap[b]? = some (.cells xs.toArray 24) := h
  have h2 : U.heap[b]? = some (.cells vs.toArray 26) := k
  rw [h1] at h2
  injection h2 with h3
  injection h3 with _ h4
  exact absurd h4 (by decide)
theorem nrel_fin {w0 U : World} {K : Nat} {T : List Int} {r1 : Option Addr} {r2 r3 a b : Nat} {x y : Value} (ha : w0.heap.size ≤ a) (hB : Below w0.heap.size w0 U) (hA : Blk U a 24 [x, y]) (hp : Blk U b 26 [.int .i64 0, .int .i64 0]) (hs : Sl ((U.setCell ⟨a, 0, none⟩ (.int .i64 K)).setCell ⟨a, 1, none⟩ (.slice r1 r2 r3)) (.slice r1 r2 r3) T) : NRel w0 K T (.pointer (some ⟨a, 0, none⟩)) (.pointer (some ⟨b, 0, none⟩)) ((U.setCell ⟨a, 0, none⟩ (.int .i64 K)).setCell ⟨a, 1, none⟩ (.slice r1 r2 r3)) :=
  ⟨a, b, r1, r2, r3, rfl, rfl, (hA.set 0 _).set 1 _, (hp.other (p := ⟨a, 0, none⟩) (blk_blk hA hp) _).other (p := ⟨a, 1, none⟩) (blk_blk hA hp) _, hs, bSet (bSet hB ha) ha⟩
theorem krel_fin {w0 U : World} {L : List Int} {r1 : Option Addr} {r2 r3 a b : Nat} {x : Value} (ha : w0.heap.size ≤ a) (hb : w0.heap.size ≤ b) (hB : Below w0.heap.size w0 U) (hA : Boxed U a 22 x) (hp : Blk U b 26 [.int .i64 0, .int .i64 0]) (hs : Sl (U.setCell ⟨a, 0, none⟩ (.slice r1 r2 r3)) (.slice r1 r2 r3) L) : KRel w0 L (.pointer (some ⟨a, 0, none⟩)) (.pointer (some ⟨b, 0, none⟩)) (U.setCell ⟨a, 0, none⟩ (.slice r1 r2 r3)) :=
  ⟨a, b, r1, r2, r3, rfl, rfl, hb, hA.set _, hp.other (p := ⟨a, 0, none⟩) (box_blk hA hp) _, hs, bSet hB ha⟩
set_option maxRecDepth 100000 in
set_option maxHeartbeats 8000000 in
theorem qthr_good (n K KQ F : Nat) (ms NL UL KL TQ TO TR VL TS' : List Int) (v1 : Option Addr) (v2 v3 : Nat) (l1 : Option Addr) (l2 l3 : Nat) (m1 : Option Addr) (m2 m3 : Nat) (w : World) (hT : Tab w) (hm : Sl w (.slice m1 m2 m3) ms)
    (HCL : Hid (∀ W, Below w.heap.size w W → Calls Tryz.prog 24 #[.agg #[.int .i64 n, .slice v1 v2 v3], .slice l1 l2 l3] W fun x W' => ∃ r1 r2 r3, x = .returned (.tuple #[.slice r1 r2 r3, .agg #[.int .i64 0, .int .i64 0]]) ∧ Sl W' (.slice r1 r2 r3) NL ∧ Below W.heap.size W W'))
    (HSF : Hid (∀ W, Below w.heap.size w W → Calls Tryz.prog 31 #[.agg #[.int .i64 n, .slice v1 v2 v3], .slice m1 m2 m3] W fun x W' => x = .returned (.agg #[.int .i64 0, .int .i64 0]) ∧ Below W.heap.size W W'))
    (HLF : Hid (∀ W a1 a2 a3 L, Below w.heap.size w W → (L = NL ∨ L = KL) → Sl W (.slice a1 a2 a3) L → Calls Tryz.prog 25 #[.agg #[.int .i64 n, .slice v1 v2 v3], .slice a1 a2 a3] W fun x W' => x = .returned (.agg #[.int .i64 0, .int .i64 0]) ∧ Below W.heap.size W W'))
    (HTH : Hid (∀ W a1 a2 a3 b1 b2 b3 b7, Below w.heap.size w W → TS w n (.slice v1 v2 v3) (.slice a1 a2 a3) (.slice b1 b2 b3) b7 ms NL W → Calls Tryz.prog 27 #[.agg #[.int .i64 n, .slice v1 v2 v3], .func (.func 32) #[] #[.pointer (some ⟨b7, 0, none⟩), .pointer (some ⟨w.heap.size + 1, 0, none⟩)]] W fun x W' => ∃ r1 r2 r3, x = .returned (.slice r1 r2 r3) ∧ Sl W' (.slice r1 r2 r3) UL ∧ Below W.heap.size W W'))
    (HCK : Hid (∀ W a1 a2 a3, Below w.heap.size w W → Sl W (.slice a1 a2 a3) UL → Calls Tryz.prog 24 #[.agg #[.int .i64 n, .slice v1 v2 v3], .slice a1 a2 a3] W fun x W' => ∃ r1 r2 r3, x = .returned (.tuple #[.slice r1 r2 r3, .agg #[.int .i64 0, .int .i64 0]]) ∧ SlF W.heap.size W' (.slice r1 r2 r3) KL ∧ Below W.heap.size W W'))
    (HQ1 : Hid (∀ W a1 a2 a3, Below w.heap.size w W → Sl W (.slice a1 a2 a3) NL → Calls Tryz.prog 21 #[.agg #[.int .i64 n, .slice v1 v2 v3], .slice a1 a2 a3] W fun x W' => ∃ r1 r2 r3 s1 s3, x = .returned (.tuple #[.agg #[.int .i64 KQ, .slice r1 r2 r3], .slice s1 n s3, .agg #[.int .i64 0, .int .i64 0]]) ∧ SlF W.heap.size W' (.slice r1 r2 r3) TQ ∧ Sl W' (.slice s1 n s3) TO ∧ Below W.heap.size W W'))
    (HQ2 : Hid (∀ W a1 a2 a3, Below w.heap.size w W → Sl W (.slice a1 a2 a3) KL → Calls Tryz.prog 21 #[.agg #[.int .i64 n, .slice v1 v2 v3], .slice a1 a2 a3] W fun x W' => ∃ r1 r2 r3 s1 s2 s3, x = .returned (.tuple #[.agg #[.int .i64 K, .slice r1 r2 r3], .slice s1 s2 s3, .agg #[.int .i64 0, .int .i64 0]]) ∧ Sl W' (.slice r1 r2 r3) TR ∧ Below W.heap.size W W'))
    (HGF : Hid (∀ W a1 a2 a3, Below w.heap.size w W → Sl W (.slice a1 a2 a3) TQ → Calls Tryz.prog 33 #[.agg #[.int .i64 KQ, .slice a1 a2 a3]] W fun x W' => x = .returned (.agg #[.int .i64 0, .int .i64 0]) ∧ Below W.heap.size W W'))
    (HT2 : Hid (∀ W q1 q2 q3 a1 a2 a3 b1 b2 b3 kb tb, Below w.heap.size w W → Boxed W kb 22 (.slice a1 a2 a3) → Boxed W tb 22 (.slice b1 b2 b3) → Sl W (.slice a1 a2 a3) KL → Sl W (.slice b1 b2 b3) TO → Calls Tryz.prog 27 #[.agg #[.int .i64 KQ, .slice q1 q2 q3], .func (.func 34) #[] #[.pointer (some ⟨kb, 0, none⟩), .pointer (some ⟨tb, 0, none⟩)]] W fun x W' => ∃ r1 r2 r3, x = .returned (.slice r1 r2 r3) ∧ Sl W' (.slice r1 r2 r3) VL ∧ Below W.heap.size W W'))
    (HQ3 : Hid (∀ W a1 a2 a3 b1 b2 b3, Below w.heap.size w W → Sl W (.slice a1 a2 a3) TQ → Sl W (.slice b1 b2 b3) VL → Calls Tryz.prog 21 #[.agg #[.int .i64 KQ, .slice a1 a2 a3], .slice b1 b2 b3] W fun x W' => ∃ r1 r2 r3 s1 s2 s3, x = .returned (.tuple #[.agg #[.int .i64 K, .slice r1 r2 r3], .slice s1 s2 s3, .agg #[.int .i64 0, .int .i64 0]]) ∧ SlF W.heap.size W' (.slice r1 r2 r3) TS' ∧ Below W.heap.size W W'))
    (HIS : Hid (∀ W a1 a2 a3 b1 b2 b3, Below w.heap.size w W → Sl W (.slice a1 a2 a3) TS' → Sl W (.slice b1 b2 b3) TR → Calls Tryz.prog 7 #[.agg #[.int .i64 K, .slice a1 a2 a3], .agg #[.int .i64 K, .slice b1 b2 b3]] W fun x W' => ∃ r1 r2 r3, x = .returned (.tuple #[.slice r1 r2 r3, .agg #[.int .i64 0, .int .i64 0]]) ∧ Below W.heap.size W W'))
    (hway : (24 < n ∧ Hid (∀ W, Below w.heap.size w W → Calls Tryz.prog 35 #[.agg #[.int .i64 n, .slice v1 v2 v3]] W fun x W' => x = .returned (.tuple #[.slice none 0 0, .agg #[.int .i64 2, .int .i64 0]]) ∧ Below W.heap.size W W') ∧
        Hid (∀ W a1 a2 a3, Below w.heap.size w W → Sl W (.slice a1 a2 a3) TQ → Calls Tryz.prog 35 #[.agg #[.int .i64 KQ, .slice a1 a2 a3]] W fun x W' => ∃ r1 r2 r3 c i, x = .returned (.tuple #[.slice r1 r2 r3, .agg #[.int .i64 c, .int .i64 i]]) ∧ Below W.heap.size W W')) ∨
      (¬ 24 < n ∧ Hid (∀ W, Below w.heap.size w W → Calls Tryz.prog 35 #[.agg #[.int .i64 n, .slice v1 v2 v3]] W fun x W' => ∃ (r1 : Option Addr) (r3 : Nat) (ls : List (List Int)), x = .returned (.tuple #[.slice r1 ls.length r3, .agg #[.int .i64 0, .int .i64 0]]) ∧ SlL W' (.slice r1 ls.length r3) ls ∧ ls.length ≤ 16777216 ∧ (ls.filter fun l => NL.all fun a => decide (a ∈ l)).length = F ∧ Below W.heap.size W W') ∧
        Hid (∀ W a1 a2 a3, Below w.heap.size w W → Sl W (.slice a1 a2 a3) TQ → Calls Tryz.prog 35 #[.agg #[.int .i64 KQ, .slice a1 a2 a3]] W fun x W' => ∃ r1 r3, x = .returned (.tuple #[.slice r1 F r3, .agg #[.int .i64 0, .int .i64 0]]) ∧ Below W.heap.size W W'))) :
    Calls Tryz.prog 6 #[.agg #[.int .i64 n, .slice v1 v2 v3], .slice l1 l2 l3, .slice m1 m2 m3] w fun e w' => e = .returned (.bool true) ∧ Below w.heap.size w w' := by
  have hfld : ∀ W, Sem.run Tryz.prog (Instr.field 26 (.agg #[.int .i64 0, .int .i64 0]) 0) W = .ok (.int .i64 0) W := fun W => by kernel_rfl
  obtain ⟨w0, hw0⟩ : ∃ w0, w0 = (w.alloc (.cells #[.int .i64 n, .slice v1 v2 v3] 24)).alloc (.cells #[.slice m1 m2 m3] 22) := ⟨_, rfl⟩
  have hB0 : Below w.heap.size w w0 := by rw [hw0]; exact (balloc w _).alloc (by simp) _
  have hX0 : BoxG w0 w.heap.size n (.slice v1 v2 v3) := by rw [hw0]; exact (blk0 _ _).alloc _
  have hM0 : Boxed w0 (w.heap.size + 1) 22 (.slice m1 m2 m3) := by
    rw [hw0]
    have := Boxed.new (w.alloc (.cells #[.int .i64 n, .slice v1 v2 v3] 24)) 22 (.slice m1 m2 m3)
    rwa [World.size_alloc] at this
  have HQB := hide (fun W (h : Below w.heap.size w W) => quotBegun_any W (hT.below h))
  go_enter Tryz.func6, Tryz.ntmps6
  go_wp2_with fail
  rw [← hw0]
  clear hw0
  refine (HQB.out _ hB0).mono ?_
  rintro x w1 ⟨rfl, hb1⟩
  have hX1 := blk_below hX0 hb1
  have hM1 := Boxed.below hM0 hb1
  have hB1 := bcat2 hB0 hb1
  clear hX0 hB0 hM0 hb1
  obtain ⟨c0, c1, _, _⟩ := hX1.two
  go_wp2_with fail
  clear c0 c1
  refine (HCL.out _ hB1).mono ?_
  rintro x w2 ⟨n1, n2, n3, rfl, hsN, hb2⟩
  obtain ⟨w3, hw3⟩ : ∃ w3, w3 = (w2.alloc (.cells #[.slice n1 n2 n3] 22)).alloc (.cells #[.int .i64 0, .int .i64 0] 26) := ⟨_, rfl⟩
  have hbw3 : Below w2.heap.size w2 w3 := by rw [hw3]; exact (balloc w2 _).alloc (by simp) _
  have hb3 := bcat2 hb2 hbw3
  have hN3 : Boxed w3 w2.heap.size 22 (.slice n1 n2 n3) := by rw [hw3]; exact (Boxed.new w2 22 _).alloc _
  have hF3 : Blk w3 (w2.heap.size + 1) 26 [.int .i64 0, .int .i64 0] := by
    rw [hw3]
    have := blk0 (w := w2.alloc (.cells #[.slice n1 n2 n3] 22)) (T := 26) (.int .i64 0) (.int .i64 0)
    rwa [World.size_alloc] at this
  have hX3 := blk_below hX1 hb3
  have hM3 := Boxed.below hM1 hb3
  have hB3 := bcat2 hB1 hb3
  obtain ⟨c0, c1, _, _⟩ := hX3.two
  obtain ⟨e0, e1, _, _⟩ := hF3.two
  have g0 := hM3.cell
  rw [hw3] at c0 c1 e0 e1 g0
  have qs3 : TS w n (.slice v1 v2 v3) (.slice m1 m2 m3) (.slice n1 n2 n3) w2.heap.size ms NL w3 := ⟨hB3, hX3, hM3, hN3, hF3, hm.below hB3, hsN.below hbw3⟩
  have hsz2 : w.heap.size ≤ w2.heap.size := (bcat2 hB1 hb2).size
  clear hB3 hX3 hM3 hN3 hF3 hsN hX1 hB1 hM1 hb3 hbw3 hb2
  go_wp2_with fail
  rw [← hw3]
  clear hw3 c0 c1 e0 e1 g0
  refine (HSF.out _ qs3.bel).mono ?_
  rintro x w4 ⟨rfl, hb4⟩
  have qs4 := qs3.below hb4
  clear qs3 hb4
  obtain ⟨c0, c1, _, _⟩ := qs4.x.two
  have g0 := qs4.h.cell
  go_wp2_with fail
  clear c0 c1 g0
  refine (HLF.out _ _ _ _ _ qs4.bel (.inl rfl) qs4.sn).mono ?_
  rintro x w5 ⟨rfl, hb5⟩
  have qs5 := qs4.below hb5
  clear qs4 hb5
  obtain ⟨c0, c1, _, _⟩ := qs5.x.two
  have hS : ∀ W9, Below w5.heap.size w5 W9 → (Below w5.heap.size w5 W9 ∧ W9.cell? ⟨w.heap.size, 0, none⟩ = some (.int .i64 n) ∧ W9.cell? ⟨w.heap.size, 1, none⟩ = some (.slice v1 v2 v3)) := fun W9 h => ⟨h, below_cell h c0, below_cell h c1⟩
  have hS0 := hS _ (bdrew (Below.refl _ w5))
  clear c0 c1
  go_wp2_with fail
  go_cut [9, 10] (fun s9 s10 wx => KRel w5 KL s9 s10 wx)
  case first =>
    clear HIS HQ1 HQ2 HQ3 HT2 HGF HLF HSF HCL HQB hway
    refine wp_region_held_drew (S := (fun W9 => Below w5.heap.size w5 W9 ∧ W9.cell? ⟨w.heap.size, 0, none⟩ = some (.int .i64 n) ∧ W9.cell? ⟨w.heap.size, 1, none⟩ = some (.slice v1 v2 v3))) (by kernel_rfl) hS0 (fun hHeld => ?_)
    have hB_0 : Below w5.heap.size w5 w5.drew := bdrew (Below.refl _ w5)
    refine wpAnyH_take (i := 0) (oi := ({ dst := some 48, op := Go.Op.load 24 (Go.Operand.tmp 3), type := 24, pos := _, after := #[], guard := none } : Oper)) (v := ?_) rfl (by kernel_rfl) (by kernel_rfl) (by kernel_rfl) (fun _ _ _ h => h) (Or.inl ⟨by rfl, ?_⟩) (by assumption) ?_
    rotate_left
    · (intro w hSw; (try dsimp only at hSw); go_simp; try with_reducible rfl)
    simp only [Act.put, List.setIfInBounds_toArray, List.set_cons_zero, List.set_cons_succ]
    refine wpAnyH_take (i := 1) (oi := ({ dst := some 49, op := Go.Op.load 24 (Go.Operand.tmp 3), type := 24, pos := _, after := #[], guard := none } : Oper)) (v := ?_) rfl (by kernel_rfl) (by kernel_rfl) (by kernel_rfl) (fun _ _ _ h => h) (Or.inl ⟨by rfl, ?_⟩) (by assumption) ?_
    rotate_left
    · (intro w hSw; (try dsimp only at hSw); go_simp; try with_reducible rfl)
    simp only [Act.put, List.setIfInBounds_toArray, List.set_cons_zero, List.set_cons_succ]
    refine wpAnyH_take (i := 2) (oi := ({ dst := some 50, op := Go.Op.makeFunc (Go.Fn.func 32) #[] #[Go.Operand.tmp 7, Go.Operand.tmp 5], type := 51, pos := _, after := #[], guard := none } : Oper)) (v := ?_) rfl (by kernel_rfl) (by kernel_rfl) (by kernel_rfl) (fun _ _ _ h => h) (Or.inl ⟨by rfl, ?_⟩) (by assumption) ?_
    rotate_left
    · (intro w hSw; (try dsimp only at hSw); go_simp; try with_reducible rfl)
    simp only [Act.put, List.setIfInBounds_toArray, List.set_cons_zero, List.set_cons_succ]
    refine wpAnyH_ready (rs := [3, 8, 9]) (by kernel_rfl) (by simp) (AllReadyH.cons (o := ({ dst := some 51, op := Go.Op.call { callee := Go.Callee.value (Go.Operand.func 27), args := #[Go.Operand.tmp 49, Go.Operand.tmp 50], argTypes := #[24, 51] }, type := 22, pos := _, after := #[{ on := 1, ground := Go.Ground.data }, { on := 2, ground := Go.Ground.data }], guard := none } : Oper)) rfl (fun KK hK => ?_) (AllReadyH.cons (o := ({ dst := some 9, op := Go.Op.alloc 22, type := 0, pos := _, after := #[], guard := none } : Oper)) rfl (fun KK hK => ?_) (AllReadyH.cons (o := ({ dst := some 10, op := Go.Op.alloc 26, type := 0, pos := _, after := #[], guard := none } : Oper)) rfl (fun KK hK => ?_) AllReadyH.nil)))
    · go_simp
      refine (HTH.out _ _ _ _ _ _ _ _ (bcat2 qs5.bel hB_0) (qs5.below hB_0)).mono ?_
      rintro e5 U5 ⟨a1, a2, a3, rfl, ha5, hl5⟩
      try go_wp2_with fail
      have hB_1 := bcat2 hB_0 hl5
      refine hK.out _ _ (hS _ hB_1) (fun hHeld => ?_)
      clear hK
      try simp only [Act.put, List.setIfInBounds_toArray, List.set_cons_zero, List.set_cons_succ]
      refine wpAnyH_ready (rs := [4, 8, 9]) (by kernel_rfl) (by simp) (AllReadyH.cons (o := ({ dst := some 52, op := Go.Op.call { callee := Go.Callee.value (Go.Operand.func 24), args := #[Go.Operand.tmp 48, Go.Operand.tmp 51], argTypes := #[24, 22] }, type := 27, pos := _, after := #[{ on := 0, ground := Go.Ground.data }, { on := 3, ground := Go.Ground.data }, { on := 3, ground := Go.Ground.chain }], guard := none } : Oper)) rfl (fun KK hK => ?_) (AllReadyH.cons (o := ({ dst := some 9, op := Go.Op.alloc 22, type := 0, pos := _, after := #[], guard := none } : Oper)) rfl (fun KK hK => ?_) (AllReadyH.cons (o := ({ dst := some 10, op := Go.Op.alloc 26, type := 0, pos := _, after := #[], guard := none } : Oper)) rfl (fun KK hK => ?_) AllReadyH.nil)))
      · go_simp
        refine (HCK.out _ _ _ _ (bcat2 qs5.bel hB_1) ha5).mono ?_
        rintro e6 U6 ⟨q1, q2, q3, rfl, hs6, hl6⟩
        try go_wp2_with fail
        have hB_2 := bcat2 hB_1 hl6
        refine hK.out _ _ (hS _ hB_2) (fun hHeld => ?_)
        clear hK
        try simp only [Act.put, List.setIfInBounds_toArray, List.set_cons_zero, List.set_cons_succ]
        refine wpAnyH_take (i := 5) (oi := ({ dst := some 47, op := Go.Op.move (Go.Operand.tmp 52), type := 27, pos := _, after := #[{ on := 4, ground := Go.Ground.data }], guard := none } : Oper)) (v := ?_) rfl (by kernel_rfl) (by kernel_rfl) (by kernel_rfl) (fun _ _ _ h => h) (Or.inl ⟨by rfl, ?_⟩) (by assumption) ?_
        rotate_left
        · (intro w hSw; (try dsimp only at hSw); go_simp; try with_reducible rfl)
        simp only [Act.put, List.setIfInBounds_toArray, List.set_cons_zero, List.set_cons_succ]
        refine wpAnyH_take (i := 6) (oi := ({ dst := some 53, op := Go.Op.extract (Go.Operand.tmp 47) 0, type := 22, pos := _, after := #[{ on := 5, ground := Go.Ground.data }], guard := none } : Oper)) (v := ?_) rfl (by kernel_rfl) (by kernel_rfl) (by kernel_rfl) (fun _ _ _ h => h) (Or.inl ⟨by rfl, ?_⟩) (by assumption) ?_
        rotate_left
        · (intro w hSw; (try dsimp only at hSw); go_simp; try with_reducible rfl)
        simp only [Act.put, List.setIfInBounds_toArray, List.set_cons_zero, List.set_cons_succ]
        refine wpAnyH_take (i := 7) (oi := ({ dst := some 54, op := Go.Op.extract (Go.Operand.tmp 47) 1, type := 26, pos := _, after := #[{ on := 5, ground := Go.Ground.data }, { on := 10, ground := Go.Ground.gcOnly Go.Departure.lateStores }], guard := none } : Oper)) (v := ?_) rfl (by kernel_rfl) (by kernel_rfl) (by kernel_rfl) (fun _ _ _ h => h) (Or.inl ⟨by rfl, ?_⟩) (by assumption) ?_
        rotate_left
        · (intro w hSw; (try dsimp only at hSw); go_simp; try with_reducible rfl)
        simp only [Act.put, List.setIfInBounds_toArray, List.set_cons_zero, List.set_cons_succ]
        refine wpAnyH_ready (rs := [8, 9]) (by kernel_rfl) (by simp) (AllReadyH.cons (o := ({ dst := some 9, op := Go.Op.alloc 22, type := 0, pos := _, after := #[], guard := none } : Oper)) rfl (fun KK hK => ?_) (AllReadyH.cons (o := ({ dst := some 10, op := Go.Op.alloc 26, type := 0, pos := _, after := #[], guard := none } : Oper)) rfl (fun KK hK => ?_) AllReadyH.nil))
        · go_simp
          have hB_3 := bcat2 hB_2 (balloc _ (.cells #[.slice none 0 0] 22))
          refine hK.out _ _ (hS _ hB_3) (fun hHeld => ?_)
          clear hK
          try simp only [Act.put, List.setIfInBounds_toArray, List.set_cons_zero, List.set_cons_succ]
          refine wpAnyH_ready (rs := [9]) (by kernel_rfl) (by simp) (AllReadyH.cons (o := ({ dst := some 10, op := Go.Op.alloc 26, type := 0, pos := _, after := #[], guard := none } : Oper)) rfl (fun KK hK => ?_) AllReadyH.nil)
          go_simp
          have hB_4 := bcat2 hB_3 (balloc _ (.cells #[.int .i64 0, .int .i64 0] 26))
          refine hK.out _ _ (hS _ hB_4) (fun hHeld => ?_)
          clear hK
          try simp only [Act.put, List.setIfInBounds_toArray, List.set_cons_zero, List.set_cons_succ]
          refine wpAnyH_ready (rs := [10]) (by kernel_rfl) (by simp) (AllReadyH.cons (o := ({ dst := none, op := Go.Op.store 22 (Go.Operand.tmp 9) (Go.Operand.tmp 53), type := 0, pos := _, after := #[{ on := 8, ground := Go.Ground.data }, { on := 6, ground := Go.Ground.data }, { on := 4, ground := Go.Ground.chain }, { on := 0, ground := Go.Ground.phase }, { on := 1, ground := Go.Ground.phase }, { on := 2, ground := Go.Ground.phase }, { on := 3, ground := Go.Ground.phase }, { on := 4, ground := Go.Ground.phase }, { on := 5, ground := Go.Ground.phase }, { on := 6, ground := Go.Ground.phase }, { on := 7, ground := Go.Ground.textOnly Go.Departure.lateStores }, { on := 8, ground := Go.Ground.phase }, { on := 9, ground := Go.Ground.phase }], guard := none } : Oper)) rfl (fun KK hK => ?_) AllReadyH.nil)
          have h56 : Below U5.heap.size U5 U6 := hl6
          have hU5 : w5.heap.size ≤ U5.heap.size := hB_1.size
          have hU6 : w5.heap.size ≤ U6.heap.size := hB_2.size
          have h6F : Below U6.heap.size U6 ((U6.alloc (.cells #[.slice none 0 0] 22)).alloc (.cells #[.int .i64 0, .int .i64 0] 26)) := bcat2 (balloc U6 _) (balloc _ _)
          have pa0 : Boxed (U6.alloc (.cells #[.slice none 0 0] 22)) (U6.heap.size) 22 (.slice none 0 0) := by
            exact Boxed.new U6 22 (.slice none 0 0)
          have pa : Boxed ((U6.alloc (.cells #[.slice none 0 0] 22)).alloc (.cells #[.int .i64 0, .int .i64 0] 26)) (U6.heap.size) 22 (.slice none 0 0) := (pa0.alloc _)
          have pb0 : Blk ((U6.alloc (.cells #[.slice none 0 0] 22)).alloc (.cells #[.int .i64 0, .int .i64 0] 26)) (U6.heap.size + 1) 26 [.int .i64 0, .int .i64 0] := by
            have h9 := blk0 (w := (U6.alloc (.cells #[.slice none 0 0] 22))) (T := 26) (.int .i64 0) (.int .i64 0)
            rw [World.size_alloc] at h9
            exact h9
          have pb : Blk ((U6.alloc (.cells #[.slice none 0 0] 22)).alloc (.cells #[.int .i64 0, .int .i64 0] 26)) (U6.heap.size + 1) 26 [.int .i64 0, .int .i64 0] := pb0
          have hBF : Below w5.heap.size w5 ((U6.alloc (.cells #[.slice none 0 0] 22)).alloc (.cells #[.int .i64 0, .int .i64 0] 26)) := hB_4
          have hsF : Sl (((U6.alloc (.cells #[.slice none 0 0] 22)).alloc (.cells #[.int .i64 0, .int .i64 0] 26)).setCell ⟨U6.heap.size, 0, none⟩ (.slice q1 q2 q3)) (.slice q1 q2 q3) KL := hs6.sl.below (bSet h6F (by omega))
          generalize ((U6.alloc (.cells #[.slice none 0 0] 22)).alloc (.cells #[.int .i64 0, .int .i64 0] 26)) = WF at *
          have cA := pa.cell
          have fA := pa.frozen
          go_simp
          refine hK.out _ _ (hS _ (bSet hBF (by omega))) (fun hHeld => ?_)
          clear hK
          try simp only [Act.put, List.setIfInBounds_toArray, List.set_cons_zero, List.set_cons_succ]
          refine wpAnyH_ready (rs := [11]) (by kernel_rfl) (by simp) (AllReadyH.cons (o := ({ dst := none, op := Go.Op.store 26 (Go.Operand.tmp 10) (Go.Operand.tmp 54), type := 0, pos := _, after := #[{ on := 9, ground := Go.Ground.data }, { on := 7, ground := Go.Ground.data }, { on := 10, ground := Go.Ground.chain }, { on := 0, ground := Go.Ground.phase }, { on := 1, ground := Go.Ground.phase }, { on := 2, ground := Go.Ground.phase }, { on := 3, ground := Go.Ground.phase }, { on := 4, ground := Go.Ground.phase }, { on := 5, ground := Go.Ground.phase }, { on := 6, ground := Go.Ground.phase }, { on := 7, ground := Go.Ground.phase }, { on := 8, ground := Go.Ground.phase }, { on := 9, ground := Go.Ground.phase }, { on := 10, ground := Go.Ground.phase }], guard := none } : Oper)) rfl (fun KK hK => ?_) AllReadyH.nil)
          have pb' : Blk (WF.setCell ⟨U6.heap.size, 0, none⟩ (.slice q1 q2 q3)) (U6.heap.size + 1) 26 [.int .i64 0, .int .i64 0] := pb.other (p := ⟨U6.heap.size, 0, none⟩) (box_blk pa pb) _
          obtain ⟨cB0, cB1, fB0, fB1⟩ := pb'.two
          obtain ⟨sB0, sB1⟩ := pb'.self
          go_simp
          refine hK.out _ _ (hS _ (bSet hBF (by omega))) (fun hHeld => ?_)
          clear hK
          try simp only [Act.put, List.setIfInBounds_toArray, List.set_cons_zero, List.set_cons_succ]
          refine wpAnyH_done (by kernel_rfl) ?_ _
          go_wp2
          go_meet
          exact krel_fin (by omega) (by omega) hBF pa pb hsF
        · go_simp
          have hB_3 := bcat2 hB_2 (balloc _ (.cells #[.int .i64 0, .int .i64 0] 26))
          refine hK.out _ _ (hS _ hB_3) (fun hHeld => ?_)
          clear hK
          try simp only [Act.put, List.setIfInBounds_toArray, List.set_cons_zero, List.set_cons_succ]
          refine wpAnyH_ready (rs := [8]) (by kernel_rfl) (by simp) (AllReadyH.cons (o := ({ dst := some 9, op := Go.Op.alloc 22, type := 0, pos := _, after := #[], guard := none } : Oper)) rfl (fun KK hK => ?_) AllReadyH.nil)
          go_simp
          have hB_4 := bcat2 hB_3 (balloc _ (.cells #[.slice none 0 0] 22))
          refine hK.out _ _ (hS _ hB_4) (fun hHeld => ?_)
          clear hK
          try simp only [Act.put, List.setIfInBounds_toArray, List.set_cons_zero, List.set_cons_succ]
          refine wpAnyH_ready (rs := [10]) (by kernel_rfl) (by simp) (AllReadyH.cons (o := ({ dst := none, op := Go.Op.store 22 (Go.Operand.tmp 9) (Go.Operand.tmp 53), type := 0, pos := _, after := #[{ on := 8, ground := Go.Ground.data }, { on := 6, ground := Go.Ground.data }, { on := 4, ground := Go.Ground.chain }, { on := 0, ground := Go.Ground.phase }, { on := 1, ground := Go.Ground.phase }, { on := 2, ground := Go.Ground.phase }, { on := 3, ground := Go.Ground.phase }, { on := 4, ground := Go.Ground.phase }, { on := 5, ground := Go.Ground.phase }, { on := 6, ground := Go.Ground.phase }, { on := 7, ground := Go.Ground.textOnly Go.Departure.lateStores }, { on := 8, ground := Go.Ground.phase }, { on := 9, ground := Go.Ground.phase }], guard := none } : Oper)) rfl (fun KK hK => ?_) AllReadyH.nil)
          have h56 : Below U5.heap.size U5 U6 := hl6
          have hU5 : w5.heap.size ≤ U5.heap.size := hB_1.size
          have hU6 : w5.heap.size ≤ U6.heap.size := hB_2.size
          have h6F : Below U6.heap.size U6 ((U6.alloc (.cells #[.int .i64 0, .int .i64 0] 26)).alloc (.cells #[.slice none 0 0] 22)) := bcat2 (balloc U6 _) (balloc _ _)
          have pb0 : Blk (U6.alloc (.cells #[.int .i64 0, .int .i64 0] 26)) (U6.heap.size) 26 [.int .i64 0, .int .i64 0] := by
            exact blk0 (w := U6) (T := 26) (.int .i64 0) (.int .i64 0)
          have pb : Blk ((U6.alloc (.cells #[.int .i64 0, .int .i64 0] 26)).alloc (.cells #[.slice none 0 0] 22)) (U6.heap.size) 26 [.int .i64 0, .int .i64 0] := (pb0.alloc _)
          have pa0 : Boxed ((U6.alloc (.cells #[.int .i64 0, .int .i64 0] 26)).alloc (.cells #[.slice none 0 0] 22)) (U6.heap.size + 1) 22 (.slice none 0 0) := by
            have h9 := Boxed.new (U6.alloc (.cells #[.int .i64 0, .int .i64 0] 26)) 22 (.slice none 0 0)
            rw [World.size_alloc] at h9
            exact h9
          have pa : Boxed ((U6.alloc (.cells #[.int .i64 0, .int .i64 0] 26)).alloc (.cells #[.slice none 0 0] 22)) (U6.heap.size + 1) 22 (.slice none 0 0) := pa0
          have hBF : Below w5.heap.size w5 ((U6.alloc (.cells #[.int .i64 0, .int .i64 0] 26)).alloc (.cells #[.slice none 0 0] 22)) := hB_4
          have hsF : Sl (((U6.alloc (.cells #[.int .i64 0, .int .i64 0] 26)).alloc (.cells #[.slice none 0 0] 22)).setCell ⟨U6.heap.size + 1, 0, none⟩ (.slice q1 q2 q3)) (.slice q1 q2 q3) KL := hs6.sl.below (bSet h6F (by omega))
          generalize ((U6.alloc (.cells #[.int .i64 0, .int .i64 0] 26)).alloc (.cells #[.slice none 0 0] 22)) = WF at *
          have cA := pa.cell
          have fA := pa.frozen
          go_simp
          refine hK.out _ _ (hS _ (bSet hBF (by omega))) (fun hHeld => ?_)
          clear hK
          try simp only [Act.put, List.setIfInBounds_toArray, List.set_cons_zero, List.set_cons_succ]
          refine wpAnyH_ready (rs := [11]) (by kernel_rfl) (by simp) (AllReadyH.cons (o := ({ dst := none, op := Go.Op.store 26 (Go.Operand.tmp 10) (Go.Operand.tmp 54), type := 0, pos := _, after := #[{ on := 9, ground := Go.Ground.data }, { on := 7, ground := Go.Ground.data }, { on := 10, ground := Go.Ground.chain }, { on := 0, ground := Go.Ground.phase }, { on := 1, ground := Go.Ground.phase }, { on := 2, ground := Go.Ground.phase }, { on := 3, ground := Go.Ground.phase }, { on := 4, ground := Go.Ground.phase }, { on := 5, ground := Go.Ground.phase }, { on := 6, ground := Go.Ground.phase }, { on := 7, ground := Go.Ground.phase }, { on := 8, ground := Go.Ground.phase }, { on := 9, ground := Go.Ground.phase }, { on := 10, ground := Go.Ground.phase }], guard := none } : Oper)) rfl (fun KK hK => ?_) AllReadyH.nil)
          have pb' : Blk (WF.setCell ⟨U6.heap.size + 1, 0, none⟩ (.slice q1 q2 q3)) (U6.heap.size) 26 [.int .i64 0, .int .i64 0] := pb.other (p := ⟨U6.heap.size + 1, 0, none⟩) (box_blk pa pb) _
          obtain ⟨cB0, cB1, fB0, fB1⟩ := pb'.two
          obtain ⟨sB0, sB1⟩ := pb'.self
          go_simp
          refine hK.out _ _ (hS _ (bSet hBF (by omega))) (fun hHeld => ?_)
          clear hK
          try simp only [Act.put, List.setIfInBounds_toArray, List.set_cons_zero, List.set_cons_succ]
          refine wpAnyH_done (by kernel_rfl) ?_ _
          go_wp2
          go_meet
          exact krel_fin (by omega) (by omega) hBF pa pb hsF
      · go_simp
        have hB_2 := bcat2 hB_1 (balloc _ (.cells #[.slice none 0 0] 22))
        refine hK.out _ _ (hS _ hB_2) (fun hHeld => ?_)
        clear hK
        try simp only [Act.put, List.setIfInBounds_toArray, List.set_cons_zero, List.set_cons_succ]
        refine wpAnyH_ready (rs := [4, 9]) (by kernel_rfl) (by simp) (AllReadyH.cons (o := ({ dst := some 52, op := Go.Op.call { callee := Go.Callee.value (Go.Operand.func 24), args := #[Go.Operand.tmp 48, Go.Operand.tmp 51], argTypes := #[24, 22] }, type := 27, pos := _, after := #[{ on := 0, ground := Go.Ground.data }, { on := 3, ground := Go.Ground.data }, { on := 3, ground := Go.Ground.chain }], guard := none } : Oper)) rfl (fun KK hK => ?_) (AllReadyH.cons (o := ({ dst := some 10, op := Go.Op.alloc 26, type := 0, pos := _, after := #[], guard := none } : Oper)) rfl (fun KK hK => ?_) AllReadyH.nil))
        · go_simp
          refine (HCK.out _ _ _ _ (bcat2 qs5.bel hB_2) (ha5.below (balloc _ _))).mono ?_
          rintro e6 U6 ⟨q1, q2, q3, rfl, hs6, hl6⟩
          try go_wp2_with fail
          have hB_3 := bcat2 hB_2 hl6
          refine hK.out _ _ (hS _ hB_3) (fun hHeld => ?_)
          clear hK
          try simp only [Act.put, List.setIfInBounds_toArray, List.set_cons_zero, List.set_cons_succ]
          refine wpAnyH_take (i := 5) (oi := ({ dst := some 47, op := Go.Op.move (Go.Operand.tmp 52), type := 27, pos := _, after := #[{ on := 4, ground := Go.Ground.data }], guard := none } : Oper)) (v := ?_) rfl (by kernel_rfl) (by kernel_rfl) (by kernel_rfl) (fun _ _ _ h => h) (Or.inl ⟨by rfl, ?_⟩) (by assumption) ?_
          rotate_left
          · (intro w hSw; (try dsimp only at hSw); go_simp; try with_reducible rfl)
          simp only [Act.put, List.setIfInBounds_toArray, List.set_cons_zero, List.set_cons_succ]
          refine wpAnyH_take (i := 6) (oi := ({ dst := some 53, op := Go.Op.extract (Go.Operand.tmp 47) 0, type := 22, pos := _, after := #[{ on := 5, ground := Go.Ground.data }], guard := none } : Oper)) (v := ?_) rfl (by kernel_rfl) (by kernel_rfl) (by kernel_rfl) (fun _ _ _ h => h) (Or.inl ⟨by rfl, ?_⟩) (by assumption) ?_
          rotate_left
          · (intro w hSw; (try dsimp only at hSw); go_simp; try with_reducible rfl)
          simp only [Act.put, List.setIfInBounds_toArray, List.set_cons_zero, List.set_cons_succ]
          refine wpAnyH_take (i := 7) (oi := ({ dst := some 54, op := Go.Op.extract (Go.Operand.tmp 47) 1, type := 26, pos := _, after := #[{ on := 5, ground := Go.Ground.data }, { on := 10, ground := Go.Ground.gcOnly Go.Departure.lateStores }], guard := none } : Oper)) (v := ?_) rfl (by kernel_rfl) (by kernel_rfl) (by kernel_rfl) (fun _ _ _ h => h) (Or.inl ⟨by rfl, ?_⟩) (by assumption) ?_
          rotate_left
          · (intro w hSw; (try dsimp only at hSw); go_simp; try with_reducible rfl)
          simp only [Act.put, List.setIfInBounds_toArray, List.set_cons_zero, List.set_cons_succ]
          refine wpAnyH_ready (rs := [9]) (by kernel_rfl) (by simp) (AllReadyH.cons (o := ({ dst := some 10, op := Go.Op.alloc 26, type := 0, pos := _, after := #[], guard := none } : Oper)) rfl (fun KK hK => ?_) AllReadyH.nil)
          go_simp
          have hB_4 := bcat2 hB_3 (balloc _ (.cells #[.int .i64 0, .int .i64 0] 26))
          refine hK.out _ _ (hS _ hB_4) (fun hHeld => ?_)
          clear hK
          try simp only [Act.put, List.setIfInBounds_toArray, List.set_cons_zero, List.set_cons_succ]
          refine wpAnyH_ready (rs := [10]) (by kernel_rfl) (by simp) (AllReadyH.cons (o := ({ dst := none, op := Go.Op.store 22 (Go.Operand.tmp 9) (Go.Operand.tmp 53), type := 0, pos := _, after := #[{ on := 8, ground := Go.Ground.data }, { on := 6, ground := Go.Ground.data }, { on := 4, ground := Go.Ground.chain }, { on := 0, ground := Go.Ground.phase }, { on := 1, ground := Go.Ground.phase }, { on := 2, ground := Go.Ground.phase }, { on := 3, ground := Go.Ground.phase }, { on := 4, ground := Go.Ground.phase }, { on := 5, ground := Go.Ground.phase }, { on := 6, ground := Go.Ground.phase }, { on := 7, ground := Go.Ground.textOnly Go.Departure.lateStores }, { on := 8, ground := Go.Ground.phase }, { on := 9, ground := Go.Ground.phase }], guard := none } : Oper)) rfl (fun KK hK => ?_) AllReadyH.nil)
          have h56 : Below U5.heap.size U5 U6 := bcat2 (balloc _ _) hl6
          have hU5 : w5.heap.size ≤ U5.heap.size := hB_1.size
          have hU6 : w5.heap.size ≤ U6.heap.size := hB_3.size
          have h6F : Below U6.heap.size U6 (U6.alloc (.cells #[.int .i64 0, .int .i64 0] 26)) := balloc U6 _
          have pa0 : Boxed (U5.alloc (.cells #[.slice none 0 0] 22)) (U5.heap.size) 22 (.slice none 0 0) := by
            exact Boxed.new U5 22 (.slice none 0 0)
          have pa : Boxed (U6.alloc (.cells #[.int .i64 0, .int .i64 0] 26)) (U5.heap.size) 22 (.slice none 0 0) := Boxed.below (Boxed.below pa0 hl6) h6F
          have pb0 : Blk (U6.alloc (.cells #[.int .i64 0, .int .i64 0] 26)) (U6.heap.size) 26 [.int .i64 0, .int .i64 0] := by
            exact blk0 (w := U6) (T := 26) (.int .i64 0) (.int .i64 0)
          have pb : Blk (U6.alloc (.cells #[.int .i64 0, .int .i64 0] 26)) (U6.heap.size) 26 [.int .i64 0, .int .i64 0] := pb0
          have hBF : Below w5.heap.size w5 (U6.alloc (.cells #[.int .i64 0, .int .i64 0] 26)) := hB_4
          have hlt0 : U5.heap.size < U5.heap.size + 1 := by omega
          have hsF : Sl ((U6.alloc (.cells #[.int .i64 0, .int .i64 0] 26)).setCell ⟨U5.heap.size, 0, none⟩ (.slice q1 q2 q3)) (.slice q1 q2 q3) KL := (slF_set (hs6.below h6F) (by rw [World.size_alloc]; omega)).sl
          generalize (U6.alloc (.cells #[.int .i64 0, .int .i64 0] 26)) = WF at *
          have cA := pa.cell
          have fA := pa.frozen
          go_simp
          refine hK.out _ _ (hS _ (bSet hBF (by omega))) (fun hHeld => ?_)
          clear hK
          try simp only [Act.put, List.setIfInBounds_toArray, List.set_cons_zero, List.set_cons_succ]
          refine wpAnyH_ready (rs := [11]) (by kernel_rfl) (by simp) (AllReadyH.cons (o := ({ dst := none, op := Go.Op.store 26 (Go.Operand.tmp 10) (Go.Operand.tmp 54), type := 0, pos := _, after := #[{ on := 9, ground := Go.Ground.data }, { on := 7, ground := Go.Ground.data }, { on := 10, ground := Go.Ground.chain }, { on := 0, ground := Go.Ground.phase }, { on := 1, ground := Go.Ground.phase }, { on := 2, ground := Go.Ground.phase }, { on := 3, ground := Go.Ground.phase }, { on := 4, ground := Go.Ground.phase }, { on := 5, ground := Go.Ground.phase }, { on := 6, ground := Go.Ground.phase }, { on := 7, ground := Go.Ground.phase }, { on := 8, ground := Go.Ground.phase }, { on := 9, ground := Go.Ground.phase }, { on := 10, ground := Go.Ground.phase }], guard := none } : Oper)) rfl (fun KK hK => ?_) AllReadyH.nil)
          have pb' : Blk (WF.setCell ⟨U5.heap.size, 0, none⟩ (.slice q1 q2 q3)) (U6.heap.size) 26 [.int .i64 0, .int .i64 0] := pb.other (p := ⟨U5.heap.size, 0, none⟩) (box_blk pa pb) _
          obtain ⟨cB0, cB1, fB0, fB1⟩ := pb'.two
          obtain ⟨sB0, sB1⟩ := pb'.self
          go_simp
          refine hK.out _ _ (hS _ (bSet hBF (by omega))) (fun hHeld => ?_)
          clear hK
          try simp only [Act.put, List.setIfInBounds_toArray, List.set_cons_zero, List.set_cons_succ]
          refine wpAnyH_done (by kernel_rfl) ?_ _
          go_wp2
          go_meet
          exact krel_fin (by omega) (by omega) hBF pa pb hsF
        · go_simp
          have hB_3 := bcat2 hB_2 (balloc _ (.cells #[.int .i64 0, .int .i64 0] 26))
          refine hK.out _ _ (hS _ hB_3) (fun hHeld => ?_)
          clear hK
          try simp only [Act.put, List.setIfInBounds_toArray, List.set_cons_zero, List.set_cons_succ]
          refine wpAnyH_ready (rs := [4]) (by kernel_rfl) (by simp) (AllReadyH.cons (o := ({ dst := some 52, op := Go.Op.call { callee := Go.Callee.value (Go.Operand.func 24), args := #[Go.Operand.tmp 48, Go.Operand.tmp 51], argTypes := #[24, 22] }, type := 27, pos := _, after := #[{ on := 0, ground := Go.Ground.data }, { on := 3, ground := Go.Ground.data }, { on := 3, ground := Go.Ground.chain }], guard := none } : Oper)) rfl (fun KK hK => ?_) AllReadyH.nil)
          go_simp
          refine (HCK.out _ _ _ _ (bcat2 qs5.bel hB_3) ((ha5.below (balloc _ _)).below (balloc _ _))).mono ?_
          rintro e6 U6 ⟨q1, q2, q3, rfl, hs6, hl6⟩
          try go_wp2_with fail
          have hB_4 := bcat2 hB_3 hl6
          refine hK.out _ _ (hS _ hB_4) (fun hHeld => ?_)
          clear hK
          try simp only [Act.put, List.setIfInBounds_toArray, List.set_cons_zero, List.set_cons_succ]
          refine wpAnyH_take (i := 5) (oi := ({ dst := some 47, op := Go.Op.move (Go.Operand.tmp 52), type := 27, pos := _, after := #[{ on := 4, ground := Go.Ground.data }], guard := none } : Oper)) (v := ?_) rfl (by kernel_rfl) (by kernel_rfl) (by kernel_rfl) (fun _ _ _ h => h) (Or.inl ⟨by rfl, ?_⟩) (by assumption) ?_
          rotate_left
          · (intro w hSw; (try dsimp only at hSw); go_simp; try with_reducible rfl)
          simp only [Act.put, List.setIfInBounds_toArray, List.set_cons_zero, List.set_cons_succ]
          refine wpAnyH_take (i := 6) (oi := ({ dst := some 53, op := Go.Op.extract (Go.Operand.tmp 47) 0, type := 22, pos := _, after := #[{ on := 5, ground := Go.Ground.data }], guard := none } : Oper)) (v := ?_) rfl (by kernel_rfl) (by kernel_rfl) (by kernel_rfl) (fun _ _ _ h => h) (Or.inl ⟨by rfl, ?_⟩) (by assumption) ?_
          rotate_left
          · (intro w hSw; (try dsimp only at hSw); go_simp; try with_reducible rfl)
          simp only [Act.put, List.setIfInBounds_toArray, List.set_cons_zero, List.set_cons_succ]
          refine wpAnyH_take (i := 7) (oi := ({ dst := some 54, op := Go.Op.extract (Go.Operand.tmp 47) 1, type := 26, pos := _, after := #[{ on := 5, ground := Go.Ground.data }, { on := 10, ground := Go.Ground.gcOnly Go.Departure.lateStores }], guard := none } : Oper)) (v := ?_) rfl (by kernel_rfl) (by kernel_rfl) (by kernel_rfl) (fun _ _ _ h => h) (Or.inl ⟨by rfl, ?_⟩) (by assumption) ?_
          rotate_left
          · (intro w hSw; (try dsimp only at hSw); go_simp; try with_reducible rfl)
          simp only [Act.put, List.setIfInBounds_toArray, List.set_cons_zero, List.set_cons_succ]
          refine wpAnyH_ready (rs := [10]) (by kernel_rfl) (by simp) (AllReadyH.cons (o := ({ dst := none, op := Go.Op.store 22 (Go.Operand.tmp 9) (Go.Operand.tmp 53), type := 0, pos := _, after := #[{ on := 8, ground := Go.Ground.data }, { on := 6, ground := Go.Ground.data }, { on := 4, ground := Go.Ground.chain }, { on := 0, ground := Go.Ground.phase }, { on := 1, ground := Go.Ground.phase }, { on := 2, ground := Go.Ground.phase }, { on := 3, ground := Go.Ground.phase }, { on := 4, ground := Go.Ground.phase }, { on := 5, ground := Go.Ground.phase }, { on := 6, ground := Go.Ground.phase }, { on := 7, ground := Go.Ground.textOnly Go.Departure.lateStores }, { on := 8, ground := Go.Ground.phase }, { on := 9, ground := Go.Ground.phase }], guard := none } : Oper)) rfl (fun KK hK => ?_) AllReadyH.nil)
          have h56 : Below U5.heap.size U5 U6 := bcat2 (bcat2 (balloc _ _) (balloc _ _)) hl6
          have hU5 : w5.heap.size ≤ U5.heap.size := hB_1.size
          have hU6 : w5.heap.size ≤ U6.heap.size := hB_4.size
          have h6F : Below U6.heap.size U6 U6 := Below.refl _ U6
          have pa0 : Boxed (U5.alloc (.cells #[.slice none 0 0] 22)) (U5.heap.size) 22 (.slice none 0 0) := by
            exact Boxed.new U5 22 (.slice none 0 0)
          have pa : Boxed U6 (U5.heap.size) 22 (.slice none 0 0) := Boxed.below (Boxed.below (pa0.alloc _) hl6) h6F
          have pb0 : Blk ((U5.alloc (.cells #[.slice none 0 0] 22)).alloc (.cells #[.int .i64 0, .int .i64 0] 26)) (U5.heap.size + 1) 26 [.int .i64 0, .int .i64 0] := by
            have h9 := blk0 (w := (U5.alloc (.cells #[.slice none 0 0] 22))) (T := 26) (.int .i64 0) (.int .i64 0)
            rw [World.size_alloc] at h9
            exact h9
          have pb : Blk U6 (U5.heap.size + 1) 26 [.int .i64 0, .int .i64 0] := blk_below (blk_below pb0 hl6) h6F
          have hBF : Below w5.heap.size w5 U6 := hB_4
          have hlt0 : U5.heap.size < U5.heap.size + 2 := by omega
          have hsF : Sl (U6.setCell ⟨U5.heap.size, 0, none⟩ (.slice q1 q2 q3)) (.slice q1 q2 q3) KL := (slF_set (hs6.below h6F) (by rw [World.size_alloc, World.size_alloc]; omega)).sl
          have cA := pa.cell
          have fA := pa.frozen
          go_simp
          refine hK.out _ _ (hS _ (bSet hBF (by omega))) (fun hHeld => ?_)
          clear hK
          try simp only [Act.put, List.setIfInBounds_toArray, List.set_cons_zero, List.set_cons_succ]
          refine wpAnyH_ready (rs := [11]) (by kernel_rfl) (by simp) (AllReadyH.cons (o := ({ dst := none, op := Go.Op.store 26 (Go.Operand.tmp 10) (Go.Operand.tmp 54), type := 0, pos := _, after := #[{ on := 9, ground := Go.Ground.data }, { on := 7, ground := Go.Ground.data }, { on := 10, ground := Go.Ground.chain }, { on := 0, ground := Go.Ground.phase }, { on := 1, ground := Go.Ground.phase }, { on := 2, ground := Go.Ground.phase }, { on := 3, ground := Go.Ground.phase }, { on := 4, ground := Go.Ground.phase }, { on := 5, ground := Go.Ground.phase }, { on := 6, ground := Go.Ground.phase }, { on := 7, ground := Go.Ground.phase }, { on := 8, ground := Go.Ground.phase }, { on := 9, ground := Go.Ground.phase }, { on := 10, ground := Go.Ground.phase }], guard := none } : Oper)) rfl (fun KK hK => ?_) AllReadyH.nil)
          have pb' : Blk (U6.setCell ⟨U5.heap.size, 0, none⟩ (.slice q1 q2 q3)) (U5.heap.size + 1) 26 [.int .i64 0, .int .i64 0] := pb.other (p := ⟨U5.heap.size, 0, none⟩) (box_blk pa pb) _
          obtain ⟨cB0, cB1, fB0, fB1⟩ := pb'.two
          obtain ⟨sB0, sB1⟩ := pb'.self
          go_simp
          refine hK.out _ _ (hS _ (bSet hBF (by omega))) (fun hHeld => ?_)
          clear hK
          try simp only [Act.put, List.setIfInBounds_toArray, List.set_cons_zero, List.set_cons_succ]
          refine wpAnyH_done (by kernel_rfl) ?_ _
          go_wp2
          go_meet
          exact krel_fin (by omega) (by omega) hBF pa pb hsF
      · go_simp
        have hB_2 := bcat2 hB_1 (balloc _ (.cells #[.int .i64 0, .int .i64 0] 26))
        refine hK.out _ _ (hS _ hB_2) (fun hHeld => ?_)
        clear hK
        try simp only [Act.put, List.setIfInBounds_toArray, List.set_cons_zero, List.set_cons_succ]
        refine wpAnyH_ready (rs := [4, 8]) (by kernel_rfl) (by simp) (AllReadyH.cons (o := ({ dst := some 52, op := Go.Op.call { callee := Go.Callee.value (Go.Operand.func 24), args := #[Go.Operand.tmp 48, Go.Operand.tmp 51], argTypes := #[24, 22] }, type := 27, pos := _, after := #[{ on := 0, ground := Go.Ground.data }, { on := 3, ground := Go.Ground.data }, { on := 3, ground := Go.Ground.chain }], guard := none } : Oper)) rfl (fun KK hK => ?_) (AllReadyH.cons (o := ({ dst := some 9, op := Go.Op.alloc 22, type := 0, pos := _, after := #[], guard := none } : Oper)) rfl (fun KK hK => ?_) AllReadyH.nil))
        · go_simp
          refine (HCK.out _ _ _ _ (bcat2 qs5.bel hB_2) (ha5.below (balloc _ _))).mono ?_
          rintro e6 U6 ⟨q1, q2, q3, rfl, hs6, hl6⟩
          try go_wp2_with fail
          have hB_3 := bcat2 hB_2 hl6
          refine hK.out _ _ (hS _ hB_3) (fun hHeld => ?_)
          clear hK
          try simp only [Act.put, List.setIfInBounds_toArray, List.set_cons_zero, List.set_cons_succ]
          refine wpAnyH_take (i := 5) (oi := ({ dst := some 47, op := Go.Op.move (Go.Operand.tmp 52), type := 27, pos := _, after := #[{ on := 4, ground := Go.Ground.data }], guard := none } : Oper)) (v := ?_) rfl (by kernel_rfl) (by kernel_rfl) (by kernel_rfl) (fun _ _ _ h => h) (Or.inl ⟨by rfl, ?_⟩) (by assumption) ?_
          rotate_left
          · (intro w hSw; (try dsimp only at hSw); go_simp; try with_reducible rfl)
          simp only [Act.put, List.setIfInBounds_toArray, List.set_cons_zero, List.set_cons_succ]
          refine wpAnyH_take (i := 6) (oi := ({ dst := some 53, op := Go.Op.extract (Go.Operand.tmp 47) 0, type := 22, pos := _, after := #[{ on := 5, ground := Go.Ground.data }], guard := none } : Oper)) (v := ?_) rfl (by kernel_rfl) (by kernel_rfl) (by kernel_rfl) (fun _ _ _ h => h) (Or.inl ⟨by rfl, ?_⟩) (by assumption) ?_
          rotate_left
          · (intro w hSw; (try dsimp only at hSw); go_simp; try with_reducible rfl)
          simp only [Act.put, List.setIfInBounds_toArray, List.set_cons_zero, List.set_cons_succ]
          refine wpAnyH_take (i := 7) (oi := ({ dst := some 54, op := Go.Op.extract (Go.Operand.tmp 47) 1, type := 26, pos := _, after := #[{ on := 5, ground := Go.Ground.data }, { on := 10, ground := Go.Ground.gcOnly Go.Departure.lateStores }], guard := none } : Oper)) (v := ?_) rfl (by kernel_rfl) (by kernel_rfl) (by kernel_rfl) (fun _ _ _ h => h) (Or.inl ⟨by rfl, ?_⟩) (by assumption) ?_
          rotate_left
          · (intro w hSw; (try dsimp only at hSw); go_simp; try with_reducible rfl)
          simp only [Act.put, List.setIfInBounds_toArray, List.set_cons_zero, List.set_cons_succ]
          refine wpAnyH_ready (rs := [8]) (by kernel_rfl) (by simp) (AllReadyH.cons (o := ({ dst := some 9, op := Go.Op.alloc 22, type := 0, pos := _, after := #[], guard := none } : Oper)) rfl (fun KK hK => ?_) AllReadyH.nil)
          go_simp
          have hB_4 := bcat2 hB_3 (balloc _ (.cells #[.slice none 0 0] 22))
          refine hK.out _ _ (hS _ hB_4) (fun hHeld => ?_)
          clear hK
          try simp only [Act.put, List.setIfInBounds_toArray, List.set_cons_zero, List.set_cons_succ]
          refine wpAnyH_ready (rs := [10]) (by kernel_rfl) (by simp) (AllReadyH.cons (o := ({ dst := none, op := Go.Op.store 22 (Go.Operand.tmp 9) (Go.Operand.tmp 53), type := 0, pos := _, after := #[{ on := 8, ground := Go.Ground.data }, { on := 6, ground := Go.Ground.data }, { on := 4, ground := Go.Ground.chain }, { on := 0, ground := Go.Ground.phase }, { on := 1, ground := Go.Ground.phase }, { on := 2, ground := Go.Ground.phase }, { on := 3, ground := Go.Ground.phase }, { on := 4, ground := Go.Ground.phase }, { on := 5, ground := Go.Ground.phase }, { on := 6, ground := Go.Ground.phase }, { on := 7, ground := Go.Ground.textOnly Go.Departure.lateStores }, { on := 8, ground := Go.Ground.phase }, { on := 9, ground := Go.Ground.phase }], guard := none } : Oper)) rfl (fun KK hK => ?_) AllReadyH.nil)
          have h56 : Below U5.heap.size U5 U6 := bcat2 (balloc _ _) hl6
          have hU5 : w5.heap.size ≤ U5.heap.size := hB_1.size
          have hU6 : w5.heap.size ≤ U6.heap.size := hB_3.size
          have h6F : Below U6.heap.size U6 (U6.alloc (.cells #[.slice none 0 0] 22)) := balloc U6 _
          have pb0 : Blk (U5.alloc (.cells #[.int .i64 0, .int .i64 0] 26)) (U5.heap.size) 26 [.int .i64 0, .int .i64 0] := by
            exact blk0 (w := U5) (T := 26) (.int .i64 0) (.int .i64 0)
          have pb : Blk (U6.alloc (.cells #[.slice none 0 0] 22)) (U5.heap.size) 26 [.int .i64 0, .int .i64 0] := blk_below (blk_below pb0 hl6) h6F
          have pa0 : Boxed (U6.alloc (.cells #[.slice none 0 0] 22)) (U6.heap.size) 22 (.slice none 0 0) := by
            exact Boxed.new U6 22 (.slice none 0 0)
          have pa : Boxed (U6.alloc (.cells #[.slice none 0 0] 22)) (U6.heap.size) 22 (.slice none 0 0) := pa0
          have hBF : Below w5.heap.size w5 (U6.alloc (.cells #[.slice none 0 0] 22)) := hB_4
          have hsF : Sl ((U6.alloc (.cells #[.slice none 0 0] 22)).setCell ⟨U6.heap.size, 0, none⟩ (.slice q1 q2 q3)) (.slice q1 q2 q3) KL := hs6.sl.below (bSet h6F (by omega))
          generalize (U6.alloc (.cells #[.slice none 0 0] 22)) = WF at *
          have cA := pa.cell
          have fA := pa.frozen
          go_simp
          refine hK.out _ _ (hS _ (bSet hBF (by omega))) (fun hHeld => ?_)
          clear hK
          try simp only [Act.put, List.setIfInBounds_toArray, List.set_cons_zero, List.set_cons_succ]
          refine wpAnyH_ready (rs := [11]) (by kernel_rfl) (by simp) (AllReadyH.cons (o := ({ dst := none, op := Go.Op.store 26 (Go.Operand.tmp 10) (Go.Operand.tmp 54), type := 0, pos := _, after := #[{ on := 9, ground := Go.Ground.data }, { on := 7, ground := Go.Ground.data }, { on := 10, ground := Go.Ground.chain }, { on := 0, ground := Go.Ground.phase }, { on := 1, ground := Go.Ground.phase }, { on := 2, ground := Go.Ground.phase }, { on := 3, ground := Go.Ground.phase }, { on := 4, ground := Go.Ground.phase }, { on := 5, ground := Go.Ground.phase }, { on := 6, ground := Go.Ground.phase }, { on := 7, ground := Go.Ground.phase }, { on := 8, ground := Go.Ground.phase }, { on := 9, ground := Go.Ground.phase }, { on := 10, ground := Go.Ground.phase }], guard := none } : Oper)) rfl (fun KK hK => ?_) AllReadyH.nil)
          have pb' : Blk (WF.setCell ⟨U6.heap.size, 0, none⟩ (.slice q1 q2 q3)) (U5.heap.size) 26 [.int .i64 0, .int .i64 0] := pb.other (p := ⟨U6.heap.size, 0, none⟩) (box_blk pa pb) _
          obtain ⟨cB0, cB1, fB0, fB1⟩ := pb'.two
          obtain ⟨sB0, sB1⟩ := pb'.self
          go_simp
          refine hK.out _ _ (hS _ (bSet hBF (by omega))) (fun hHeld => ?_)
          clear hK
          try simp only [Act.put, List.setIfInBounds_toArray, List.set_cons_zero, List.set_cons_succ]
          refine wpAnyH_done (by kernel_rfl) ?_ _
          go_wp2
          go_meet
          exact krel_fin (by omega) (by omega) hBF pa pb hsF
        · go_simp
          have hB_3 := bcat2 hB_2 (balloc _ (.cells #[.slice none 0 0] 22))
          refine hK.out _ _ (hS _ hB_3) (fun hHeld => ?_)
          clear hK
          try simp only [Act.put, List.setIfInBounds_toArray, List.set_cons_zero, List.set_cons_succ]
          refine wpAnyH_ready (rs := [4]) (by kernel_rfl) (by simp) (AllReadyH.cons (o := ({ dst := some 52, op := Go.Op.call { callee := Go.Callee.value (Go.Operand.func 24), args := #[Go.Operand.tmp 48, Go.Operand.tmp 51], argTypes := #[24, 22] }, type := 27, pos := _, after := #[{ on := 0, ground := Go.Ground.data }, { on := 3, ground := Go.Ground.data }, { on := 3, ground := Go.Ground.chain }], guard := none } : Oper)) rfl (fun KK hK => ?_) AllReadyH.nil)
          go_simp
          refine (HCK.out _ _ _ _ (bcat2 qs5.bel hB_3) ((ha5.below (balloc _ _)).below (balloc _ _))).mono ?_
          rintro e6 U6 ⟨q1, q2, q3, rfl, hs6, hl6⟩
          try go_wp2_with fail
          have hB_4 := bcat2 hB_3 hl6
          refine hK.out _ _ (hS _ hB_4) (fun hHeld => ?_)
          clear hK
          try simp only [Act.put, List.setIfInBounds_toArray, List.set_cons_zero, List.set_cons_succ]
          refine wpAnyH_take (i := 5) (oi := ({ dst := some 47, op := Go.Op.move (Go.Operand.tmp 52), type := 27, pos := _, after := #[{ on := 4, ground := Go.Ground.data }], guard := none } : Oper)) (v := ?_) rfl (by kernel_rfl) (by kernel_rfl) (by kernel_rfl) (fun _ _ _ h => h) (Or.inl ⟨by rfl, ?_⟩) (by assumption) ?_
          rotate_left
          · (intro w hSw; (try dsimp only at hSw); go_simp; try with_reducible rfl)
          simp only [Act.put, List.setIfInBounds_toArray, List.set_cons_zero, List.set_cons_succ]
          refine wpAnyH_take (i := 6) (oi := ({ dst := some 53, op := Go.Op.extract (Go.Operand.tmp 47) 0, type := 22, pos := _, after := #[{ on := 5, ground := Go.Ground.data }], guard := none } : Oper)) (v := ?_) rfl (by kernel_rfl) (by kernel_rfl) (by kernel_rfl) (fun _ _ _ h => h) (Or.inl ⟨by rfl, ?_⟩) (by assumption) ?_
          rotate_left
          · (intro w hSw; (try dsimp only at hSw); go_simp; try with_reducible rfl)
          simp only [Act.put, List.setIfInBounds_toArray, List.set_cons_zero, List.set_cons_succ]
          refine wpAnyH_take (i := 7) (oi := ({ dst := some 54, op := Go.Op.extract (Go.Operand.tmp 47) 1, type := 26, pos := _, after := #[{ on := 5, ground := Go.Ground.data }, { on := 10, ground := Go.Ground.gcOnly Go.Departure.lateStores }], guard := none } : Oper)) (v := ?_) rfl (by kernel_rfl) (by kernel_rfl) (by kernel_rfl) (fun _ _ _ h => h) (Or.inl ⟨by rfl, ?_⟩) (by assumption) ?_
          rotate_left
          · (intro w hSw; (try dsimp only at hSw); go_simp; try with_reducible rfl)
          simp only [Act.put, List.setIfInBounds_toArray, List.set_cons_zero, List.set_cons_succ]
          refine wpAnyH_ready (rs := [10]) (by kernel_rfl) (by simp) (AllReadyH.cons (o := ({ dst := none, op := Go.Op.store 22 (Go.Operand.tmp 9) (Go.Operand.tmp 53), type := 0, pos := _, after := #[{ on := 8, ground := Go.Ground.data }, { on := 6, ground := Go.Ground.data }, { on := 4, ground := Go.Ground.chain }, { on := 0, ground := Go.Ground.phase }, { on := 1, ground := Go.Ground.phase }, { on := 2, ground := Go.Ground.phase }, { on := 3, ground := Go.Ground.phase }, { on := 4, ground := Go.Ground.phase }, { on := 5, ground := Go.Ground.phase }, { on := 6, ground := Go.Ground.phase }, { on := 7, ground := Go.Ground.textOnly Go.Departure.lateStores }, { on := 8, ground := Go.Ground.phase }, { on := 9, ground := Go.Ground.phase }], guard := none } : Oper)) rfl (fun KK hK => ?_) AllReadyH.nil)
          have h56 : Below U5.heap.size U5 U6 := bcat2 (bcat2 (balloc _ _) (balloc _ _)) hl6
          have hU5 : w5.heap.size ≤ U5.heap.size := hB_1.size
          have hU6 : w5.heap.size ≤ U6.heap.size := hB_4.size
          have h6F : Below U6.heap.size U6 U6 := Below.refl _ U6
          have pb0 : Blk (U5.alloc (.cells #[.int .i64 0, .int .i64 0] 26)) (U5.heap.size) 26 [.int .i64 0, .int .i64 0] := by
            exact blk0 (w := U5) (T := 26) (.int .i64 0) (.int .i64 0)
          have pb : Blk U6 (U5.heap.size) 26 [.int .i64 0, .int .i64 0] := blk_below (blk_below (pb0.alloc _) hl6) h6F
          have pa0 : Boxed ((U5.alloc (.cells #[.int .i64 0, .int .i64 0] 26)).alloc (.cells #[.slice none 0 0] 22)) (U5.heap.size + 1) 22 (.slice none 0 0) := by
            have h9 := Boxed.new (U5.alloc (.cells #[.int .i64 0, .int .i64 0] 26)) 22 (.slice none 0 0)
            rw [World.size_alloc] at h9
            exact h9
          have pa : Boxed U6 (U5.heap.size + 1) 22 (.slice none 0 0) := Boxed.below (Boxed.below pa0 hl6) h6F
          have hBF : Below w5.heap.size w5 U6 := hB_4
          have hlt0 : U5.heap.size + 1 < U5.heap.size + 2 := by omega
          have hsF : Sl (U6.setCell ⟨U5.heap.size + 1, 0, none⟩ (.slice q1 q2 q3)) (.slice q1 q2 q3) KL := (slF_set (hs6.below h6F) (by rw [World.size_alloc, World.size_alloc]; omega)).sl
          have cA := pa.cell
          have fA := pa.frozen
          go_simp
          refine hK.out _ _ (hS _ (bSet hBF (by omega))) (fun hHeld => ?_)
          clear hK
          try simp only [Act.put, List.setIfInBounds_toArray, List.set_cons_zero, List.set_cons_succ]
          refine wpAnyH_ready (rs := [11]) (by kernel_rfl) (by simp) (AllReadyH.cons (o := ({ dst := none, op := Go.Op.store 26 (Go.Operand.tmp 10) (Go.Operand.tmp 54), type := 0, pos := _, after := #[{ on := 9, ground := Go.Ground.data }, { on := 7, ground := Go.Ground.data }, { on := 10, ground := Go.Ground.chain }, { on := 0, ground := Go.Ground.phase }, { on := 1, ground := Go.Ground.phase }, { on := 2, ground := Go.Ground.phase }, { on := 3, ground := Go.Ground.phase }, { on := 4, ground := Go.Ground.phase }, { on := 5, ground := Go.Ground.phase }, { on := 6, ground := Go.Ground.phase }, { on := 7, ground := Go.Ground.phase }, { on := 8, ground := Go.Ground.phase }, { on := 9, ground := Go.Ground.phase }, { on := 10, ground := Go.Ground.phase }], guard := none } : Oper)) rfl (fun KK hK => ?_) AllReadyH.nil)
          have pb' : Blk (U6.setCell ⟨U5.heap.size + 1, 0, none⟩ (.slice q1 q2 q3)) (U5.heap.size) 26 [.int .i64 0, .int .i64 0] := pb.other (p := ⟨U5.heap.size + 1, 0, none⟩) (box_blk pa pb) _
          obtain ⟨cB0, cB1, fB0, fB1⟩ := pb'.two
          obtain ⟨sB0, sB1⟩ := pb'.self
          go_simp
          refine hK.out _ _ (hS _ (bSet hBF (by omega))) (fun hHeld => ?_)
          clear hK
          try simp only [Act.put, List.setIfInBounds_toArray, List.set_cons_zero, List.set_cons_succ]
          refine wpAnyH_done (by kernel_rfl) ?_ _
          go_wp2
          go_meet
          exact krel_fin (by omega) (by omega) hBF pa pb hsF
    · go_simp
      have hB_1 := bcat2 hB_0 (balloc _ (.cells #[.slice none 0 0] 22))
      refine hK.out _ _ (hS _ hB_1) (fun hHeld => ?_)
      clear hK
      try simp only [Act.put, List.setIfInBounds_toArray, List.set_cons_zero, List.set_cons_succ]
      refine wpAnyH_ready (rs := [3, 9]) (by kernel_rfl) (by simp) (AllReadyH.cons (o := ({ dst := some 51, op := Go.Op.call { callee := Go.Callee.value (Go.Operand.func 27), args := #[Go.Operand.tmp 49, Go.Operand.tmp 50], argTypes := #[24, 51] }, type := 22, pos := _, after := #[{ on := 1, ground := Go.Ground.data }, { on := 2, ground := Go.Ground.data }], guard := none } : Oper)) rfl (fun KK hK => ?_) (AllReadyH.cons (o := ({ dst := some 10, op := Go.Op.alloc 26, type := 0, pos := _, after := #[], guard := none } : Oper)) rfl (fun KK hK => ?_) AllReadyH.nil))
      · go_simp
        refine (HTH.out _ _ _ _ _ _ _ _ (bcat2 qs5.bel hB_1) (qs5.below hB_1)).mono ?_
        rintro e5 U5 ⟨a1, a2, a3, rfl, ha5, hl5⟩
        try go_wp2_with fail
        have hB_2 := bcat2 hB_1 hl5
        refine hK.out _ _ (hS _ hB_2) (fun hHeld => ?_)
        clear hK
        try simp only [Act.put, List.setIfInBounds_toArray, List.set_cons_zero, List.set_cons_succ]
        refine wpAnyH_ready (rs := [4, 9]) (by kernel_rfl) (by simp) (AllReadyH.cons (o := ({ dst := some 52, op := Go.Op.call { callee := Go.Callee.value (Go.Operand.func 24), args := #[Go.Operand.tmp 48, Go.Operand.tmp 51], argTypes := #[24, 22] }, type := 27, pos := _, after := #[{ on := 0, ground := Go.Ground.data }, { on := 3, ground := Go.Ground.data }, { on := 3, ground := Go.Ground.chain }], guard := none } : Oper)) rfl (fun KK hK => ?_) (AllReadyH.cons (o := ({ dst := some 10, op := Go.Op.alloc 26, type := 0, pos := _, after := #[], guard := none } : Oper)) rfl (fun KK hK => ?_) AllReadyH.nil))
        · go_simp
          refine (HCK.out _ _ _ _ (bcat2 qs5.bel hB_2) ha5).mono ?_
          rintro e6 U6 ⟨q1, q2, q3, rfl, hs6, hl6⟩
          try go_wp2_with fail
          have hB_3 := bcat2 hB_2 hl6
          refine hK.out _ _ (hS _ hB_3) (fun hHeld => ?_)
          clear hK
          try simp only [Act.put, List.setIfInBounds_toArray, List.set_cons_zero, List.set_cons_succ]
          refine wpAnyH_take (i := 5) (oi := ({ dst := some 47, op := Go.Op.move (Go.Operand.tmp 52), type := 27, pos := _, after := #[{ on := 4, ground := Go.Ground.data }], guard := none } : Oper)) (v := ?_) rfl (by kernel_rfl) (by kernel_rfl) (by kernel_rfl) (fun _ _ _ h => h) (Or.inl ⟨by rfl, ?_⟩) (by assumption) ?_
          rotate_left
          · (intro w hSw; (try dsimp only at hSw); go_simp; try with_reducible rfl)
          simp only [Act.put, List.setIfInBounds_toArray, List.set_cons_zero, List.set_cons_succ]
          refine wpAnyH_take (i := 6) (oi := ({ dst := some 53, op := Go.Op.extract (Go.Operand.tmp 47) 0, type := 22, pos := _, after := #[{ on := 5, ground := Go.Ground.data }], guard := none } : Oper)) (v := ?_) rfl (by kernel_rfl) (by kernel_rfl) (by kernel_rfl) (fun _ _ _ h => h) (Or.inl ⟨by rfl, ?_⟩) (by assumption) ?_
          rotate_left
          · (intro w hSw; (try dsimp only at hSw); go_simp; try with_reducible rfl)
          simp only [Act.put, List.setIfInBounds_toArray, List.set_cons_zero, List.set_cons_succ]
          refine wpAnyH_take (i := 7) (oi := ({ dst := some 54, op := Go.Op.extract (Go.Operand.tmp 47) 1, type := 26, pos := _, after := #[{ on := 5, ground := Go.Ground.data }, { on := 10, ground := Go.Ground.gcOnly Go.Departure.lateStores }], guard := none } : Oper)) (v := ?_) rfl (by kernel_rfl) (by kernel_rfl) (by kernel_rfl) (fun _ _ _ h => h) (Or.inl ⟨by rfl, ?_⟩) (by assumption) ?_
          rotate_left
          · (intro w hSw; (try dsimp only at hSw); go_simp; try with_reducible rfl)
          simp only [Act.put, List.setIfInBounds_toArray, List.set_cons_zero, List.set_cons_succ]
          refine wpAnyH_ready (rs := [9]) (by kernel_rfl) (by simp) (AllReadyH.cons (o := ({ dst := some 10, op := Go.Op.alloc 26, type := 0, pos := _, after := #[], guard := none } : Oper)) rfl (fun KK hK => ?_) AllReadyH.nil)
          go_simp
          have hB_4 := bcat2 hB_3 (balloc _ (.cells #[.int .i64 0, .int .i64 0] 26))
          refine hK.out _ _ (hS _ hB_4) (fun hHeld => ?_)
          clear hK
          try simp only [Act.put, List.setIfInBounds_toArray, List.set_cons_zero, List.set_cons_succ]
          refine wpAnyH_ready (rs := [10]) (by kernel_rfl) (by simp) (AllReadyH.cons (o := ({ dst := none, op := Go.Op.store 22 (Go.Operand.tmp 9) (Go.Operand.tmp 53), type := 0, pos := _, after := #[{ on := 8, ground := Go.Ground.data }, { on := 6, ground := Go.Ground.data }, { on := 4, ground := Go.Ground.chain }, { on := 0, ground := Go.Ground.phase }, { on := 1, ground := Go.Ground.phase }, { on := 2, ground := Go.Ground.phase }, { on := 3, ground := Go.Ground.phase }, { on := 4, ground := Go.Ground.phase }, { on := 5, ground := Go.Ground.phase }, { on := 6, ground := Go.Ground.phase }, { on := 7, ground := Go.Ground.textOnly Go.Departure.lateStores }, { on := 8, ground := Go.Ground.phase }, { on := 9, ground := Go.Ground.phase }], guard := none } : Oper)) rfl (fun KK hK => ?_) AllReadyH.nil)
          have h56 : Below U5.heap.size U5 U6 := hl6
          have hU5 : w5.heap.size ≤ U5.heap.size := hB_2.size
          have hU6 : w5.heap.size ≤ U6.heap.size := hB_3.size
          have h6F : Below U6.heap.size U6 (U6.alloc (.cells #[.int .i64 0, .int .i64 0] 26)) := balloc U6 _
          have pa0 : Boxed (w5.drew.alloc (.cells #[.slice none 0 0] 22)) (w5.heap.size) 22 (.slice none 0 0) := by
            exact Boxed.new w5.drew 22 (.slice none 0 0)
          have pa : Boxed (U6.alloc (.cells #[.int .i64 0, .int .i64 0] 26)) (w5.heap.size) 22 (.slice none 0 0) := Boxed.below (Boxed.below (Boxed.below pa0 hl5) h56) h6F
          have pb0 : Blk (U6.alloc (.cells #[.int .i64 0, .int .i64 0] 26)) (U6.heap.size) 26 [.int .i64 0, .int .i64 0] := by
            exact blk0 (w := U6) (T := 26) (.int .i64 0) (.int .i64 0)
          have pb : Blk (U6.alloc (.cells #[.int .i64 0, .int .i64 0] 26)) (U6.heap.size) 26 [.int .i64 0, .int .i64 0] := pb0
          have hBF : Below w5.heap.size w5 (U6.alloc (.cells #[.int .i64 0, .int .i64 0] 26)) := hB_4
          have hlt0 : w5.heap.size < U5.heap.size := (Boxed.below pa0 hl5).lt
          have hsF : Sl ((U6.alloc (.cells #[.int .i64 0, .int .i64 0] 26)).setCell ⟨w5.heap.size, 0, none⟩ (.slice q1 q2 q3)) (.slice q1 q2 q3) KL := (slF_set (hs6.below h6F) hlt0).sl
          generalize (U6.alloc (.cells #[.int .i64 0, .int .i64 0] 26)) = WF at *
          have cA := pa.cell
          have fA := pa.frozen
          go_simp
          refine hK.out _ _ (hS _ (bSet hBF (by omega))) (fun hHeld => ?_)
          clear hK
          try simp only [Act.put, List.setIfInBounds_toArray, List.set_cons_zero, List.set_cons_succ]
          refine wpAnyH_ready (rs := [11]) (by kernel_rfl) (by simp) (AllReadyH.cons (o := ({ dst := none, op := Go.Op.store 26 (Go.Operand.tmp 10) (Go.Operand.tmp 54), type := 0, pos := _, after := #[{ on := 9, ground := Go.Ground.data }, { on := 7, ground := Go.Ground.data }, { on := 10, ground := Go.Ground.chain }, { on := 0, ground := Go.Ground.phase }, { on := 1, ground := Go.Ground.phase }, { on := 2, ground := Go.Ground.phase }, { on := 3, ground := Go.Ground.phase }, { on := 4, ground := Go.Ground.phase }, { on := 5, ground := Go.Ground.phase }, { on := 6, ground := Go.Ground.phase }, { on := 7, ground := Go.Ground.phase }, { on := 8, ground := Go.Ground.phase }, { on := 9, ground := Go.Ground.phase }, { on := 10, ground := Go.Ground.phase }], guard := none } : Oper)) rfl (fun KK hK => ?_) AllReadyH.nil)
          have pb' : Blk (WF.setCell ⟨w5.heap.size, 0, none⟩ (.slice q1 q2 q3)) (U6.heap.size) 26 [.int .i64 0, .int .i64 0] := pb.other (p := ⟨w5.heap.size, 0, none⟩) (box_blk pa pb) _
          obtain ⟨cB0, cB1, fB0, fB1⟩ := pb'.two
          obtain ⟨sB0, sB1⟩ := pb'.self
          go_simp
          refine hK.out _ _ (hS _ (bSet hBF (by omega))) (fun hHeld => ?_)
          clear hK
          try simp only [Act.put, List.setIfInBounds_toArray, List.set_cons_zero, List.set_cons_succ]
          refine wpAnyH_done (by kernel_rfl) ?_ _
          go_wp2
          go_meet
          exact krel_fin (by omega) (by omega) hBF pa pb hsF
        · go_simp
          have hB_3 := bcat2 hB_2 (balloc _ (.cells #[.int .i64 0, .int .i64 0] 26))
          refine hK.out _ _ (hS _ hB_3) (fun hHeld => ?_)
          clear hK
          try simp only [Act.put, List.setIfInBounds_toArray, List.set_cons_zero, List.set_cons_succ]
          refine wpAnyH_ready (rs := [4]) (by kernel_rfl) (by simp) (AllReadyH.cons (o := ({ dst := some 52, op := Go.Op.call { callee := Go.Callee.value (Go.Operand.func 24), args := #[Go.Operand.tmp 48, Go.Operand.tmp 51], argTypes := #[24, 22] }, type := 27, pos := _, after := #[{ on := 0, ground := Go.Ground.data }, { on := 3, ground := Go.Ground.data }, { on := 3, ground := Go.Ground.chain }], guard := none } : Oper)) rfl (fun KK hK => ?_) AllReadyH.nil)
          go_simp
          refine (HCK.out _ _ _ _ (bcat2 qs5.bel hB_3) (ha5.below (balloc _ _))).mono ?_
          rintro e6 U6 ⟨q1, q2, q3, rfl, hs6, hl6⟩
          try go_wp2_with fail
          have hB_4 := bcat2 hB_3 hl6
          refine hK.out _ _ (hS _ hB_4) (fun hHeld => ?_)
          clear hK
          try simp only [Act.put, List.setIfInBounds_toArray, List.set_cons_zero, List.set_cons_succ]
          refine wpAnyH_take (i := 5) (oi := ({ dst := some 47, op := Go.Op.move (Go.Operand.tmp 52), type := 27, pos := _, after := #[{ on := 4, ground := Go.Ground.data }], guard := none } : Oper)) (v := ?_) rfl (by kernel_rfl) (by kernel_rfl) (by kernel_rfl) (fun _ _ _ h => h) (Or.inl ⟨by rfl, ?_⟩) (by assumption) ?_
          rotate_left
          · (intro w hSw; (try dsimp only at hSw); go_simp; try with_reducible rfl)
          simp only [Act.put, List.setIfInBounds_toArray, List.set_cons_zero, List.set_cons_succ]
          refine wpAnyH_take (i := 6) (oi := ({ dst := some 53, op := Go.Op.extract (Go.Operand.tmp 47) 0, type := 22, pos := _, after := #[{ on := 5, ground := Go.Ground.data }], guard := none } : Oper)) (v := ?_) rfl (by kernel_rfl) (by kernel_rfl) (by kernel_rfl) (fun _ _ _ h => h) (Or.inl ⟨by rfl, ?_⟩) (by assumption) ?_
          rotate_left
          · (intro w hSw; (try dsimp only at hSw); go_simp; try with_reducible rfl)
          simp only [Act.put, List.setIfInBounds_toArray, List.set_cons_zero, List.set_cons_succ]
          refine wpAnyH_take (i := 7) (oi := ({ dst := some 54, op := Go.Op.extract (Go.Operand.tmp 47) 1, type := 26, pos := _, after := #[{ on := 5, ground := Go.Ground.data }, { on := 10, ground := Go.Ground.gcOnly Go.Departure.lateStores }], guard := none } : Oper)) (v := ?_) rfl (by kernel_rfl) (by kernel_rfl) (by kernel_rfl) (fun _ _ _ h => h) (Or.inl ⟨by rfl, ?_⟩) (by assumption) ?_
          rotate_left
          · (intro w hSw; (try dsimp only at hSw); go_simp; try with_reducible rfl)
          simp only [Act.put, List.setIfInBounds_toArray, List.set_cons_zero, List.set_cons_succ]
          refine wpAnyH_ready (rs := [10]) (by kernel_rfl) (by simp) (AllReadyH.cons (o := ({ dst := none, op := Go.Op.store 22 (Go.Operand.tmp 9) (Go.Operand.tmp 53), type := 0, pos := _, after := #[{ on := 8, ground := Go.Ground.data }, { on := 6, ground := Go.Ground.data }, { on := 4, ground := Go.Ground.chain }, { on := 0, ground := Go.Ground.phase }, { on := 1, ground := Go.Ground.phase }, { on := 2, ground := Go.Ground.phase }, { on := 3, ground := Go.Ground.phase }, { on := 4, ground := Go.Ground.phase }, { on := 5, ground := Go.Ground.phase }, { on := 6, ground := Go.Ground.phase }, { on := 7, ground := Go.Ground.textOnly Go.Departure.lateStores }, { on := 8, ground := Go.Ground.phase }, { on := 9, ground := Go.Ground.phase }], guard := none } : Oper)) rfl (fun KK hK => ?_) AllReadyH.nil)
          have h56 : Below U5.heap.size U5 U6 := bcat2 (balloc _ _) hl6
          have hU5 : w5.heap.size ≤ U5.heap.size := hB_2.size
          have hU6 : w5.heap.size ≤ U6.heap.size := hB_4.size
          have h6F : Below U6.heap.size U6 U6 := Below.refl _ U6
          have pa0 : Boxed (w5.drew.alloc (.cells #[.slice none 0 0] 22)) (w5.heap.size) 22 (.slice none 0 0) := by
            exact Boxed.new w5.drew 22 (.slice none 0 0)
          have pa : Boxed U6 (w5.heap.size) 22 (.slice none 0 0) := Boxed.below (Boxed.below (Boxed.below pa0 hl5) h56) h6F
          have pb0 : Blk (U5.alloc (.cells #[.int .i64 0, .int .i64 0] 26)) (U5.heap.size) 26 [.int .i64 0, .int .i64 0] := by
            exact blk0 (w := U5) (T := 26) (.int .i64 0) (.int .i64 0)
          have pb : Blk U6 (U5.heap.size) 26 [.int .i64 0, .int .i64 0] := blk_below (blk_below pb0 hl6) h6F
          have hBF : Below w5.heap.size w5 U6 := hB_4
          have hlt0 : w5.heap.size < U5.heap.size := (Boxed.below pa0 hl5).lt
          have hsF : Sl (U6.setCell ⟨w5.heap.size, 0, none⟩ (.slice q1 q2 q3)) (.slice q1 q2 q3) KL := (slF_set (hs6.below h6F) (by rw [World.size_alloc]; omega)).sl
          have cA := pa.cell
          have fA := pa.frozen
          go_simp
          refine hK.out _ _ (hS _ (bSet hBF (by omega))) (fun hHeld => ?_)
          clear hK
          try simp only [Act.put, List.setIfInBounds_toArray, List.set_cons_zero, List.set_cons_succ]
          refine wpAnyH_ready (rs := [11]) (by kernel_rfl) (by simp) (AllReadyH.cons (o := ({ dst := none, op := Go.Op.store 26 (Go.Operand.tmp 10) (Go.Operand.tmp 54), type := 0, pos := _, after := #[{ on := 9, ground := Go.Ground.data }, { on := 7, ground := Go.Ground.data }, { on := 10, ground := Go.Ground.chain }, { on := 0, ground := Go.Ground.phase }, { on := 1, ground := Go.Ground.phase }, { on := 2, ground := Go.Ground.phase }, { on := 3, ground := Go.Ground.phase }, { on := 4, ground := Go.Ground.phase }, { on := 5, ground := Go.Ground.phase }, { on := 6, ground := Go.Ground.phase }, { on := 7, ground := Go.Ground.phase }, { on := 8, ground := Go.Ground.phase }, { on := 9, ground := Go.Ground.phase }, { on := 10, ground := Go.Ground.phase }], guard := none } : Oper)) rfl (fun KK hK => ?_) AllReadyH.nil)
          have pb' : Blk (U6.setCell ⟨w5.heap.size, 0, none⟩ (.slice q1 q2 q3)) (U5.heap.size) 26 [.int .i64 0, .int .i64 0] := pb.other (p := ⟨w5.heap.size, 0, none⟩) (box_blk pa pb) _
          obtain ⟨cB0, cB1, fB0, fB1⟩ := pb'.two
          obtain ⟨sB0, sB1⟩ := pb'.self
          go_simp
          refine hK.out _ _ (hS _ (bSet hBF (by omega))) (fun hHeld => ?_)
          clear hK
          try simp only [Act.put, List.setIfInBounds_toArray, List.set_cons_zero, List.set_cons_succ]
          refine wpAnyH_done (by kernel_rfl) ?_ _
          go_wp2
          go_meet
          exact krel_fin (by omega) (by omega) hBF pa pb hsF
      · go_simp
        have hB_2 := bcat2 hB_1 (balloc _ (.cells #[.int .i64 0, .int .i64 0] 26))
        refine hK.out _ _ (hS _ hB_2) (fun hHeld => ?_)
        clear hK
        try simp only [Act.put, List.setIfInBounds_toArray, List.set_cons_zero, List.set_cons_succ]
        refine wpAnyH_ready (rs := [3]) (by kernel_rfl) (by simp) (AllReadyH.cons (o := ({ dst := some 51, op := Go.Op.call { callee := Go.Callee.value (Go.Operand.func 27), args := #[Go.Operand.tmp 49, Go.Operand.tmp 50], argTypes := #[24, 51] }, type := 22, pos := _, after := #[{ on := 1, ground := Go.Ground.data }, { on := 2, ground := Go.Ground.data }], guard := none } : Oper)) rfl (fun KK hK => ?_) AllReadyH.nil)
        go_simp
        refine (HTH.out _ _ _ _ _ _ _ _ (bcat2 qs5.bel hB_2) (qs5.below hB_2)).mono ?_
        rintro e5 U5 ⟨a1, a2, a3, rfl, ha5, hl5⟩
        try go_wp2_with fail
        have hB_3 := bcat2 hB_2 hl5
        refine hK.out _ _ (hS _ hB_3) (fun hHeld => ?_)
        clear hK
        try simp only [Act.put, List.setIfInBounds_toArray, List.set_cons_zero, List.set_cons_succ]
        refine wpAnyH_ready (rs := [4]) (by kernel_rfl) (by simp) (AllReadyH.cons (o := ({ dst := some 52, op := Go.Op.call { callee := Go.Callee.value (Go.Operand.func 24), args := #[Go.Operand.tmp 48, Go.Operand.tmp 51], argTypes := #[24, 22] }, type := 27, pos := _, after := #[{ on := 0, ground := Go.Ground.data }, { on := 3, ground := Go.Ground.data }, { on := 3, ground := Go.Ground.chain }], guard := none } : Oper)) rfl (fun KK hK => ?_) AllReadyH.nil)
        go_simp
        refine (HCK.out _ _ _ _ (bcat2 qs5.bel hB_3) ha5).mono ?_
        rintro e6 U6 ⟨q1, q2, q3, rfl, hs6, hl6⟩
        try go_wp2_with fail
        have hB_4 := bcat2 hB_3 hl6
        refine hK.out _ _ (hS _ hB_4) (fun hHeld => ?_)
        clear hK
        try simp only [Act.put, List.setIfInBounds_toArray, List.set_cons_zero, List.set_cons_succ]
        refine wpAnyH_take (i := 5) (oi := ({ dst := some 47, op := Go.Op.move (Go.Operand.tmp 52), type := 27, pos := _, after := #[{ on := 4, ground := Go.Ground.data }], guard := none } : Oper)) (v := ?_) rfl (by kernel_rfl) (by kernel_rfl) (by kernel_rfl) (fun _ _ _ h => h) (Or.inl ⟨by rfl, ?_⟩) (by assumption) ?_
        rotate_left
        · (intro w hSw; (try dsimp only at hSw); go_simp; try with_reducible rfl)
        simp only [Act.put, List.setIfInBounds_toArray, List.set_cons_zero, List.set_cons_succ]
        refine wpAnyH_take (i := 6) (oi := ({ dst := some 53, op := Go.Op.extract (Go.Operand.tmp 47) 0, type := 22, pos := _, after := #[{ on := 5, ground := Go.Ground.data }], guard := none } : Oper)) (v := ?_) rfl (by kernel_rfl) (by kernel_rfl) (by kernel_rfl) (fun _ _ _ h => h) (Or.inl ⟨by rfl, ?_⟩) (by assumption) ?_
        rotate_left
        · (intro w hSw; (try dsimp only at hSw); go_simp; try with_reducible rfl)
        simp only [Act.put, List.setIfInBounds_toArray, List.set_cons_zero, List.set_cons_succ]
        refine wpAnyH_take (i := 7) (oi := ({ dst := some 54, op := Go.Op.extract (Go.Operand.tmp 47) 1, type := 26, pos := _, after := #[{ on := 5, ground := Go.Ground.data }, { on := 10, ground := Go.Ground.gcOnly Go.Departure.lateStores }], guard := none } : Oper)) (v := ?_) rfl (by kernel_rfl) (by kernel_rfl) (by kernel_rfl) (fun _ _ _ h => h) (Or.inl ⟨by rfl, ?_⟩) (by assumption) ?_
        rotate_left
        · (intro w hSw; (try dsimp only at hSw); go_simp; try with_reducible rfl)
        simp only [Act.put, List.setIfInBounds_toArray, List.set_cons_zero, List.set_cons_succ]
        refine wpAnyH_ready (rs := [10]) (by kernel_rfl) (by simp) (AllReadyH.cons (o := ({ dst := none, op := Go.Op.store 22 (Go.Operand.tmp 9) (Go.Operand.tmp 53), type := 0, pos := _, after := #[{ on := 8, ground := Go.Ground.data }, { on := 6, ground := Go.Ground.data }, { on := 4, ground := Go.Ground.chain }, { on := 0, ground := Go.Ground.phase }, { on := 1, ground := Go.Ground.phase }, { on := 2, ground := Go.Ground.phase }, { on := 3, ground := Go.Ground.phase }, { on := 4, ground := Go.Ground.phase }, { on := 5, ground := Go.Ground.phase }, { on := 6, ground := Go.Ground.phase }, { on := 7, ground := Go.Ground.textOnly Go.Departure.lateStores }, { on := 8, ground := Go.Ground.phase }, { on := 9, ground := Go.Ground.phase }], guard := none } : Oper)) rfl (fun KK hK => ?_) AllReadyH.nil)
        have h56 : Below U5.heap.size U5 U6 := hl6
        have hU5 : w5.heap.size ≤ U5.heap.size := hB_3.size
        have hU6 : w5.heap.size ≤ U6.heap.size := hB_4.size
        have h6F : Below U6.heap.size U6 U6 := Below.refl _ U6
        have pa0 : Boxed (w5.drew.alloc (.cells #[.slice none 0 0] 22)) (w5.heap.size) 22 (.slice none 0 0) := by
          exact Boxed.new w5.drew 22 (.slice none 0 0)
        have pa : Boxed U6 (w5.heap.size) 22 (.slice none 0 0) := Boxed.below (Boxed.below (Boxed.below (pa0.alloc _) hl5) h56) h6F
        have pb0 : Blk ((w5.drew.alloc (.cells #[.slice none 0 0] 22)).alloc (.cells #[.int .i64 0, .int .i64 0] 26)) (w5.heap.size + 1) 26 [.int .i64 0, .int .i64 0] := by
          have h9 := blk0 (w := (w5.drew.alloc (.cells #[.slice none 0 0] 22))) (T := 26) (.int .i64 0) (.int .i64 0)
          rw [World.size_alloc] at h9
          exact h9
        have pb : Blk U6 (w5.heap.size + 1) 26 [.int .i64 0, .int .i64 0] := blk_below (blk_below (blk_below pb0 hl5) h56) h6F
        have hBF : Below w5.heap.size w5 U6 := hB_4
        have hlt0 : w5.heap.size < U5.heap.size := (Boxed.below (pa0.alloc _) hl5).lt
        have hsF : Sl (U6.setCell ⟨w5.heap.size, 0, none⟩ (.slice q1 q2 q3)) (.slice q1 q2 q3) KL := (slF_set (hs6.below h6F) hlt0).sl
        have cA := pa.cell
        have fA := pa.frozen
        go_simp
        refine hK.out _ _ (hS _ (bSet hBF (by omega))) (fun hHeld => ?_)
        clear hK
        try simp only [Act.put, List.setIfInBounds_toArray, List.set_cons_zero, List.set_cons_succ]
        refine wpAnyH_ready (rs := [11]) (by kernel_rfl) (by simp) (AllReadyH.cons (o := ({ dst := none, op := Go.Op.store 26 (Go.Operand.tmp 10) (Go.Operand.tmp 54), type := 0, pos := _, after := #[{ on := 9, ground := Go.Ground.data }, { on := 7, ground := Go.Ground.data }, { on := 10, ground := Go.Ground.chain }, { on := 0, ground := Go.Ground.phase }, { on := 1, ground := Go.Ground.phase }, { on := 2, ground := Go.Ground.phase }, { on := 3, ground := Go.Ground.phase }, { on := 4, ground := Go.Ground.phase }, { on := 5, ground := Go.Ground.phase }, { on := 6, ground := Go.Ground.phase }, { on := 7, ground := Go.Ground.phase }, { on := 8, ground := Go.Ground.phase }, { on := 9, ground := Go.Ground.phase }, { on := 10, ground := Go.Ground.phase }], guard := none } : Oper)) rfl (fun KK hK => ?_) AllReadyH.nil)
        have pb' : Blk (U6.setCell ⟨w5.heap.size, 0, none⟩ (.slice q1 q2 q3)) (w5.heap.size + 1) 26 [.int .i64 0, .int .i64 0] := pb.other (p := ⟨w5.heap.size, 0, none⟩) (box_blk pa pb) _
        obtain ⟨cB0, cB1, fB0, fB1⟩ := pb'.two
        obtain ⟨sB0, sB1⟩ := pb'.self
        go_simp
        refine hK.out _ _ (hS _ (bSet hBF (by omega))) (fun hHeld => ?_)
        clear hK
        try simp only [Act.put, List.setIfInBounds_toArray, List.set_cons_zero, List.set_cons_succ]
        refine wpAnyH_done (by kernel_rfl) ?_ _
        go_wp2
        go_meet
        exact krel_fin (by omega) (by omega) hBF pa pb hsF
    · go_simp
      have hB_1 := bcat2 hB_0 (balloc _ (.cells #[.int .i64 0, .int .i64 0] 26))
      refine hK.out _ _ (hS _ hB_1) (fun hHeld => ?_)
      clear hK
      try simp only [Act.put, List.setIfInBounds_toArray, List.set_cons_zero, List.set_cons_succ]
      refine wpAnyH_ready (rs := [3, 8]) (by kernel_rfl) (by simp) (AllReadyH.cons (o := ({ dst := some 51, op := Go.Op.call { callee := Go.Callee.value (Go.Operand.func 27), args := #[Go.Operand.tmp 49, Go.Operand.tmp 50], argTypes := #[24, 51] }, type := 22, pos := _, after := #[{ on := 1, ground := Go.Ground.data }, { on := 2, ground := Go.Ground.data }], guard := none } : Oper)) rfl (fun KK hK => ?_) (AllReadyH.cons (o := ({ dst := some 9, op := Go.Op.alloc 22, type := 0, pos := _, after := #[], guard := none } : Oper)) rfl (fun KK hK => ?_) AllReadyH.nil))
      · go_simp
        refine (HTH.out _ _ _ _ _ _ _ _ (bcat2 qs5.bel hB_1) (qs5.below hB_1)).mono ?_
        rintro e5 U5 ⟨a1, a2, a3, rfl, ha5, hl5⟩
        try go_wp2_with fail
        have hB_2 := bcat2 hB_1 hl5
        refine hK.out _ _ (hS _ hB_2) (fun hHeld => ?_)
        clear hK
        try simp only [Act.put, List.setIfInBounds_toArray, List.set_cons_zero, List.set_cons_succ]
        refine wpAnyH_ready (rs := [4, 8]) (by kernel_rfl) (by simp) (AllReadyH.cons (o := ({ dst := some 52, op := Go.Op.call { callee := Go.Callee.value (Go.Operand.func 24), args := #[Go.Operand.tmp 48, Go.Operand.tmp 51], argTypes := #[24, 22] }, type := 27, pos := _, after := #[{ on := 0, ground := Go.Ground.data }, { on := 3, ground := Go.Ground.data }, { on := 3, ground := Go.Ground.chain }], guard := none } : Oper)) rfl (fun KK hK => ?_) (AllReadyH.cons (o := ({ dst := some 9, op := Go.Op.alloc 22, type := 0, pos := _, after := #[], guard := none } : Oper)) rfl (fun KK hK => ?_) AllReadyH.nil))
        · go_simp
          refine (HCK.out _ _ _ _ (bcat2 qs5.bel hB_2) ha5).mono ?_
          rintro e6 U6 ⟨q1, q2, q3, rfl, hs6, hl6⟩
          try go_wp2_with fail
          have hB_3 := bcat2 hB_2 hl6
          refine hK.out _ _ (hS _ hB_3) (fun hHeld => ?_)
          clear hK
          try simp only [Act.put, List.setIfInBounds_toArray, List.set_cons_zero, List.set_cons_succ]
          refine wpAnyH_take (i := 5) (oi := ({ dst := some 47, op := Go.Op.move (Go.Operand.tmp 52), type := 27, pos := _, after := #[{ on := 4, ground := Go.Ground.data }], guard := none } : Oper)) (v := ?_) rfl (by kernel_rfl) (by kernel_rfl) (by kernel_rfl) (fun _ _ _ h => h) (Or.inl ⟨by rfl, ?_⟩) (by assumption) ?_
          rotate_left
          · (intro w hSw; (try dsimp only at hSw); go_simp; try with_reducible rfl)
          simp only [Act.put, List.setIfInBounds_toArray, List.set_cons_zero, List.set_cons_succ]
          refine wpAnyH_take (i := 6) (oi := ({ dst := some 53, op := Go.Op.extract (Go.Operand.tmp 47) 0, type := 22, pos := _, after := #[{ on := 5, ground := Go.Ground.data }], guard := none } : Oper)) (v := ?_) rfl (by kernel_rfl) (by kernel_rfl) (by kernel_rfl) (fun _ _ _ h => h) (Or.inl ⟨by rfl, ?_⟩) (by assumption) ?_
          rotate_left
          · (intro w hSw; (try dsimp only at hSw); go_simp; try with_reducible rfl)
          simp only [Act.put, List.setIfInBounds_toArray, List.set_cons_zero, List.set_cons_succ]
          refine wpAnyH_take (i := 7) (oi := ({ dst := some 54, op := Go.Op.extract (Go.Operand.tmp 47) 1, type := 26, pos := _, after := #[{ on := 5, ground := Go.Ground.data }, { on := 10, ground := Go.Ground.gcOnly Go.Departure.lateStores }], guard := none } : Oper)) (v := ?_) rfl (by kernel_rfl) (by kernel_rfl) (by kernel_rfl) (fun _ _ _ h => h) (Or.inl ⟨by rfl, ?_⟩) (by assumption) ?_
          rotate_left
          · (intro w hSw; (try dsimp only at hSw); go_simp; try with_reducible rfl)
          simp only [Act.put, List.setIfInBounds_toArray, List.set_cons_zero, List.set_cons_succ]
          refine wpAnyH_ready (rs := [8]) (by kernel_rfl) (by simp) (AllReadyH.cons (o := ({ dst := some 9, op := Go.Op.alloc 22, type := 0, pos := _, after := #[], guard := none } : Oper)) rfl (fun KK hK => ?_) AllReadyH.nil)
          go_simp
          have hB_4 := bcat2 hB_3 (balloc _ (.cells #[.slice none 0 0] 22))
          refine hK.out _ _ (hS _ hB_4) (fun hHeld => ?_)
          clear hK
          try simp only [Act.put, List.setIfInBounds_toArray, List.set_cons_zero, List.set_cons_succ]
          refine wpAnyH_ready (rs := [10]) (by kernel_rfl) (by simp) (AllReadyH.cons (o := ({ dst := none, op := Go.Op.store 22 (Go.Operand.tmp 9) (Go.Operand.tmp 53), type := 0, pos := _, after := #[{ on := 8, ground := Go.Ground.data }, { on := 6, ground := Go.Ground.data }, { on := 4, ground := Go.Ground.chain }, { on := 0, ground := Go.Ground.phase }, { on := 1, ground := Go.Ground.phase }, { on := 2, ground := Go.Ground.phase }, { on := 3, ground := Go.Ground.phase }, { on := 4, ground := Go.Ground.phase }, { on := 5, ground := Go.Ground.phase }, { on := 6, ground := Go.Ground.phase }, { on := 7, ground := Go.Ground.textOnly Go.Departure.lateStores }, { on := 8, ground := Go.Ground.phase }, { on := 9, ground := Go.Ground.phase }], guard := none } : Oper)) rfl (fun KK hK => ?_) AllReadyH.nil)
          have h56 : Below U5.heap.size U5 U6 := hl6
          have hU5 : w5.heap.size ≤ U5.heap.size := hB_2.size
          have hU6 : w5.heap.size ≤ U6.heap.size := hB_3.size
          have h6F : Below U6.heap.size U6 (U6.alloc (.cells #[.slice none 0 0] 22)) := balloc U6 _
          have pb0 : Blk (w5.drew.alloc (.cells #[.int .i64 0, .int .i64 0] 26)) (w5.heap.size) 26 [.int .i64 0, .int .i64 0] := by
            exact blk0 (w := w5.drew) (T := 26) (.int .i64 0) (.int .i64 0)
          have pb : Blk (U6.alloc (.cells #[.slice none 0 0] 22)) (w5.heap.size) 26 [.int .i64 0, .int .i64 0] := blk_below (blk_below (blk_below pb0 hl5) h56) h6F
          have pa0 : Boxed (U6.alloc (.cells #[.slice none 0 0] 22)) (U6.heap.size) 22 (.slice none 0 0) := by
            exact Boxed.new U6 22 (.slice none 0 0)
          have pa : Boxed (U6.alloc (.cells #[.slice none 0 0] 22)) (U6.heap.size) 22 (.slice none 0 0) := pa0
          have hBF : Below w5.heap.size w5 (U6.alloc (.cells #[.slice none 0 0] 22)) := hB_4
          have hsF : Sl ((U6.alloc (.cells #[.slice none 0 0] 22)).setCell ⟨U6.heap.size, 0, none⟩ (.slice q1 q2 q3)) (.slice q1 q2 q3) KL := hs6.sl.below (bSet h6F (by omega))
          generalize (U6.alloc (.cells #[.slice none 0 0] 22)) = WF at *
          have cA := pa.cell
          have fA := pa.frozen
          go_simp
          refine hK.out _ _ (hS _ (bSet hBF (by omega))) (fun hHeld => ?_)
          clear hK
          try simp only [Act.put, List.setIfInBounds_toArray, List.set_cons_zero, List.set_cons_succ]
          refine wpAnyH_ready (rs := [11]) (by kernel_rfl) (by simp) (AllReadyH.cons (o := ({ dst := none, op := Go.Op.store 26 (Go.Operand.tmp 10) (Go.Operand.tmp 54), type := 0, pos := _, after := #[{ on := 9, ground := Go.Ground.data }, { on := 7, ground := Go.Ground.data }, { on := 10, ground := Go.Ground.chain }, { on := 0, ground := Go.Ground.phase }, { on := 1, ground := Go.Ground.phase }, { on := 2, ground := Go.Ground.phase }, { on := 3, ground := Go.Ground.phase }, { on := 4, ground := Go.Ground.phase }, { on := 5, ground := Go.Ground.phase }, { on := 6, ground := Go.Ground.phase }, { on := 7, ground := Go.Ground.phase }, { on := 8, ground := Go.Ground.phase }, { on := 9, ground := Go.Ground.phase }, { on := 10, ground := Go.Ground.phase }], guard := none } : Oper)) rfl (fun KK hK => ?_) AllReadyH.nil)
          have pb' : Blk (WF.setCell ⟨U6.heap.size, 0, none⟩ (.slice q1 q2 q3)) (w5.heap.size) 26 [.int .i64 0, .int .i64 0] := pb.other (p := ⟨U6.heap.size, 0, none⟩) (box_blk pa pb) _
          obtain ⟨cB0, cB1, fB0, fB1⟩ := pb'.two
          obtain ⟨sB0, sB1⟩ := pb'.self
          go_simp
          refine hK.out _ _ (hS _ (bSet hBF (by omega))) (fun hHeld => ?_)
          clear hK
          try simp only [Act.put, List.setIfInBounds_toArray, List.set_cons_zero, List.set_cons_succ]
          refine wpAnyH_done (by kernel_rfl) ?_ _
          go_wp2
          go_meet
          exact krel_fin (by omega) (by omega) hBF pa pb hsF
        · go_simp
          have hB_3 := bcat2 hB_2 (balloc _ (.cells #[.slice none 0 0] 22))
          refine hK.out _ _ (hS _ hB_3) (fun hHeld => ?_)
          clear hK
          try simp only [Act.put, List.setIfInBounds_toArray, List.set_cons_zero, List.set_cons_succ]
          refine wpAnyH_ready (rs := [4]) (by kernel_rfl) (by simp) (AllReadyH.cons (o := ({ dst := some 52, op := Go.Op.call { callee := Go.Callee.value (Go.Operand.func 24), args := #[Go.Operand.tmp 48, Go.Operand.tmp 51], argTypes := #[24, 22] }, type := 27, pos := _, after := #[{ on := 0, ground := Go.Ground.data }, { on := 3, ground := Go.Ground.data }, { on := 3, ground := Go.Ground.chain }], guard := none } : Oper)) rfl (fun KK hK => ?_) AllReadyH.nil)
          go_simp
          refine (HCK.out _ _ _ _ (bcat2 qs5.bel hB_3) (ha5.below (balloc _ _))).mono ?_
          rintro e6 U6 ⟨q1, q2, q3, rfl, hs6, hl6⟩
          try go_wp2_with fail
          have hB_4 := bcat2 hB_3 hl6
          refine hK.out _ _ (hS _ hB_4) (fun hHeld => ?_)
          clear hK
          try simp only [Act.put, List.setIfInBounds_toArray, List.set_cons_zero, List.set_cons_succ]
          refine wpAnyH_take (i := 5) (oi := ({ dst := some 47, op := Go.Op.move (Go.Operand.tmp 52), type := 27, pos := _, after := #[{ on := 4, ground := Go.Ground.data }], guard := none } : Oper)) (v := ?_) rfl (by kernel_rfl) (by kernel_rfl) (by kernel_rfl) (fun _ _ _ h => h) (Or.inl ⟨by rfl, ?_⟩) (by assumption) ?_
          rotate_left
          · (intro w hSw; (try dsimp only at hSw); go_simp; try with_reducible rfl)
          simp only [Act.put, List.setIfInBounds_toArray, List.set_cons_zero, List.set_cons_succ]
          refine wpAnyH_take (i := 6) (oi := ({ dst := some 53, op := Go.Op.extract (Go.Operand.tmp 47) 0, type := 22, pos := _, after := #[{ on := 5, ground := Go.Ground.data }], guard := none } : Oper)) (v := ?_) rfl (by kernel_rfl) (by kernel_rfl) (by kernel_rfl) (fun _ _ _ h => h) (Or.inl ⟨by rfl, ?_⟩) (by assumption) ?_
          rotate_left
          · (intro w hSw; (try dsimp only at hSw); go_simp; try with_reducible rfl)
          simp only [Act.put, List.setIfInBounds_toArray, List.set_cons_zero, List.set_cons_succ]
          refine wpAnyH_take (i := 7) (oi := ({ dst := some 54, op := Go.Op.extract (Go.Operand.tmp 47) 1, type := 26, pos := _, after := #[{ on := 5, ground := Go.Ground.data }, { on := 10, ground := Go.Ground.gcOnly Go.Departure.lateStores }], guard := none } : Oper)) (v := ?_) rfl (by kernel_rfl) (by kernel_rfl) (by kernel_rfl) (fun _ _ _ h => h) (Or.inl ⟨by rfl, ?_⟩) (by assumption) ?_
          rotate_left
          · (intro w hSw; (try dsimp only at hSw); go_simp; try with_reducible rfl)
          simp only [Act.put, List.setIfInBounds_toArray, List.set_cons_zero, List.set_cons_succ]
          refine wpAnyH_ready (rs := [10]) (by kernel_rfl) (by simp) (AllReadyH.cons (o := ({ dst := none, op := Go.Op.store 22 (Go.Operand.tmp 9) (Go.Operand.tmp 53), type := 0, pos := _, after := #[{ on := 8, ground := Go.Ground.data }, { on := 6, ground := Go.Ground.data }, { on := 4, ground := Go.Ground.chain }, { on := 0, ground := Go.Ground.phase }, { on := 1, ground := Go.Ground.phase }, { on := 2, ground := Go.Ground.phase }, { on := 3, ground := Go.Ground.phase }, { on := 4, ground := Go.Ground.phase }, { on := 5, ground := Go.Ground.phase }, { on := 6, ground := Go.Ground.phase }, { on := 7, ground := Go.Ground.textOnly Go.Departure.lateStores }, { on := 8, ground := Go.Ground.phase }, { on := 9, ground := Go.Ground.phase }], guard := none } : Oper)) rfl (fun KK hK => ?_) AllReadyH.nil)
          have h56 : Below U5.heap.size U5 U6 := bcat2 (balloc _ _) hl6
          have hU5 : w5.heap.size ≤ U5.heap.size := hB_2.size
          have hU6 : w5.heap.size ≤ U6.heap.size := hB_4.size
          have h6F : Below U6.heap.size U6 U6 := Below.refl _ U6
          have pb0 : Blk (w5.drew.alloc (.cells #[.int .i64 0, .int .i64 0] 26)) (w5.heap.size) 26 [.int .i64 0, .int .i64 0] := by
            exact blk0 (w := w5.drew) (T := 26) (.int .i64 0) (.int .i64 0)
          have pb : Blk U6 (w5.heap.size) 26 [.int .i64 0, .int .i64 0] := blk_below (blk_below (blk_below pb0 hl5) h56) h6F
          have pa0 : Boxed (U5.alloc (.cells #[.slice none 0 0] 22)) (U5.heap.size) 22 (.slice none 0 0) := by
            exact Boxed.new U5 22 (.slice none 0 0)
          have pa : Boxed U6 (U5.heap.size) 22 (.slice none 0 0) := Boxed.below (Boxed.below pa0 hl6) h6F
          have hBF : Below w5.heap.size w5 U6 := hB_4
          have hlt0 : U5.heap.size < U5.heap.size + 1 := by omega
          have hsF : Sl (U6.setCell ⟨U5.heap.size, 0, none⟩ (.slice q1 q2 q3)) (.slice q1 q2 q3) KL := (slF_set (hs6.below h6F) (by rw [World.size_alloc]; omega)).sl
          have cA := pa.cell
          have fA := pa.frozen
          go_simp
          refine hK.out _ _ (hS _ (bSet hBF (by omega))) (fun hHeld => ?_)
          clear hK
          try simp only [Act.put, List.setIfInBounds_toArray, List.set_cons_zero, List.set_cons_succ]
          refine wpAnyH_ready (rs := [11]) (by kernel_rfl) (by simp) (AllReadyH.cons (o := ({ dst := none, op := Go.Op.store 26 (Go.Operand.tmp 10) (Go.Operand.tmp 54), type := 0, pos := _, after := #[{ on := 9, ground := Go.Ground.data }, { on := 7, ground := Go.Ground.data }, { on := 10, ground := Go.Ground.chain }, { on := 0, ground := Go.Ground.phase }, { on := 1, ground := Go.Ground.phase }, { on := 2, ground := Go.Ground.phase }, { on := 3, ground := Go.Ground.phase }, { on := 4, ground := Go.Ground.phase }, { on := 5, ground := Go.Ground.phase }, { on := 6, ground := Go.Ground.phase }, { on := 7, ground := Go.Ground.phase }, { on := 8, ground := Go.Ground.phase }, { on := 9, ground := Go.Ground.phase }, { on := 10, ground := Go.Ground.phase }], guard := none } : Oper)) rfl (fun KK hK => ?_) AllReadyH.nil)
          have pb' : Blk (U6.setCell ⟨U5.heap.size, 0, none⟩ (.slice q1 q2 q3)) (w5.heap.size) 26 [.int .i64 0, .int .i64 0] := pb.other (p := ⟨U5.heap.size, 0, none⟩) (box_blk pa pb) _
          obtain ⟨cB0, cB1, fB0, fB1⟩ := pb'.two
          obtain ⟨sB0, sB1⟩ := pb'.self
          go_simp
          refine hK.out _ _ (hS _ (bSet hBF (by omega))) (fun hHeld => ?_)
          clear hK
          try simp only [Act.put, List.setIfInBounds_toArray, List.set_cons_zero, List.set_cons_succ]
          refine wpAnyH_done (by kernel_rfl) ?_ _
          go_wp2
          go_meet
          exact krel_fin (by omega) (by omega) hBF pa pb hsF
      · go_simp
        have hB_2 := bcat2 hB_1 (balloc _ (.cells #[.slice none 0 0] 22))
        refine hK.out _ _ (hS _ hB_2) (fun hHeld => ?_)
        clear hK
        try simp only [Act.put, List.setIfInBounds_toArray, List.set_cons_zero, List.set_cons_succ]
        refine wpAnyH_ready (rs := [3]) (by kernel_rfl) (by simp) (AllReadyH.cons (o := ({ dst := some 51, op := Go.Op.call { callee := Go.Callee.value (Go.Operand.func 27), args := #[Go.Operand.tmp 49, Go.Operand.tmp 50], argTypes := #[24, 51] }, type := 22, pos := _, after := #[{ on := 1, ground := Go.Ground.data }, { on := 2, ground := Go.Ground.data }], guard := none } : Oper)) rfl (fun KK hK => ?_) AllReadyH.nil)
        go_simp
        refine (HTH.out _ _ _ _ _ _ _ _ (bcat2 qs5.bel hB_2) (qs5.below hB_2)).mono ?_
        rintro e5 U5 ⟨a1, a2, a3, rfl, ha5, hl5⟩
        try go_wp2_with fail
        have hB_3 := bcat2 hB_2 hl5
        refine hK.out _ _ (hS _ hB_3) (fun hHeld => ?_)
        clear hK
        try simp only [Act.put, List.setIfInBounds_toArray, List.set_cons_zero, List.set_cons_succ]
        refine wpAnyH_ready (rs := [4]) (by kernel_rfl) (by simp) (AllReadyH.cons (o := ({ dst := some 52, op := Go.Op.call { callee := Go.Callee.value (Go.Operand.func 24), args := #[Go.Operand.tmp 48, Go.Operand.tmp 51], argTypes := #[24, 22] }, type := 27, pos := _, after := #[{ on := 0, ground := Go.Ground.data }, { on := 3, ground := Go.Ground.data }, { on := 3, ground := Go.Ground.chain }], guard := none } : Oper)) rfl (fun KK hK => ?_) AllReadyH.nil)
        go_simp
        refine (HCK.out _ _ _ _ (bcat2 qs5.bel hB_3) ha5).mono ?_
        rintro e6 U6 ⟨q1, q2, q3, rfl, hs6, hl6⟩
        try go_wp2_with fail
        have hB_4 := bcat2 hB_3 hl6
        refine hK.out _ _ (hS _ hB_4) (fun hHeld => ?_)
        clear hK
        try simp only [Act.put, List.setIfInBounds_toArray, List.set_cons_zero, List.set_cons_succ]
        refine wpAnyH_take (i := 5) (oi := ({ dst := some 47, op := Go.Op.move (Go.Operand.tmp 52), type := 27, pos := _, after := #[{ on := 4, ground := Go.Ground.data }], guard := none } : Oper)) (v := ?_) rfl (by kernel_rfl) (by kernel_rfl) (by kernel_rfl) (fun _ _ _ h => h) (Or.inl ⟨by rfl, ?_⟩) (by assumption) ?_
        rotate_left
        · (intro w hSw; (try dsimp only at hSw); go_simp; try with_reducible rfl)
        simp only [Act.put, List.setIfInBounds_toArray, List.set_cons_zero, List.set_cons_succ]
        refine wpAnyH_take (i := 6) (oi := ({ dst := some 53, op := Go.Op.extract (Go.Operand.tmp 47) 0, type := 22, pos := _, after := #[{ on := 5, ground := Go.Ground.data }], guard := none } : Oper)) (v := ?_) rfl (by kernel_rfl) (by kernel_rfl) (by kernel_rfl) (fun _ _ _ h => h) (Or.inl ⟨by rfl, ?_⟩) (by assumption) ?_
        rotate_left
        · (intro w hSw; (try dsimp only at hSw); go_simp; try with_reducible rfl)
        simp only [Act.put, List.setIfInBounds_toArray, List.set_cons_zero, List.set_cons_succ]
        refine wpAnyH_take (i := 7) (oi := ({ dst := some 54, op := Go.Op.extract (Go.Operand.tmp 47) 1, type := 26, pos := _, after := #[{ on := 5, ground := Go.Ground.data }, { on := 10, ground := Go.Ground.gcOnly Go.Departure.lateStores }], guard := none } : Oper)) (v := ?_) rfl (by kernel_rfl) (by kernel_rfl) (by kernel_rfl) (fun _ _ _ h => h) (Or.inl ⟨by rfl, ?_⟩) (by assumption) ?_
        rotate_left
        · (intro w hSw; (try dsimp only at hSw); go_simp; try with_reducible rfl)
        simp only [Act.put, List.setIfInBounds_toArray, List.set_cons_zero, List.set_cons_succ]
        refine wpAnyH_ready (rs := [10]) (by kernel_rfl) (by simp) (AllReadyH.cons (o := ({ dst := none, op := Go.Op.store 22 (Go.Operand.tmp 9) (Go.Operand.tmp 53), type := 0, pos := _, after := #[{ on := 8, ground := Go.Ground.data }, { on := 6, ground := Go.Ground.data }, { on := 4, ground := Go.Ground.chain }, { on := 0, ground := Go.Ground.phase }, { on := 1, ground := Go.Ground.phase }, { on := 2, ground := Go.Ground.phase }, { on := 3, ground := Go.Ground.phase }, { on := 4, ground := Go.Ground.phase }, { on := 5, ground := Go.Ground.phase }, { on := 6, ground := Go.Ground.phase }, { on := 7, ground := Go.Ground.textOnly Go.Departure.lateStores }, { on := 8, ground := Go.Ground.phase }, { on := 9, ground := Go.Ground.phase }], guard := none } : Oper)) rfl (fun KK hK => ?_) AllReadyH.nil)
        have h56 : Below U5.heap.size U5 U6 := hl6
        have hU5 : w5.heap.size ≤ U5.heap.size := hB_3.size
        have hU6 : w5.heap.size ≤ U6.heap.size := hB_4.size
        have h6F : Below U6.heap.size U6 U6 := Below.refl _ U6
        have pb0 : Blk (w5.drew.alloc (.cells #[.int .i64 0, .int .i64 0] 26)) (w5.heap.size) 26 [.int .i64 0, .int .i64 0] := by
          exact blk0 (w := w5.drew) (T := 26) (.int .i64 0) (.int .i64 0)
        have pb : Blk U6 (w5.heap.size) 26 [.int .i64 0, .int .i64 0] := blk_below (blk_below (blk_below (pb0.alloc _) hl5) h56) h6F
        have pa0 : Boxed ((w5.drew.alloc (.cells #[.int .i64 0, .int .i64 0] 26)).alloc (.cells #[.slice none 0 0] 22)) (w5.heap.size + 1) 22 (.slice none 0 0) := by
          have h9 := Boxed.new (w5.drew.alloc (.cells #[.int .i64 0, .int .i64 0] 26)) 22 (.slice none 0 0)
          rw [World.size_alloc] at h9
          exact h9
        have pa : Boxed U6 (w5.heap.size + 1) 22 (.slice none 0 0) := Boxed.below (Boxed.below (Boxed.below pa0 hl5) h56) h6F
        have hBF : Below w5.heap.size w5 U6 := hB_4
        have hlt0 : w5.heap.size + 1 < U5.heap.size := (Boxed.below pa0 hl5).lt
        have hsF : Sl (U6.setCell ⟨w5.heap.size + 1, 0, none⟩ (.slice q1 q2 q3)) (.slice q1 q2 q3) KL := (slF_set (hs6.below h6F) hlt0).sl
        have cA := pa.cell
        have fA := pa.frozen
        go_simp
        refine hK.out _ _ (hS _ (bSet hBF (by omega))) (fun hHeld => ?_)
        clear hK
        try simp only [Act.put, List.setIfInBounds_toArray, List.set_cons_zero, List.set_cons_succ]
        refine wpAnyH_ready (rs := [11]) (by kernel_rfl) (by simp) (AllReadyH.cons (o := ({ dst := none, op := Go.Op.store 26 (Go.Operand.tmp 10) (Go.Operand.tmp 54), type := 0, pos := _, after := #[{ on := 9, ground := Go.Ground.data }, { on := 7, ground := Go.Ground.data }, { on := 10, ground := Go.Ground.chain }, { on := 0, ground := Go.Ground.phase }, { on := 1, ground := Go.Ground.phase }, { on := 2, ground := Go.Ground.phase }, { on := 3, ground := Go.Ground.phase }, { on := 4, ground := Go.Ground.phase }, { on := 5, ground := Go.Ground.phase }, { on := 6, ground := Go.Ground.phase }, { on := 7, ground := Go.Ground.phase }, { on := 8, ground := Go.Ground.phase }, { on := 9, ground := Go.Ground.phase }, { on := 10, ground := Go.Ground.phase }], guard := none } : Oper)) rfl (fun KK hK => ?_) AllReadyH.nil)
        have pb' : Blk (U6.setCell ⟨w5.heap.size + 1, 0, none⟩ (.slice q1 q2 q3)) (w5.heap.size) 26 [.int .i64 0, .int .i64 0] := pb.other (p := ⟨w5.heap.size + 1, 0, none⟩) (box_blk pa pb) _
        obtain ⟨cB0, cB1, fB0, fB1⟩ := pb'.two
        obtain ⟨sB0, sB1⟩ := pb'.self
        go_simp
        refine hK.out _ _ (hS _ (bSet hBF (by omega))) (fun hHeld => ?_)
        clear hK
        try simp only [Act.put, List.setIfInBounds_toArray, List.set_cons_zero, List.set_cons_succ]
        refine wpAnyH_done (by kernel_rfl) ?_ _
        go_wp2
        go_meet
        exact krel_fin (by omega) (by omega) hBF pa pb hsF
  case rest =>
    obtain ⟨b9, b10, k1, k2, k3, rfl, rfl, hb10, hK9, hF10, hsK, hbx⟩ := hcut
    have hb8 : w2.heap.size + 1 < b10 := Nat.lt_of_lt_of_le qs5.f8.lt hb10
    have qs6 := qs5.below hbx
    clear qs5 hbx hS hS0 HTH HCK HSF HCL HQB
    obtain ⟨c0, c1, _, _⟩ := qs6.x.two
    obtain ⟨e0, e1, _, _⟩ := hF10.two
    have g0 := hK9.cell
    go_wp2_with fail
    clear c0 c1 e0 e1 g0
    refine (HLF.out _ _ _ _ _ qs6.bel (.inr rfl) hsK).mono ?_
    rintro x w6 ⟨rfl, hb6⟩
    have qs7 := qs6.below hb6
    have hK6 := Boxed.below hK9 hb6
    have hF6 := blk_below hF10 hb6
    have hsK6 := hsK.below hb6
    have h86 := qs7.f8.lt
    clear qs6 hK9 hF10 hsK hb6 HLF
    obtain ⟨c0, c1, _, _⟩ := qs7.x.two
    have g0 := qs7.h.cell
    go_wp2_with fail
    clear c0 c1 g0
    refine (HQ1.out _ _ _ _ qs7.bel qs7.sn).mono ?_
    rintro x w7 ⟨r1, r2, r3, s1, s3, rfl, hsQ, hsO, hb7⟩
    obtain ⟨w8, hw8⟩ : ∃ w8, w8 = (w7.alloc (.cells #[.int .i64 KQ, .slice r1 r2 r3] 24)).alloc (.cells #[.slice s1 n s3] 22) := ⟨_, rfl⟩
    have hbw : Below w7.heap.size w7 w8 := by rw [hw8]; exact (balloc w7 _).alloc (by simp) _
    have hQ8 : BoxG w8 w7.heap.size KQ (.slice r1 r2 r3) := by rw [hw8]; exact (blk0 _ _).alloc _
    have hO8 : Boxed w8 (w7.heap.size + 1) 22 (.slice s1 n s3) := by
      rw [hw8]
      have := Boxed.new (w7.alloc (.cells #[.int .i64 KQ, .slice r1 r2 r3] 24)) 22 (.slice s1 n s3)
      rwa [World.size_alloc] at this
    have hb78 := bcat2 hb7 hbw
    have qs8 := qs7.below hb78
    have hK8 := Boxed.below hK6 hb78
    have hF8 := blk_below hF6 hb78
    have hsK8 := hsK6.below hb78
    have hsQ8 := hsQ.below hbw
    have hsO8 := hsO.below hbw
    clear qs7 hK6 hF6 hsK6 hsQ hsO hb78 hb7 hbw HQ1
    obtain ⟨c0, c1, _, _⟩ := qs8.x.two
    obtain ⟨e0, e1, fe0, fe1⟩ := qs8.f8.two
    obtain ⟨z0, z1⟩ := qs8.f8.self
    have g0 := hK8.cell
    rw [hw8] at c0 c1 e0 e1 fe0 fe1 z0 z1 g0
    go_wp2_with fail
    rw [← hw8]
    clear c0 c1 e0 e1 fe0 fe1 z0 z1 g0 hw8
    refine (HQ2.out _ _ _ _ qs8.bel hsK8).mono ?_
    rintro x w9 ⟨t1, t2, t3, y1, y2, y3, rfl, hsR, hb9'⟩
    obtain ⟨wA, hwA⟩ : ∃ wA, wA = w9.alloc (.cells #[.int .i64 K, .slice t1 t2 t3] 24) := ⟨_, rfl⟩
    have hbw : Below w9.heap.size w9 wA := by rw [hwA]; exact balloc w9 _
    have hRA : BoxG wA w9.heap.size K (.slice t1 t2 t3) := by rw [hwA]; exact blk0 _ _
    have hbA := bcat2 hb9' hbw
    have qsA := qs8.below hbA
    have hKA := Boxed.below hK8 hbA
    have hFA := blk_below hF8 hbA
    have hQA := blk_below hQ8 hbA
    have hOA := Boxed.below hO8 hbA
    have hsKA := hsK8.below hbA
    have hsQA := hsQ8.below hbA
    have hsOA := hsO8.below hbA
    have hsRA := hsR.below hbw
    clear qs8 hK8 hF8 hQ8 hO8 hsK8 hsQ8 hsO8 hsR hbA hb9' hbw HQ2
    obtain ⟨c0, c1, _, _⟩ := qsA.x.two
    obtain ⟨d0, d1, _, _⟩ := hQA.two
    obtain ⟨e0, e1, fe0, fe1⟩ := hFA.two
    obtain ⟨z0, z1⟩ := hFA.self
    obtain ⟨f0, f1, _, _⟩ := qsA.f8.two
    have g0 := hOA.cell
    rw [hwA] at c0 c1 d0 d1 e0 e1 fe0 fe1 z0 z1 g0 f0 f1
    go_wp2_with fail
    rw [← hwA]
    clear c0 c1 d0 d1 e0 e1 fe0 fe1 z0 z1 g0 f0 f1 hwA
    refine (HGF.out _ _ _ _ qsA.bel hsQA.sl).mono ?_
    rintro x wB ⟨rfl, hbB⟩
    have qsB := qsA.below hbB
    have hKB := Boxed.below hKA hbB
    have hFB := blk_below hFA hbB
    have hQB := blk_below hQA hbB
    have hOB := Boxed.below hOA hbB
    have hRB := blk_below hRA hbB
    have hsKB := hsKA.below hbB
    have hsQB := hsQA.below hbB
    have hsOB := hsOA.below hbB
    have hsRB := hsRA.below hbB
    clear qsA hKA hFA hQA hOA hRA hsKA hsQA hsOA hsRA hbB HGF
    obtain ⟨c0, c1, _, _⟩ := hQB.two
    have hS : ∀ W9, Below wB.heap.size wB W9 → (Below wB.heap.size wB W9 ∧ W9.cell? ⟨w7.heap.size, 0, none⟩ = some (.int .i64 KQ) ∧ W9.cell? ⟨w7.heap.size, 1, none⟩ = some (.slice r1 r2 r3)) := fun W9 h => ⟨h, below_cell h c0, below_cell h c1⟩
    have hS0 := hS _ (bdrew (Below.refl _ wB))
    clear c0 c1
    go_wp2_with fail
    go_cut [15, 16, 17] (fun s15 _ s17 wx => NRel wB K TS' s15 s17 wx)
    case first =>
      clear HIS hway
      refine wp_region_held_drew (S := (fun W9 => Below wB.heap.size wB W9 ∧ W9.cell? ⟨w7.heap.size, 0, none⟩ = some (.int .i64 KQ) ∧ W9.cell? ⟨w7.heap.size, 1, none⟩ = some (.slice r1 r2 r3))) (by kernel_rfl) hS0 (fun hHeld => ?_)
      have hB_0 : Below wB.heap.size wB wB.drew := bdrew (Below.refl _ wB)
      refine wpAnyH_take (i := 0) (oi := ({ dst := some 101, op := Go.Op.load 24 (Go.Operand.tmp 11), type := 24, pos := _, after := #[], guard := none } : Oper)) (v := ?_) rfl (by kernel_rfl) (by kernel_rfl) (by kernel_rfl) (fun _ _ _ h => h) (Or.inl ⟨by rfl, ?_⟩) (by assumption) ?_
      rotate_left
      · (intro w hSw; (try dsimp only at hSw); go_simp; try with_reducible rfl)
      simp only [Act.put, List.setIfInBounds_toArray, List.set_cons_zero, List.set_cons_succ]
      refine wpAnyH_take (i := 1) (oi := ({ dst := some 102, op := Go.Op.load 24 (Go.Operand.tmp 11), type := 24, pos := _, after := #[], guard := none } : Oper)) (v := ?_) rfl (by kernel_rfl) (by kernel_rfl) (by kernel_rfl) (fun _ _ _ h => h) (Or.inl ⟨by rfl, ?_⟩) (by assumption) ?_
      rotate_left
      · (intro w hSw; (try dsimp only at hSw); go_simp; try with_reducible rfl)
      simp only [Act.put, List.setIfInBounds_toArray, List.set_cons_zero, List.set_cons_succ]
      refine wpAnyH_take (i := 2) (oi := ({ dst := some 103, op := Go.Op.makeFunc (Go.Fn.func 34) #[] #[Go.Operand.tmp 9, Go.Operand.tmp 12], type := 51, pos := _, after := #[], guard := none } : Oper)) (v := ?_) rfl (by kernel_rfl) (by kernel_rfl) (by kernel_rfl) (fun _ _ _ h => h) (Or.inl ⟨by rfl, ?_⟩) (by assumption) ?_
      rotate_left
      · (intro w hSw; (try dsimp only at hSw); go_simp; try with_reducible rfl)
      simp only [Act.put, List.setIfInBounds_toArray, List.set_cons_zero, List.set_cons_succ]
      refine wpAnyH_ready (rs := [3, 9, 10]) (by kernel_rfl) (by simp) (AllReadyH.cons (o := ({ dst := some 104, op := Go.Op.call { callee := Go.Callee.value (Go.Operand.func 27), args := #[Go.Operand.tmp 102, Go.Operand.tmp 103], argTypes := #[24, 51] }, type := 22, pos := _, after := #[{ on := 1, ground := Go.Ground.data }, { on := 2, ground := Go.Ground.data }], guard := none } : Oper)) rfl (fun KK hK => ?_) (AllReadyH.cons (o := ({ dst := some 15, op := Go.Op.alloc 24, type := 0, pos := _, after := #[], guard := none } : Oper)) rfl (fun KK hK => ?_) (AllReadyH.cons (o := ({ dst := some 17, op := Go.Op.alloc 26, type := 0, pos := _, after := #[], guard := none } : Oper)) rfl (fun KK hK => ?_) AllReadyH.nil)))
      · go_simp
        refine (HT2.out _ _ _ _ _ _ _ _ _ _ _ _ (bcat2 qsB.bel hB_0) (Boxed.below hKB hB_0) (Boxed.below hOB hB_0) (hsKB.below hB_0) (hsOB.below hB_0)).mono ?_
        rintro e5 U5 ⟨a1, a2, a3, rfl, ha5, hl5⟩
        try go_wp2_with fail
        have hB_1 := bcat2 hB_0 hl5
        refine hK.out _ _ (hS _ hB_1) (fun hHeld => ?_)
        clear hK
        try simp only [Act.put, List.setIfInBounds_toArray, List.set_cons_zero, List.set_cons_succ]
        refine wpAnyH_ready (rs := [4, 9, 10]) (by kernel_rfl) (by simp) (AllReadyH.cons (o := ({ dst := some 105, op := Go.Op.call { callee := Go.Callee.value (Go.Operand.func 21), args := #[Go.Operand.tmp 101, Go.Operand.tmp 104], argTypes := #[24, 22] }, type := 42, pos := _, after := #[{ on := 0, ground := Go.Ground.data }, { on := 3, ground := Go.Ground.data }, { on := 3, ground := Go.Ground.chain }], guard := none } : Oper)) rfl (fun KK hK => ?_) (AllReadyH.cons (o := ({ dst := some 15, op := Go.Op.alloc 24, type := 0, pos := _, after := #[], guard := none } : Oper)) rfl (fun KK hK => ?_) (AllReadyH.cons (o := ({ dst := some 17, op := Go.Op.alloc 26, type := 0, pos := _, after := #[], guard := none } : Oper)) rfl (fun KK hK => ?_) AllReadyH.nil)))
        · go_simp
          refine (HQ3.out _ _ _ _ _ _ _ (bcat2 qsB.bel hB_1) (hsQB.below hB_1).sl ha5).mono ?_
          rintro e6 U6 ⟨q1, q2, q3, x1, x2, x3, rfl, hs6, hl6⟩
          try go_wp2_with fail
          have hB_2 := bcat2 hB_1 hl6
          refine hK.out _ _ (hS _ hB_2) (fun hHeld => ?_)
          clear hK
          try simp only [Act.put, List.setIfInBounds_toArray, List.set_cons_zero, List.set_cons_succ]
          refine wpAnyH_take (i := 5) (oi := ({ dst := some 100, op := Go.Op.move (Go.Operand.tmp 105), type := 42, pos := _, after := #[{ on := 4, ground := Go.Ground.data }], guard := none } : Oper)) (v := ?_) rfl (by kernel_rfl) (by kernel_rfl) (by kernel_rfl) (fun _ _ _ h => h) (Or.inl ⟨by rfl, ?_⟩) (by assumption) ?_
          rotate_left
          · (intro w hSw; (try dsimp only at hSw); go_simp; try with_reducible rfl)
          simp only [Act.put, List.setIfInBounds_toArray, List.set_cons_zero, List.set_cons_succ]
          refine wpAnyH_take (i := 6) (oi := ({ dst := some 106, op := Go.Op.extract (Go.Operand.tmp 100) 0, type := 24, pos := _, after := #[{ on := 5, ground := Go.Ground.data }], guard := none } : Oper)) (v := ?_) rfl (by kernel_rfl) (by kernel_rfl) (by kernel_rfl) (fun _ _ _ h => h) (Or.inl ⟨by rfl, ?_⟩) (by assumption) ?_
          rotate_left
          · (intro w hSw; (try dsimp only at hSw); go_simp; try with_reducible rfl)
          simp only [Act.put, List.setIfInBounds_toArray, List.set_cons_zero, List.set_cons_succ]
          refine wpAnyH_take (i := 7) (oi := ({ dst := some 107, op := Go.Op.extract (Go.Operand.tmp 100) 1, type := 22, pos := _, after := #[{ on := 5, ground := Go.Ground.data }, { on := 11, ground := Go.Ground.gcOnly Go.Departure.lateStores }], guard := none } : Oper)) (v := ?_) rfl (by kernel_rfl) (by kernel_rfl) (by kernel_rfl) (fun _ _ _ h => h) (Or.inl ⟨by rfl, ?_⟩) (by assumption) ?_
          rotate_left
          · (intro w hSw; (try dsimp only at hSw); go_simp; try with_reducible rfl)
          simp only [Act.put, List.setIfInBounds_toArray, List.set_cons_zero, List.set_cons_succ]
          refine wpAnyH_take (i := 8) (oi := ({ dst := some 108, op := Go.Op.extract (Go.Operand.tmp 100) 2, type := 26, pos := _, after := #[{ on := 5, ground := Go.Ground.data }, { on := 12, ground := Go.Ground.gcOnly Go.Departure.lateStores }], guard := none } : Oper)) (v := ?_) rfl (by kernel_rfl) (by kernel_rfl) (by kernel_rfl) (fun _ _ _ h => h) (Or.inl ⟨by rfl, ?_⟩) (by assumption) ?_
          rotate_left
          · (intro w hSw; (try dsimp only at hSw); go_simp; try with_reducible rfl)
          simp only [Act.put, List.setIfInBounds_toArray, List.set_cons_zero, List.set_cons_succ]
          refine wpAnyH_ready (rs := [9, 10]) (by kernel_rfl) (by simp) (AllReadyH.cons (o := ({ dst := some 15, op := Go.Op.alloc 24, type := 0, pos := _, after := #[], guard := none } : Oper)) rfl (fun KK hK => ?_) (AllReadyH.cons (o := ({ dst := some 17, op := Go.Op.alloc 26, type := 0, pos := _, after := #[], guard := none } : Oper)) rfl (fun KK hK => ?_) AllReadyH.nil))
          · go_simp
            have hB_3 := bcat2 hB_2 (balloc _ (.cells #[.int .i64 0, .slice none 0 0] 24))
            refine hK.out _ _ (hS _ hB_3) (fun hHeld => ?_)
            clear hK
            try simp only [Act.put, List.setIfInBounds_toArray, List.set_cons_zero, List.set_cons_succ]
            refine wpAnyH_ready (rs := [10]) (by kernel_rfl) (by simp) (AllReadyH.cons (o := ({ dst := some 17, op := Go.Op.alloc 26, type := 0, pos := _, after := #[], guard := none } : Oper)) rfl (fun KK hK => ?_) AllReadyH.nil)
            go_simp
            have hB_4 := bcat2 hB_3 (balloc _ (.cells #[.int .i64 0, .int .i64 0] 26))
            refine hK.out _ _ (hS _ hB_4) (fun hHeld => ?_)
            clear hK
            try simp only [Act.put, List.setIfInBounds_toArray, List.set_cons_zero, List.set_cons_succ]
            refine wpAnyH_ready (rs := [11]) (by kernel_rfl) (by simp) (AllReadyH.cons (o := ({ dst := none, op := Go.Op.store 24 (Go.Operand.tmp 15) (Go.Operand.tmp 106), type := 0, pos := _, after := #[{ on := 9, ground := Go.Ground.data }, { on := 6, ground := Go.Ground.data }, { on := 4, ground := Go.Ground.chain }, { on := 0, ground := Go.Ground.phase }, { on := 1, ground := Go.Ground.phase }, { on := 2, ground := Go.Ground.phase }, { on := 3, ground := Go.Ground.phase }, { on := 4, ground := Go.Ground.phase }, { on := 5, ground := Go.Ground.phase }, { on := 6, ground := Go.Ground.phase }, { on := 7, ground := Go.Ground.textOnly Go.Departure.lateStores }, { on := 8, ground := Go.Ground.textOnly Go.Departure.lateStores }, { on := 9, ground := Go.Ground.phase }, { on := 10, ground := Go.Ground.phase }], guard := none } : Oper)) rfl (fun KK hK => ?_) AllReadyH.nil)
            have h56 : Below U5.heap.size U5 U6 := hl6
            have hU5 : wB.heap.size ≤ U5.heap.size := hB_1.size
            have hU6 : wB.heap.size ≤ U6.heap.size := hB_2.size
            have h6F : Below U6.heap.size U6 ((U6.alloc (.cells #[.int .i64 0, .slice none 0 0] 24)).alloc (.cells #[.int .i64 0, .int .i64 0] 26)) := bcat2 (balloc U6 _) (balloc _ _)
            have pa0 : Blk (U6.alloc (.cells #[.int .i64 0, .slice none 0 0] 24)) (U6.heap.size) 24 [.int .i64 0, .slice none 0 0] := by
              exact blk0 (w := U6) (T := 24) (.int .i64 0) (.slice none 0 0)
            have pa : Blk ((U6.alloc (.cells #[.int .i64 0, .slice none 0 0] 24)).alloc (.cells #[.int .i64 0, .int .i64 0] 26)) (U6.heap.size) 24 [.int .i64 0, .slice none 0 0] := (pa0.alloc _)
            have pb0 : Blk ((U6.alloc (.cells #[.int .i64 0, .slice none 0 0] 24)).alloc (.cells #[.int .i64 0, .int .i64 0] 26)) (U6.heap.size + 1) 26 [.int .i64 0, .int .i64 0] := by
              have h9 := blk0 (w := (U6.alloc (.cells #[.int .i64 0, .slice none 0 0] 24))) (T := 26) (.int .i64 0) (.int .i64 0)
              rw [World.size_alloc] at h9
              exact h9
            have pb : Blk ((U6.alloc (.cells #[.int .i64 0, .slice none 0 0] 24)).alloc (.cells #[.int .i64 0, .int .i64 0] 26)) (U6.heap.size + 1) 26 [.int .i64 0, .int .i64 0] := pb0
            have hBF : Below wB.heap.size wB ((U6.alloc (.cells #[.int .i64 0, .slice none 0 0] 24)).alloc (.cells #[.int .i64 0, .int .i64 0] 26)) := hB_4
            have hsF : Sl ((((U6.alloc (.cells #[.int .i64 0, .slice none 0 0] 24)).alloc (.cells #[.int .i64 0, .int .i64 0] 26)).setCell ⟨U6.heap.size, 0, none⟩ (.int .i64 K)).setCell ⟨U6.heap.size, 1, none⟩ (.slice q1 q2 q3)) (.slice q1 q2 q3) TS' := hs6.sl.below (bSet (bSet h6F (by omega)) (by omega))
            generalize ((U6.alloc (.cells #[.int .i64 0, .slice none 0 0] 24)).alloc (.cells #[.int .i64 0, .int .i64 0] 26)) = WF at *
            obtain ⟨cA0, cA1, fA0, fA1⟩ := pa.two
            go_simp
            refine hK.out _ _ (hS _ (bSet (bSet hBF (by omega)) (by omega))) (fun hHeld => ?_)
            clear hK
            try simp only [Act.put, List.setIfInBounds_toArray, List.set_cons_zero, List.set_cons_succ]
            refine wpAnyH_take (i := 12) (oi := ({ dst := some 16, op := Go.Op.assign (Go.Operand.tmp 107), type := 22, pos := _, after := #[{ on := 7, ground := Go.Ground.data }, { on := 11, ground := Go.Ground.chain }, { on := 0, ground := Go.Ground.phase }, { on := 1, ground := Go.Ground.phase }, { on := 2, ground := Go.Ground.phase }, { on := 3, ground := Go.Ground.phase }, { on := 4, ground := Go.Ground.phase }, { on := 5, ground := Go.Ground.phase }, { on := 6, ground := Go.Ground.phase }, { on := 7, ground := Go.Ground.phase }, { on := 8, ground := Go.Ground.textOnly Go.Departure.lateStores }, { on := 9, ground := Go.Ground.phase }, { on := 10, ground := Go.Ground.phase }, { on := 11, ground := Go.Ground.phase }], guard := none } : Oper)) (v := ?_) rfl (by kernel_rfl) (by kernel_rfl) (by kernel_rfl) (fun _ _ _ h => h) (Or.inl ⟨by rfl, ?_⟩) (by assumption) ?_
            rotate_left
            · (intro w hSw; (try dsimp only at hSw); go_simp; try with_reducible rfl)
            simp only [Act.put, List.setIfInBounds_toArray, List.set_cons_zero, List.set_cons_succ]
            refine wpAnyH_ready (rs := [13]) (by kernel_rfl) (by simp) (AllReadyH.cons (o := ({ dst := none, op := Go.Op.store 26 (Go.Operand.tmp 17) (Go.Operand.tmp 108), type := 0, pos := _, after := #[{ on := 10, ground := Go.Ground.data }, { on := 8, ground := Go.Ground.data }, { on := 12, ground := Go.Ground.chain }, { on := 0, ground := Go.Ground.phase }, { on := 1, ground := Go.Ground.phase }, { on := 2, ground := Go.Ground.phase }, { on := 3, ground := Go.Ground.phase }, { on := 4, ground := Go.Ground.phase }, { on := 5, ground := Go.Ground.phase }, { on := 6, ground := Go.Ground.phase }, { on := 7, ground := Go.Ground.phase }, { on := 8, ground := Go.Ground.phase }, { on := 9, ground := Go.Ground.phase }, { on := 10, ground := Go.Ground.phase }, { on := 11, ground := Go.Ground.phase }, { on := 12, ground := Go.Ground.phase }], guard := none } : Oper)) rfl (fun KK hK => ?_) AllReadyH.nil)
            have pb' : Blk ((WF.setCell ⟨U6.heap.size, 0, none⟩ (.int .i64 K)).setCell ⟨U6.heap.size, 1, none⟩ (.slice q1 q2 q3)) (U6.heap.size + 1) 26 [.int .i64 0, .int .i64 0] := (pb.other (p := ⟨U6.heap.size, 0, none⟩) (blk_blk pa pb) _).other (p := ⟨U6.heap.size, 1, none⟩) (blk_blk pa pb) _
            obtain ⟨cB0, cB1, fB0, fB1⟩ := pb'.two
            obtain ⟨sB0, sB1⟩ := pb'.self
            go_simp
            refine hK.out _ _ (hS _ (bSet (bSet hBF (by omega)) (by omega))) (fun hHeld => ?_)
            clear hK
            try simp only [Act.put, List.setIfInBounds_toArray, List.set_cons_zero, List.set_cons_succ]
            refine wpAnyH_done (by kernel_rfl) ?_ _
            go_wp2
            go_meet
            exact nrel_fin (by omega) hBF pa pb hsF
          · go_simp
            have hB_3 := bcat2 hB_2 (balloc _ (.cells #[.int .i64 0, .int .i64 0] 26))
            refine hK.out _ _ (hS _ hB_3) (fun hHeld => ?_)
            clear hK
            try simp only [Act.put, List.setIfInBounds_toArray, List.set_cons_zero, List.set_cons_succ]
            refine wpAnyH_ready (rs := [9]) (by kernel_rfl) (by simp) (AllReadyH.cons (o := ({ dst := some 15, op := Go.Op.alloc 24, type := 0, pos := _, after := #[], guard := none } : Oper)) rfl (fun KK hK => ?_) AllReadyH.nil)
            go_simp
            have hB_4 := bcat2 hB_3 (balloc _ (.cells #[.int .i64 0, .slice none 0 0] 24))
            refine hK.out _ _ (hS _ hB_4) (fun hHeld => ?_)
            clear hK
            try simp only [Act.put, List.setIfInBounds_toArray, List.set_cons_zero, List.set_cons_succ]
            refine wpAnyH_ready (rs := [11]) (by kernel_rfl) (by simp) (AllReadyH.cons (o := ({ dst := none, op := Go.Op.store 24 (Go.Operand.tmp 15) (Go.Operand.tmp 106), type := 0, pos := _, after := #[{ on := 9, ground := Go.Ground.data }, { on := 6, ground := Go.Ground.data }, { on := 4, ground := Go.Ground.chain }, { on := 0, ground := Go.Ground.phase }, { on := 1, ground := Go.Ground.phase }, { on := 2, ground := Go.Ground.phase }, { on := 3, ground := Go.Ground.phase }, { on := 4, ground := Go.Ground.phase }, { on := 5, ground := Go.Ground.phase }, { on := 6, ground := Go.Ground.phase }, { on := 7, ground := Go.Ground.textOnly Go.Departure.lateStores }, { on := 8, ground := Go.Ground.textOnly Go.Departure.lateStores }, { on := 9, ground := Go.Ground.phase }, { on := 10, ground := Go.Ground.phase }], guard := none } : Oper)) rfl (fun KK hK => ?_) AllReadyH.nil)
            have h56 : Below U5.heap.size U5 U6 := hl6
            have hU5 : wB.heap.size ≤ U5.heap.size := hB_1.size
            have hU6 : wB.heap.size ≤ U6.heap.size := hB_2.size
            have h6F : Below U6.heap.size U6 ((U6.alloc (.cells #[.int .i64 0, .int .i64 0] 26)).alloc (.cells #[.int .i64 0, .slice none 0 0] 24)) := bcat2 (balloc U6 _) (balloc _ _)
            have pb0 : Blk (U6.alloc (.cells #[.int .i64 0, .int .i64 0] 26)) (U6.heap.size) 26 [.int .i64 0, .int .i64 0] := by
              exact blk0 (w := U6) (T := 26) (.int .i64 0) (.int .i64 0)
            have pb : Blk ((U6.alloc (.cells #[.int .i64 0, .int .i64 0] 26)).alloc (.cells #[.int .i64 0, .slice none 0 0] 24)) (U6.heap.size) 26 [.int .i64 0, .int .i64 0] := (pb0.alloc _)
            have pa0 : Blk ((U6.alloc (.cells #[.int .i64 0, .int .i64 0] 26)).alloc (.cells #[.int .i64 0, .slice none 0 0] 24)) (U6.heap.size + 1) 24 [.int .i64 0, .slice none 0 0] := by
              have h9 := blk0 (w := (U6.alloc (.cells #[.int .i64 0, .int .i64 0] 26))) (T := 24) (.int .i64 0) (.slice none 0 0)
              rw [World.size_alloc] at h9
              exact h9
            have pa : Blk ((U6.alloc (.cells #[.int .i64 0, .int .i64 0] 26)).alloc (.cells #[.int .i64 0, .slice none 0 0] 24)) (U6.heap.size + 1) 24 [.int .i64 0, .slice none 0 0] := pa0
            have hBF : Below wB.heap.size wB ((U6.alloc (.cells #[.int .i64 0, .int .i64 0] 26)).alloc (.cells #[.int .i64 0, .slice none 0 0] 24)) := hB_4
            have hsF : Sl ((((U6.alloc (.cells #[.int .i64 0, .int .i64 0] 26)).alloc (.cells #[.int .i64 0, .slice none 0 0] 24)).setCell ⟨U6.heap.size + 1, 0, none⟩ (.int .i64 K)).setCell ⟨U6.heap.size + 1, 1, none⟩ (.slice q1 q2 q3)) (.slice q1 q2 q3) TS' := hs6.sl.below (bSet (bSet h6F (by omega)) (by omega))
            generalize ((U6.alloc (.cells #[.int .i64 0, .int .i64 0] 26)).alloc (.cells #[.int .i64 0, .slice none 0 0] 24)) = WF at *
            obtain ⟨cA0, cA1, fA0, fA1⟩ := pa.two
            go_simp
            refine hK.out _ _ (hS _ (bSet (bSet hBF (by omega)) (by omega))) (fun hHeld => ?_)
            clear hK
            try simp only [Act.put, List.setIfInBounds_toArray, List.set_cons_zero, List.set_cons_succ]
            refine wpAnyH_take (i := 12) (oi := ({ dst := some 16, op := Go.Op.assign (Go.Operand.tmp 107), type := 22, pos := _, after := #[{ on := 7, ground := Go.Ground.data }, { on := 11, ground := Go.Ground.chain }, { on := 0, ground := Go.Ground.phase }, { on := 1, ground := Go.Ground.phase }, { on := 2, ground := Go.Ground.phase }, { on := 3, ground := Go.Ground.phase }, { on := 4, ground := Go.Ground.phase }, { on := 5, ground := Go.Ground.phase }, { on := 6, ground := Go.Ground.phase }, { on := 7, ground := Go.Ground.phase }, { on := 8, ground := Go.Ground.textOnly Go.Departure.lateStores }, { on := 9, ground := Go.Ground.phase }, { on := 10, ground := Go.Ground.phase }, { on := 11, ground := Go.Ground.phase }], guard := none } : Oper)) (v := ?_) rfl (by kernel_rfl) (by kernel_rfl) (by kernel_rfl) (fun _ _ _ h => h) (Or.inl ⟨by rfl, ?_⟩) (by assumption) ?_
            rotate_left
            · (intro w hSw; (try dsimp only at hSw); go_simp; try with_reducible rfl)
            simp only [Act.put, List.setIfInBounds_toArray, List.set_cons_zero, List.set_cons_succ]
            refine wpAnyH_ready (rs := [13]) (by kernel_rfl) (by simp) (AllReadyH.cons (o := ({ dst := none, op := Go.Op.store 26 (Go.Operand.tmp 17) (Go.Operand.tmp 108), type := 0, pos := _, after := #[{ on := 10, ground := Go.Ground.data }, { on := 8, ground := Go.Ground.data }, { on := 12, ground := Go.Ground.chain }, { on := 0, ground := Go.Ground.phase }, { on := 1, ground := Go.Ground.phase }, { on := 2, ground := Go.Ground.phase }, { on := 3, ground := Go.Ground.phase }, { on := 4, ground := Go.Ground.phase }, { on := 5, ground := Go.Ground.phase }, { on := 6, ground := Go.Ground.phase }, { on := 7, ground := Go.Ground.phase }, { on := 8, ground := Go.Ground.phase }, { on := 9, ground := Go.Ground.phase }, { on := 10, ground := Go.Ground.phase }, { on := 11, ground := Go.Ground.phase }, { on := 12, ground := Go.Ground.phase }], guard := none } : Oper)) rfl (fun KK hK => ?_) AllReadyH.nil)
            have pb' : Blk ((WF.setCell ⟨U6.heap.size + 1, 0, none⟩ (.int .i64 K)).setCell ⟨U6.heap.size + 1, 1, none⟩ (.slice q1 q2 q3)) (U6.heap.size) 26 [.int .i64 0, .int .i64 0] := (pb.other (p := ⟨U6.heap.size + 1, 0, none⟩) (blk_blk pa pb) _).other (p := ⟨U6.heap.size + 1, 1, none⟩) (blk_blk pa pb) _
            obtain ⟨cB0, cB1, fB0, fB1⟩ := pb'.two
            obtain ⟨sB0, sB1⟩ := pb'.self
            go_simp
            refine hK.out _ _ (hS _ (bSet (bSet hBF (by omega)) (by omega))) (fun hHeld => ?_)
            clear hK
            try simp only [Act.put, List.setIfInBounds_toArray, List.set_cons_zero, List.set_cons_succ]
            refine wpAnyH_done (by kernel_rfl) ?_ _
            go_wp2
            go_meet
            exact nrel_fin (by omega) hBF pa pb hsF
        · go_simp
          have hB_2 := bcat2 hB_1 (balloc _ (.cells #[.int .i64 0, .slice none 0 0] 24))
          refine hK.out _ _ (hS _ hB_2) (fun hHeld => ?_)
          clear hK
          try simp only [Act.put, List.setIfInBounds_toArray, List.set_cons_zero, List.set_cons_succ]
          refine wpAnyH_ready (rs := [4, 10]) (by kernel_rfl) (by simp) (AllReadyH.cons (o := ({ dst := some 105, op := Go.Op.call { callee := Go.Callee.value (Go.Operand.func 21), args := #[Go.Operand.tmp 101, Go.Operand.tmp 104], argTypes := #[24, 22] }, type := 42, pos := _, after := #[{ on := 0, ground := Go.Ground.data }, { on := 3, ground := Go.Ground.data }, { on := 3, ground := Go.Ground.chain }], guard := none } : Oper)) rfl (fun KK hK => ?_) (AllReadyH.cons (o := ({ dst := some 17, op := Go.Op.alloc 26, type := 0, pos := _, after := #[], guard := none } : Oper)) rfl (fun KK hK => ?_) AllReadyH.nil))
          · go_simp
            refine (HQ3.out _ _ _ _ _ _ _ (bcat2 qsB.bel hB_2) (hsQB.below hB_2).sl (ha5.below (balloc _ _))).mono ?_
            rintro e6 U6 ⟨q1, q2, q3, x1, x2, x3, rfl, hs6, hl6⟩
            try go_wp2_with fail
            have hB_3 := bcat2 hB_2 hl6
            refine hK.out _ _ (hS _ hB_3) (fun hHeld => ?_)
            clear hK
            try simp only [Act.put, List.setIfInBounds_toArray, List.set_cons_zero, List.set_cons_succ]
            refine wpAnyH_take (i := 5) (oi := ({ dst := some 100, op := Go.Op.move (Go.Operand.tmp 105), type := 42, pos := _, after := #[{ on := 4, ground := Go.Ground.data }], guard := none } : Oper)) (v := ?_) rfl (by kernel_rfl) (by kernel_rfl) (by kernel_rfl) (fun _ _ _ h => h) (Or.inl ⟨by rfl, ?_⟩) (by assumption) ?_
            rotate_left
            · (intro w hSw; (try dsimp only at hSw); go_simp; try with_reducible rfl)
            simp only [Act.put, List.setIfInBounds_toArray, List.set_cons_zero, List.set_cons_succ]
            refine wpAnyH_take (i := 6) (oi := ({ dst := some 106, op := Go.Op.extract (Go.Operand.tmp 100) 0, type := 24, pos := _, after := #[{ on := 5, ground := Go.Ground.data }], guard := none } : Oper)) (v := ?_) rfl (by kernel_rfl) (by kernel_rfl) (by kernel_rfl) (fun _ _ _ h => h) (Or.inl ⟨by rfl, ?_⟩) (by assumption) ?_
            rotate_left
            · (intro w hSw; (try dsimp only at hSw); go_simp; try with_reducible rfl)
            simp only [Act.put, List.setIfInBounds_toArray, List.set_cons_zero, List.set_cons_succ]
            refine wpAnyH_take (i := 7) (oi := ({ dst := some 107, op := Go.Op.extract (Go.Operand.tmp 100) 1, type := 22, pos := _, after := #[{ on := 5, ground := Go.Ground.data }, { on := 11, ground := Go.Ground.gcOnly Go.Departure.lateStores }], guard := none } : Oper)) (v := ?_) rfl (by kernel_rfl) (by kernel_rfl) (by kernel_rfl) (fun _ _ _ h => h) (Or.inl ⟨by rfl, ?_⟩) (by assumption) ?_
            rotate_left
            · (intro w hSw; (try dsimp only at hSw); go_simp; try with_reducible rfl)
            simp only [Act.put, List.setIfInBounds_toArray, List.set_cons_zero, List.set_cons_succ]
            refine wpAnyH_take (i := 8) (oi := ({ dst := some 108, op := Go.Op.extract (Go.Operand.tmp 100) 2, type := 26, pos := _, after := #[{ on := 5, ground := Go.Ground.data }, { on := 12, ground := Go.Ground.gcOnly Go.Departure.lateStores }], guard := none } : Oper)) (v := ?_) rfl (by kernel_rfl) (by kernel_rfl) (by kernel_rfl) (fun _ _ _ h => h) (Or.inl ⟨by rfl, ?_⟩) (by assumption) ?_
            rotate_left
            · (intro w hSw; (try dsimp only at hSw); go_simp; try with_reducible rfl)
            simp only [Act.put, List.setIfInBounds_toArray, List.set_cons_zero, List.set_cons_succ]
            refine wpAnyH_ready (rs := [10]) (by kernel_rfl) (by simp) (AllReadyH.cons (o := ({ dst := some 17, op := Go.Op.alloc 26, type := 0, pos := _, after := #[], guard := none } : Oper)) rfl (fun KK hK => ?_) AllReadyH.nil)
            go_simp
            have hB_4 := bcat2 hB_3 (balloc _ (.cells #[.int .i64 0, .int .i64 0] 26))
            refine hK.out _ _ (hS _ hB_4) (fun hHeld => ?_)
            clear hK
            try simp only [Act.put, List.setIfInBounds_toArray, List.set_cons_zero, List.set_cons_succ]
            refine wpAnyH_ready (rs := [11]) (by kernel_rfl) (by simp) (AllReadyH.cons (o := ({ dst := none, op := Go.Op.store 24 (Go.Operand.tmp 15) (Go.Operand.tmp 106), type := 0, pos := _, after := #[{ on := 9, ground := Go.Ground.data }, { on := 6, ground := Go.Ground.data }, { on := 4, ground := Go.Ground.chain }, { on := 0, ground := Go.Ground.phase }, { on := 1, ground := Go.Ground.phase }, { on := 2, ground := Go.Ground.phase }, { on := 3, ground := Go.Ground.phase }, { on := 4, ground := Go.Ground.phase }, { on := 5, ground := Go.Ground.phase }, { on := 6, ground := Go.Ground.phase }, { on := 7, ground := Go.Ground.textOnly Go.Departure.lateStores }, { on := 8, ground := Go.Ground.textOnly Go.Departure.lateStores }, { on := 9, ground := Go.Ground.phase }, { on := 10, ground := Go.Ground.phase }], guard := none } : Oper)) rfl (fun KK hK => ?_) AllReadyH.nil)
            have h56 : Below U5.heap.size U5 U6 := bcat2 (balloc _ _) hl6
            have hU5 : wB.heap.size ≤ U5.heap.size := hB_1.size
            have hU6 : wB.heap.size ≤ U6.heap.size := hB_3.size
            have h6F : Below U6.heap.size U6 (U6.alloc (.cells #[.int .i64 0, .int .i64 0] 26)) := balloc U6 _
            have pa0 : Blk (U5.alloc (.cells #[.int .i64 0, .slice none 0 0] 24)) (U5.heap.size) 24 [.int .i64 0, .slice none 0 0] := by
              exact blk0 (w := U5) (T := 24) (.int .i64 0) (.slice none 0 0)
            have pa : Blk (U6.alloc (.cells #[.int .i64 0, .int .i64 0] 26)) (U5.heap.size) 24 [.int .i64 0, .slice none 0 0] := blk_below (blk_below pa0 hl6) h6F
            have pb0 : Blk (U6.alloc (.cells #[.int .i64 0, .int .i64 0] 26)) (U6.heap.size) 26 [.int .i64 0, .int .i64 0] := by
              exact blk0 (w := U6) (T := 26) (.int .i64 0) (.int .i64 0)
            have pb : Blk (U6.alloc (.cells #[.int .i64 0, .int .i64 0] 26)) (U6.heap.size) 26 [.int .i64 0, .int .i64 0] := pb0
            have hBF : Below wB.heap.size wB (U6.alloc (.cells #[.int .i64 0, .int .i64 0] 26)) := hB_4
            have hlt0 : U5.heap.size < U5.heap.size + 1 := by omega
            have hsF : Sl (((U6.alloc (.cells #[.int .i64 0, .int .i64 0] 26)).setCell ⟨U5.heap.size, 0, none⟩ (.int .i64 K)).setCell ⟨U5.heap.size, 1, none⟩ (.slice q1 q2 q3)) (.slice q1 q2 q3) TS' := (slF_set (slF_set (hs6.below h6F) (by rw [World.size_alloc]; omega)) (by rw [World.size_alloc]; omega)).sl
            generalize (U6.alloc (.cells #[.int .i64 0, .int .i64 0] 26)) = WF at *
            obtain ⟨cA0, cA1, fA0, fA1⟩ := pa.two
            go_simp
            refine hK.out _ _ (hS _ (bSet (bSet hBF (by omega)) (by omega))) (fun hHeld => ?_)
            clear hK
            try simp only [Act.put, List.setIfInBounds_toArray, List.set_cons_zero, List.set_cons_succ]
            refine wpAnyH_take (i := 12) (oi := ({ dst := some 16, op := Go.Op.assign (Go.Operand.tmp 107), type := 22, pos := _, after := #[{ on := 7, ground := Go.Ground.data }, { on := 11, ground := Go.Ground.chain }, { on := 0, ground := Go.Ground.phase }, { on := 1, ground := Go.Ground.phase }, { on := 2, ground := Go.Ground.phase }, { on := 3, ground := Go.Ground.phase }, { on := 4, ground := Go.Ground.phase }, { on := 5, ground := Go.Ground.phase }, { on := 6, ground := Go.Ground.phase }, { on := 7, ground := Go.Ground.phase }, { on := 8, ground := Go.Ground.textOnly Go.Departure.lateStores }, { on := 9, ground := Go.Ground.phase }, { on := 10, ground := Go.Ground.phase }, { on := 11, ground := Go.Ground.phase }], guard := none } : Oper)) (v := ?_) rfl (by kernel_rfl) (by kernel_rfl) (by kernel_rfl) (fun _ _ _ h => h) (Or.inl ⟨by rfl, ?_⟩) (by assumption) ?_
            rotate_left
            · (intro w hSw; (try dsimp only at hSw); go_simp; try with_reducible rfl)
            simp only [Act.put, List.setIfInBounds_toArray, List.set_cons_zero, List.set_cons_succ]
            refine wpAnyH_ready (rs := [13]) (by kernel_rfl) (by simp) (AllReadyH.cons (o := ({ dst := none, op := Go.Op.store 26 (Go.Operand.tmp 17) (Go.Operand.tmp 108), type := 0, pos := _, after := #[{ on := 10, ground := Go.Ground.data }, { on := 8, ground := Go.Ground.data }, { on := 12, ground := Go.Ground.chain }, { on := 0, ground := Go.Ground.phase }, { on := 1, ground := Go.Ground.phase }, { on := 2, ground := Go.Ground.phase }, { on := 3, ground := Go.Ground.phase }, { on := 4, ground := Go.Ground.phase }, { on := 5, ground := Go.Ground.phase }, { on := 6, ground := Go.Ground.phase }, { on := 7, ground := Go.Ground.phase }, { on := 8, ground := Go.Ground.phase }, { on := 9, ground := Go.Ground.phase }, { on := 10, ground := Go.Ground.phase }, { on := 11, ground := Go.Ground.phase }, { on := 12, ground := Go.Ground.phase }], guard := none } : Oper)) rfl (fun KK hK => ?_) AllReadyH.nil)
            have pb' : Blk ((WF.setCell ⟨U5.heap.size, 0, none⟩ (.int .i64 K)).setCell ⟨U5.heap.size, 1, none⟩ (.slice q1 q2 q3)) (U6.heap.size) 26 [.int .i64 0, .int .i64 0] := (pb.other (p := ⟨U5.heap.size, 0, none⟩) (blk_blk pa pb) _).other (p := ⟨U5.heap.size, 1, none⟩) (blk_blk pa pb) _
            obtain ⟨cB0, cB1, fB0, fB1⟩ := pb'.two
            obtain ⟨sB0, sB1⟩ := pb'.self
            go_simp
            refine hK.out _ _ (hS _ (bSet (bSet hBF (by omega)) (by omega))) (fun hHeld => ?_)
            clear hK
            try simp only [Act.put, List.setIfInBounds_toArray, List.set_cons_zero, List.set_cons_succ]
            refine wpAnyH_done (by kernel_rfl) ?_ _
            go_wp2
            go_meet
            exact nrel_fin (by omega) hBF pa pb hsF
          · go_simp
            have hB_3 := bcat2 hB_2 (balloc _ (.cells #[.int .i64 0, .int .i64 0] 26))
            refine hK.out _ _ (hS _ hB_3) (fun hHeld => ?_)
            clear hK
            try simp only [Act.put, List.setIfInBounds_toArray, List.set_cons_zero, List.set_cons_succ]
            refine wpAnyH_ready (rs := [4]) (by kernel_rfl) (by simp) (AllReadyH.cons (o := ({ dst := some 105, op := Go.Op.call { callee := Go.Callee.value (Go.Operand.func 21), args := #[Go.Operand.tmp 101, Go.Operand.tmp 104], argTypes := #[24, 22] }, type := 42, pos := _, after := #[{ on := 0, ground := Go.Ground.data }, { on := 3, ground := Go.Ground.data }, { on := 3, ground := Go.Ground.chain }], guard := none } : Oper)) rfl (fun KK hK => ?_) AllReadyH.nil)
            go_simp
            refine (HQ3.out _ _ _ _ _ _ _ (bcat2 qsB.bel hB_3) (hsQB.below hB_3).sl ((ha5.below (balloc _ _)).below (balloc _ _))).mono ?_
            rintro e6 U6 ⟨q1, q2, q3, x1, x2, x3, rfl, hs6, hl6⟩
            try go_wp2_with fail
            have hB_4 := bcat2 hB_3 hl6
            refine hK.out _ _ (hS _ hB_4) (fun hHeld => ?_)
            clear hK
            try simp only [Act.put, List.setIfInBounds_toArray, List.set_cons_zero, List.set_cons_succ]
            refine wpAnyH_take (i := 5) (oi := ({ dst := some 100, op := Go.Op.move (Go.Operand.tmp 105), type := 42, pos := _, after := #[{ on := 4, ground := Go.Ground.data }], guard := none } : Oper)) (v := ?_) rfl (by kernel_rfl) (by kernel_rfl) (by kernel_rfl) (fun _ _ _ h => h) (Or.inl ⟨by rfl, ?_⟩) (by assumption) ?_
            rotate_left
            · (intro w hSw; (try dsimp only at hSw); go_simp; try with_reducible rfl)
            simp only [Act.put, List.setIfInBounds_toArray, List.set_cons_zero, List.set_cons_succ]
            refine wpAnyH_take (i := 6) (oi := ({ dst := some 106, op := Go.Op.extract (Go.Operand.tmp 100) 0, type := 24, pos := _, after := #[{ on := 5, ground := Go.Ground.data }], guard := none } : Oper)) (v := ?_) rfl (by kernel_rfl) (by kernel_rfl) (by kernel_rfl) (fun _ _ _ h => h) (Or.inl ⟨by rfl, ?_⟩) (by assumption) ?_
            rotate_left
            · (intro w hSw; (try dsimp only at hSw); go_simp; try with_reducible rfl)
            simp only [Act.put, List.setIfInBounds_toArray, List.set_cons_zero, List.set_cons_succ]
            refine wpAnyH_take (i := 7) (oi := ({ dst := some 107, op := Go.Op.extract (Go.Operand.tmp 100) 1, type := 22, pos := _, after := #[{ on := 5, ground := Go.Ground.data }, { on := 11, ground := Go.Ground.gcOnly Go.Departure.lateStores }], guard := none } : Oper)) (v := ?_) rfl (by kernel_rfl) (by kernel_rfl) (by kernel_rfl) (fun _ _ _ h => h) (Or.inl ⟨by rfl, ?_⟩) (by assumption) ?_
            rotate_left
            · (intro w hSw; (try dsimp only at hSw); go_simp; try with_reducible rfl)
            simp only [Act.put, List.setIfInBounds_toArray, List.set_cons_zero, List.set_cons_succ]
            refine wpAnyH_take (i := 8) (oi := ({ dst := some 108, op := Go.Op.extract (Go.Operand.tmp 100) 2, type := 26, pos := _, after := #[{ on := 5, ground := Go.Ground.data }, { on := 12, ground := Go.Ground.gcOnly Go.Departure.lateStores }], guard := none } : Oper)) (v := ?_) rfl (by kernel_rfl) (by kernel_rfl) (by kernel_rfl) (fun _ _ _ h => h) (Or.inl ⟨by rfl, ?_⟩) (by assumption) ?_
            rotate_left
            · (intro w hSw; (try dsimp only at hSw); go_simp; try with_reducible rfl)
            simp only [Act.put, List.setIfInBounds_toArray, List.set_cons_zero, List.set_cons_succ]
            refine wpAnyH_ready (rs := [11]) (by kernel_rfl) (by simp) (AllReadyH.cons (o := ({ dst := none, op := Go.Op.store 24 (Go.Operand.tmp 15) (Go.Operand.tmp 106), type := 0, pos := _, after := #[{ on := 9, ground := Go.Ground.data }, { on := 6, ground := Go.Ground.data }, { on := 4, ground := Go.Ground.chain }, { on := 0, ground := Go.Ground.phase }, { on := 1, ground := Go.Ground.phase }, { on := 2, ground := Go.Ground.phase }, { on := 3, ground := Go.Ground.phase }, { on := 4, ground := Go.Ground.phase }, { on := 5, ground := Go.Ground.phase }, { on := 6, ground := Go.Ground.phase }, { on := 7, ground := Go.Ground.textOnly Go.Departure.lateStores }, { on := 8, ground := Go.Ground.textOnly Go.Departure.lateStores }, { on := 9, ground := Go.Ground.phase }, { on := 10, ground := Go.Ground.phase }], guard := none } : Oper)) rfl (fun KK hK => ?_) AllReadyH.nil)
            have h56 : Below U5.heap.size U5 U6 := bcat2 (bcat2 (balloc _ _) (balloc _ _)) hl6
            have hU5 : wB.heap.size ≤ U5.heap.size := hB_1.size
            have hU6 : wB.heap.size ≤ U6.heap.size := hB_4.size
            have h6F : Below U6.heap.size U6 U6 := Below.refl _ U6
            have pa0 : Blk (U5.alloc (.cells #[.int .i64 0, .slice none 0 0] 24)) (U5.heap.size) 24 [.int .i64 0, .slice none 0 0] := by
              exact blk0 (w := U5) (T := 24) (.int .i64 0) (.slice none 0 0)
            have pa : Blk U6 (U5.heap.size) 24 [.int .i64 0, .slice none 0 0] := blk_below (blk_below (pa0.alloc _) hl6) h6F
            have pb0 : Blk ((U5.alloc (.cells #[.int .i64 0, .slice none 0 0] 24)).alloc (.cells #[.int .i64 0, .int .i64 0] 26)) (U5.heap.size + 1) 26 [.int .i64 0, .int .i64 0] := by
              have h9 := blk0 (w := (U5.alloc (.cells #[.int .i64 0, .slice none 0 0] 24))) (T := 26) (.int .i64 0) (.int .i64 0)
              rw [World.size_alloc] at h9
              exact h9
            have pb : Blk U6 (U5.heap.size + 1) 26 [.int .i64 0, .int .i64 0] := blk_below (blk_below pb0 hl6) h6F
            have hBF : Below wB.heap.size wB U6 := hB_4
            have hlt0 : U5.heap.size < U5.heap.size + 2 := by omega
            have hsF : Sl ((U6.setCell ⟨U5.heap.size, 0, none⟩ (.int .i64 K)).setCell ⟨U5.heap.size, 1, none⟩ (.slice q1 q2 q3)) (.slice q1 q2 q3) TS' := (slF_set (slF_set (hs6.below h6F) (by rw [World.size_alloc, World.size_alloc]; omega)) (by rw [World.size_alloc, World.size_alloc]; omega)).sl
            obtain ⟨cA0, cA1, fA0, fA1⟩ := pa.two
            go_simp
            refine hK.out _ _ (hS _ (bSet (bSet hBF (by omega)) (by omega))) (fun hHeld => ?_)
            clear hK
            try simp only [Act.put, List.setIfInBounds_toArray, List.set_cons_zero, List.set_cons_succ]
            refine wpAnyH_take (i := 12) (oi := ({ dst := some 16, op := Go.Op.assign (Go.Operand.tmp 107), type := 22, pos := _, after := #[{ on := 7, ground := Go.Ground.data }, { on := 11, ground := Go.Ground.chain }, { on := 0, ground := Go.Ground.phase }, { on := 1, ground := Go.Ground.phase }, { on := 2, ground := Go.Ground.phase }, { on := 3, ground := Go.Ground.phase }, { on := 4, ground := Go.Ground.phase }, { on := 5, ground := Go.Ground.phase }, { on := 6, ground := Go.Ground.phase }, { on := 7, ground := Go.Ground.phase }, { on := 8, ground := Go.Ground.textOnly Go.Departure.lateStores }, { on := 9, ground := Go.Ground.phase }, { on := 10, ground := Go.Ground.phase }, { on := 11, ground := Go.Ground.phase }], guard := none } : Oper)) (v := ?_) rfl (by kernel_rfl) (by kernel_rfl) (by kernel_rfl) (fun _ _ _ h => h) (Or.inl ⟨by rfl, ?_⟩) (by assumption) ?_
            rotate_left
            · (intro w hSw; (try dsimp only at hSw); go_simp; try with_reducible rfl)
            simp only [Act.put, List.setIfInBounds_toArray, List.set_cons_zero, List.set_cons_succ]
            refine wpAnyH_ready (rs := [13]) (by kernel_rfl) (by simp) (AllReadyH.cons (o := ({ dst := none, op := Go.Op.store 26 (Go.Operand.tmp 17) (Go.Operand.tmp 108), type := 0, pos := _, after := #[{ on := 10, ground := Go.Ground.data }, { on := 8, ground := Go.Ground.data }, { on := 12, ground := Go.Ground.chain }, { on := 0, ground := Go.Ground.phase }, { on := 1, ground := Go.Ground.phase }, { on := 2, ground := Go.Ground.phase }, { on := 3, ground := Go.Ground.phase }, { on := 4, ground := Go.Ground.phase }, { on := 5, ground := Go.Ground.phase }, { on := 6, ground := Go.Ground.phase }, { on := 7, ground := Go.Ground.phase }, { on := 8, ground := Go.Ground.phase }, { on := 9, ground := Go.Ground.phase }, { on := 10, ground := Go.Ground.phase }, { on := 11, ground := Go.Ground.phase }, { on := 12, ground := Go.Ground.phase }], guard := none } : Oper)) rfl (fun KK hK => ?_) AllReadyH.nil)
            have pb' : Blk ((U6.setCell ⟨U5.heap.size, 0, none⟩ (.int .i64 K)).setCell ⟨U5.heap.size, 1, none⟩ (.slice q1 q2 q3)) (U5.heap.size + 1) 26 [.int .i64 0, .int .i64 0] := (pb.other (p := ⟨U5.heap.size, 0, none⟩) (blk_blk pa pb) _).other (p := ⟨U5.heap.size, 1, none⟩) (blk_blk pa pb) _
            obtain ⟨cB0, cB1, fB0, fB1⟩ := pb'.two
            obtain ⟨sB0, sB1⟩ := pb'.self
            go_simp
            refine hK.out _ _ (hS _ (bSet (bSet hBF (by omega)) (by omega))) (fun hHeld => ?_)
            clear hK
            try simp only [Act.put, List.setIfInBounds_toArray, List.set_cons_zero, List.set_cons_succ]
            refine wpAnyH_done (by kernel_rfl) ?_ _
            go_wp2
            go_meet
            exact nrel_fin (by omega) hBF pa pb hsF
        · go_simp
          have hB_2 := bcat2 hB_1 (balloc _ (.cells #[.int .i64 0, .int .i64 0] 26))
          refine hK.out _ _ (hS _ hB_2) (fun hHeld => ?_)
          clear hK
          try simp only [Act.put, List.setIfInBounds_toArray, List.set_cons_zero, List.set_cons_succ]
          refine wpAnyH_ready (rs := [4, 9]) (by kernel_rfl) (by simp) (AllReadyH.cons (o := ({ dst := some 105, op := Go.Op.call { callee := Go.Callee.value (Go.Operand.func 21), args := #[Go.Operand.tmp 101, Go.Operand.tmp 104], argTypes := #[24, 22] }, type := 42, pos := _, after := #[{ on := 0, ground := Go.Ground.data }, { on := 3, ground := Go.Ground.data }, { on := 3, ground := Go.Ground.chain }], guard := none } : Oper)) rfl (fun KK hK => ?_) (AllReadyH.cons (o := ({ dst := some 15, op := Go.Op.alloc 24, type := 0, pos := _, after := #[], guard := none } : Oper)) rfl (fun KK hK => ?_) AllReadyH.nil))
          · go_simp
            refine (HQ3.out _ _ _ _ _ _ _ (bcat2 qsB.bel hB_2) (hsQB.below hB_2).sl (ha5.below (balloc _ _))).mono ?_
            rintro e6 U6 ⟨q1, q2, q3, x1, x2, x3, rfl, hs6, hl6⟩
            try go_wp2_with fail
            have hB_3 := bcat2 hB_2 hl6
            refine hK.out _ _ (hS _ hB_3) (fun hHeld => ?_)
            clear hK
            try simp only [Act.put, List.setIfInBounds_toArray, List.set_cons_zero, List.set_cons_succ]
            refine wpAnyH_take (i := 5) (oi := ({ dst := some 100, op := Go.Op.move (Go.Operand.tmp 105), type := 42, pos := _, after := #[{ on := 4, ground := Go.Ground.data }], guard := none } : Oper)) (v := ?_) rfl (by kernel_rfl) (by kernel_rfl) (by kernel_rfl) (fun _ _ _ h => h) (Or.inl ⟨by rfl, ?_⟩) (by assumption) ?_
            rotate_left
            · (intro w hSw; (try dsimp only at hSw); go_simp; try with_reducible rfl)
            simp only [Act.put, List.setIfInBounds_toArray, List.set_cons_zero, List.set_cons_succ]
            refine wpAnyH_take (i := 6) (oi := ({ dst := some 106, op := Go.Op.extract (Go.Operand.tmp 100) 0, type := 24, pos := _, after := #[{ on := 5, ground := Go.Ground.data }], guard := none } : Oper)) (v := ?_) rfl (by kernel_rfl) (by kernel_rfl) (by kernel_rfl) (fun _ _ _ h => h) (Or.inl ⟨by rfl, ?_⟩) (by assumption) ?_
            rotate_left
            · (intro w hSw; (try dsimp only at hSw); go_simp; try with_reducible rfl)
            simp only [Act.put, List.setIfInBounds_toArray, List.set_cons_zero, List.set_cons_succ]
            refine wpAnyH_take (i := 7) (oi := ({ dst := some 107, op := Go.Op.extract (Go.Operand.tmp 100) 1, type := 22, pos := _, after := #[{ on := 5, ground := Go.Ground.data }, { on := 11, ground := Go.Ground.gcOnly Go.Departure.lateStores }], guard := none } : Oper)) (v := ?_) rfl (by kernel_rfl) (by kernel_rfl) (by kernel_rfl) (fun _ _ _ h => h) (Or.inl ⟨by rfl, ?_⟩) (by assumption) ?_
            rotate_left
            · (intro w hSw; (try dsimp only at hSw); go_simp; try with_reducible rfl)
            simp only [Act.put, List.setIfInBounds_toArray, List.set_cons_zero, List.set_cons_succ]
            refine wpAnyH_take (i := 8) (oi := ({ dst := some 108, op := Go.Op.extract (Go.Operand.tmp 100) 2, type := 26, pos := _, after := #[{ on := 5, ground := Go.Ground.data }, { on := 12, ground := Go.Ground.gcOnly Go.Departure.lateStores }], guard := none } : Oper)) (v := ?_) rfl (by kernel_rfl) (by kernel_rfl) (by kernel_rfl) (fun _ _ _ h => h) (Or.inl ⟨by rfl, ?_⟩) (by assumption) ?_
            rotate_left
            · (intro w hSw; (try dsimp only at hSw); go_simp; try with_reducible rfl)
            simp only [Act.put, List.setIfInBounds_toArray, List.set_cons_zero, List.set_cons_succ]
            refine wpAnyH_ready (rs := [9]) (by kernel_rfl) (by simp) (AllReadyH.cons (o := ({ dst := some 15, op := Go.Op.alloc 24, type := 0, pos := _, after := #[], guard := none } : Oper)) rfl (fun KK hK => ?_) AllReadyH.nil)
            go_simp
            have hB_4 := bcat2 hB_3 (balloc _ (.cells #[.int .i64 0, .slice none 0 0] 24))
            refine hK.out _ _ (hS _ hB_4) (fun hHeld => ?_)
            clear hK
            try simp only [Act.put, List.setIfInBounds_toArray, List.set_cons_zero, List.set_cons_succ]
            refine wpAnyH_ready (rs := [11]) (by kernel_rfl) (by simp) (AllReadyH.cons (o := ({ dst := none, op := Go.Op.store 24 (Go.Operand.tmp 15) (Go.Operand.tmp 106), type := 0, pos := _, after := #[{ on := 9, ground := Go.Ground.data }, { on := 6, ground := Go.Ground.data }, { on := 4, ground := Go.Ground.chain }, { on := 0, ground := Go.Ground.phase }, { on := 1, ground := Go.Ground.phase }, { on := 2, ground := Go.Ground.phase }, { on := 3, ground := Go.Ground.phase }, { on := 4, ground := Go.Ground.phase }, { on := 5, ground := Go.Ground.phase }, { on := 6, ground := Go.Ground.phase }, { on := 7, ground := Go.Ground.textOnly Go.Departure.lateStores }, { on := 8, ground := Go.Ground.textOnly Go.Departure.lateStores }, { on := 9, ground := Go.Ground.phase }, { on := 10, ground := Go.Ground.phase }], guard := none } : Oper)) rfl (fun KK hK => ?_) AllReadyH.nil)
            have h56 : Below U5.heap.size U5 U6 := bcat2 (balloc _ _) hl6
            have hU5 : wB.heap.size ≤ U5.heap.size := hB_1.size
            have hU6 : wB.heap.size ≤ U6.heap.size := hB_3.size
            have h6F : Below U6.heap.size U6 (U6.alloc (.cells #[.int .i64 0, .slice none 0 0] 24)) := balloc U6 _
            have pb0 : Blk (U5.alloc (.cells #[.int .i64 0, .int .i64 0] 26)) (U5.heap.size) 26 [.int .i64 0, .int .i64 0] := by
              exact blk0 (w := U5) (T := 26) (.int .i64 0) (.int .i64 0)
            have pb : Blk (U6.alloc (.cells #[.int .i64 0, .slice none 0 0] 24)) (U5.heap.size) 26 [.int .i64 0, .int .i64 0] := blk_below (blk_below pb0 hl6) h6F
            have pa0 : Blk (U6.alloc (.cells #[.int .i64 0, .slice none 0 0] 24)) (U6.heap.size) 24 [.int .i64 0, .slice none 0 0] := by
              exact blk0 (w := U6) (T := 24) (.int .i64 0) (.slice none 0 0)
            have pa : Blk (U6.alloc (.cells #[.int .i64 0, .slice none 0 0] 24)) (U6.heap.size) 24 [.int .i64 0, .slice none 0 0] := pa0
            have hBF : Below wB.heap.size wB (U6.alloc (.cells #[.int .i64 0, .slice none 0 0] 24)) := hB_4
            have hsF : Sl (((U6.alloc (.cells #[.int .i64 0, .slice none 0 0] 24)).setCell ⟨U6.heap.size, 0, none⟩ (.int .i64 K)).setCell ⟨U6.heap.size, 1, none⟩ (.slice q1 q2 q3)) (.slice q1 q2 q3) TS' := hs6.sl.below (bSet (bSet h6F (by omega)) (by omega))
            generalize (U6.alloc (.cells #[.int .i64 0, .slice none 0 0] 24)) = WF at *
            obtain ⟨cA0, cA1, fA0, fA1⟩ := pa.two
            go_simp
            refine hK.out _ _ (hS _ (bSet (bSet hBF (by omega)) (by omega))) (fun hHeld => ?_)
            clear hK
            try simp only [Act.put, List.setIfInBounds_toArray, List.set_cons_zero, List.set_cons_succ]
            refine wpAnyH_take (i := 12) (oi := ({ dst := some 16, op := Go.Op.assign (Go.Operand.tmp 107), type := 22, pos := _, after := #[{ on := 7, ground := Go.Ground.data }, { on := 11, ground := Go.Ground.chain }, { on := 0, ground := Go.Ground.phase }, { on := 1, ground := Go.Ground.phase }, { on := 2, ground := Go.Ground.phase }, { on := 3, ground := Go.Ground.phase }, { on := 4, ground := Go.Ground.phase }, { on := 5, ground := Go.Ground.phase }, { on := 6, ground := Go.Ground.phase }, { on := 7, ground := Go.Ground.phase }, { on := 8, ground := Go.Ground.textOnly Go.Departure.lateStores }, { on := 9, ground := Go.Ground.phase }, { on := 10, ground := Go.Ground.phase }, { on := 11, ground := Go.Ground.phase }], guard := none } : Oper)) (v := ?_) rfl (by kernel_rfl) (by kernel_rfl) (by kernel_rfl) (fun _ _ _ h => h) (Or.inl ⟨by rfl, ?_⟩) (by assumption) ?_
            rotate_left
            · (intro w hSw; (try dsimp only at hSw); go_simp; try with_reducible rfl)
            simp only [Act.put, List.setIfInBounds_toArray, List.set_cons_zero, List.set_cons_succ]
            refine wpAnyH_ready (rs := [13]) (by kernel_rfl) (by simp) (AllReadyH.cons (o := ({ dst := none, op := Go.Op.store 26 (Go.Operand.tmp 17) (Go.Operand.tmp 108), type := 0, pos := _, after := #[{ on := 10, ground := Go.Ground.data }, { on := 8, ground := Go.Ground.data }, { on := 12, ground := Go.Ground.chain }, { on := 0, ground := Go.Ground.phase }, { on := 1, ground := Go.Ground.phase }, { on := 2, ground := Go.Ground.phase }, { on := 3, ground := Go.Ground.phase }, { on := 4, ground := Go.Ground.phase }, { on := 5, ground := Go.Ground.phase }, { on := 6, ground := Go.Ground.phase }, { on := 7, ground := Go.Ground.phase }, { on := 8, ground := Go.Ground.phase }, { on := 9, ground := Go.Ground.phase }, { on := 10, ground := Go.Ground.phase }, { on := 11, ground := Go.Ground.phase }, { on := 12, ground := Go.Ground.phase }], guard := none } : Oper)) rfl (fun KK hK => ?_) AllReadyH.nil)
            have pb' : Blk ((WF.setCell ⟨U6.heap.size, 0, none⟩ (.int .i64 K)).setCell ⟨U6.heap.size, 1, none⟩ (.slice q1 q2 q3)) (U5.heap.size) 26 [.int .i64 0, .int .i64 0] := (pb.other (p := ⟨U6.heap.size, 0, none⟩) (blk_blk pa pb) _).other (p := ⟨U6.heap.size, 1, none⟩) (blk_blk pa pb) _
            obtain ⟨cB0, cB1, fB0, fB1⟩ := pb'.two
            obtain ⟨sB0, sB1⟩ := pb'.self
            go_simp
            refine hK.out _ _ (hS _ (bSet (bSet hBF (by omega)) (by omega))) (fun hHeld => ?_)
            clear hK
            try simp only [Act.put, List.setIfInBounds_toArray, List.set_cons_zero, List.set_cons_succ]
            refine wpAnyH_done (by kernel_rfl) ?_ _
            go_wp2
            go_meet
            exact nrel_fin (by omega) hBF pa pb hsF
          · go_simp
            have hB_3 := bcat2 hB_2 (balloc _ (.cells #[.int .i64 0, .slice none 0 0] 24))
            refine hK.out _ _ (hS _ hB_3) (fun hHeld => ?_)
            clear hK
            try simp only [Act.put, List.setIfInBounds_toArray, List.set_cons_zero, List.set_cons_succ]
            refine wpAnyH_ready (rs := [4]) (by kernel_rfl) (by simp) (AllReadyH.cons (o := ({ dst := some 105, op := Go.Op.call { callee := Go.Callee.value (Go.Operand.func 21), args := #[Go.Operand.tmp 101, Go.Operand.tmp 104], argTypes := #[24, 22] }, type := 42, pos := _, after := #[{ on := 0, ground := Go.Ground.data }, { on := 3, ground := Go.Ground.data }, { on := 3, ground := Go.Ground.chain }], guard := none } : Oper)) rfl (fun KK hK => ?_) AllReadyH.nil)
            go_simp
            refine (HQ3.out _ _ _ _ _ _ _ (bcat2 qsB.bel hB_3) (hsQB.below hB_3).sl ((ha5.below (balloc _ _)).below (balloc _ _))).mono ?_
            rintro e6 U6 ⟨q1, q2, q3, x1, x2, x3, rfl, hs6, hl6⟩
            try go_wp2_with fail
            have hB_4 := bcat2 hB_3 hl6
            refine hK.out _ _ (hS _ hB_4) (fun hHeld => ?_)
            clear hK
            try simp only [Act.put, List.setIfInBounds_toArray, List.set_cons_zero, List.set_cons_succ]
            refine wpAnyH_take (i := 5) (oi := ({ dst := some 100, op := Go.Op.move (Go.Operand.tmp 105), type := 42, pos := _, after := #[{ on := 4, ground := Go.Ground.data }], guard := none } : Oper)) (v := ?_) rfl (by kernel_rfl) (by kernel_rfl) (by kernel_rfl) (fun _ _ _ h => h) (Or.inl ⟨by rfl, ?_⟩) (by assumption) ?_
            rotate_left
            · (intro w hSw; (try dsimp only at hSw); go_simp; try with_reducible rfl)
            simp only [Act.put, List.setIfInBounds_toArray, List.set_cons_zero, List.set_cons_succ]
            refine wpAnyH_take (i := 6) (oi := ({ dst := some 106, op := Go.Op.extract (Go.Operand.tmp 100) 0, type := 24, pos := _, after := #[{ on := 5, ground := Go.Ground.data }], guard := none } : Oper)) (v := ?_) rfl (by kernel_rfl) (by kernel_rfl) (by kernel_rfl) (fun _ _ _ h => h) (Or.inl ⟨by rfl, ?_⟩) (by assumption) ?_
            rotate_left
            · (intro w hSw; (try dsimp only at hSw); go_simp; try with_reducible rfl)
            simp only [Act.put, List.setIfInBounds_toArray, List.set_cons_zero, List.set_cons_succ]
            refine wpAnyH_take (i := 7) (oi := ({ dst := some 107, op := Go.Op.extract (Go.Operand.tmp 100) 1, type := 22, pos := _, after := #[{ on := 5, ground := Go.Ground.data }, { on := 11, ground := Go.Ground.gcOnly Go.Departure.lateStores }], guard := none } : Oper)) (v := ?_) rfl (by kernel_rfl) (by kernel_rfl) (by kernel_rfl) (fun _ _ _ h => h) (Or.inl ⟨by rfl, ?_⟩) (by assumption) ?_
            rotate_left
            · (intro w hSw; (try dsimp only at hSw); go_simp; try with_reducible rfl)
            simp only [Act.put, List.setIfInBounds_toArray, List.set_cons_zero, List.set_cons_succ]
            refine wpAnyH_take (i := 8) (oi := ({ dst := some 108, op := Go.Op.extract (Go.Operand.tmp 100) 2, type := 26, pos := _, after := #[{ on := 5, ground := Go.Ground.data }, { on := 12, ground := Go.Ground.gcOnly Go.Departure.lateStores }], guard := none } : Oper)) (v := ?_) rfl (by kernel_rfl) (by kernel_rfl) (by kernel_rfl) (fun _ _ _ h => h) (Or.inl ⟨by rfl, ?_⟩) (by assumption) ?_
            rotate_left
            · (intro w hSw; (try dsimp only at hSw); go_simp; try with_reducible rfl)
            simp only [Act.put, List.setIfInBounds_toArray, List.set_cons_zero, List.set_cons_succ]
            refine wpAnyH_ready (rs := [11]) (by kernel_rfl) (by simp) (AllReadyH.cons (o := ({ dst := none, op := Go.Op.store 24 (Go.Operand.tmp 15) (Go.Operand.tmp 106), type := 0, pos := _, after := #[{ on := 9, ground := Go.Ground.data }, { on := 6, ground := Go.Ground.data }, { on := 4, ground := Go.Ground.chain }, { on := 0, ground := Go.Ground.phase }, { on := 1, ground := Go.Ground.phase }, { on := 2, ground := Go.Ground.phase }, { on := 3, ground := Go.Ground.phase }, { on := 4, ground := Go.Ground.phase }, { on := 5, ground := Go.Ground.phase }, { on := 6, ground := Go.Ground.phase }, { on := 7, ground := Go.Ground.textOnly Go.Departure.lateStores }, { on := 8, ground := Go.Ground.textOnly Go.Departure.lateStores }, { on := 9, ground := Go.Ground.phase }, { on := 10, ground := Go.Ground.phase }], guard := none } : Oper)) rfl (fun KK hK => ?_) AllReadyH.nil)
            have h56 : Below U5.heap.size U5 U6 := bcat2 (bcat2 (balloc _ _) (balloc _ _)) hl6
            have hU5 : wB.heap.size ≤ U5.heap.size := hB_1.size
            have hU6 : wB.heap.size ≤ U6.heap.size := hB_4.size
            have h6F : Below U6.heap.size U6 U6 := Below.refl _ U6
            have pb0 : Blk (U5.alloc (.cells #[.int .i64 0, .int .i64 0] 26)) (U5.heap.size) 26 [.int .i64 0, .int .i64 0] := by
              exact blk0 (w := U5) (T := 26) (.int .i64 0) (.int .i64 0)
            have pb : Blk U6 (U5.heap.size) 26 [.int .i64 0, .int .i64 0] := blk_below (blk_below (pb0.alloc _) hl6) h6F
            have pa0 : Blk ((U5.alloc (.cells #[.int .i64 0, .int .i64 0] 26)).alloc (.cells #[.int .i64 0, .slice none 0 0] 24)) (U5.heap.size + 1) 24 [.int .i64 0, .slice none 0 0] := by
              have h9 := blk0 (w := (U5.alloc (.cells #[.int .i64 0, .int .i64 0] 26))) (T := 24) (.int .i64 0) (.slice none 0 0)
              rw [World.size_alloc] at h9
              exact h9
            have pa : Blk U6 (U5.heap.size + 1) 24 [.int .i64 0, .slice none 0 0] := blk_below (blk_below pa0 hl6) h6F
            have hBF : Below wB.heap.size wB U6 := hB_4
            have hlt0 : U5.heap.size + 1 < U5.heap.size + 2 := by omega
            have hsF : Sl ((U6.setCell ⟨U5.heap.size + 1, 0, none⟩ (.int .i64 K)).setCell ⟨U5.heap.size + 1, 1, none⟩ (.slice q1 q2 q3)) (.slice q1 q2 q3) TS' := (slF_set (slF_set (hs6.below h6F) (by rw [World.size_alloc, World.size_alloc]; omega)) (by rw [World.size_alloc, World.size_alloc]; omega)).sl
            obtain ⟨cA0, cA1, fA0, fA1⟩ := pa.two
            go_simp
            refine hK.out _ _ (hS _ (bSet (bSet hBF (by omega)) (by omega))) (fun hHeld => ?_)
            clear hK
            try simp only [Act.put, List.setIfInBounds_toArray, List.set_cons_zero, List.set_cons_succ]
            refine wpAnyH_take (i := 12) (oi := ({ dst := some 16, op := Go.Op.assign (Go.Operand.tmp 107), type := 22, pos := _, after := #[{ on := 7, ground := Go.Ground.data }, { on := 11, ground := Go.Ground.chain }, { on := 0, ground := Go.Ground.phase }, { on := 1, ground := Go.Ground.phase }, { on := 2, ground := Go.Ground.phase }, { on := 3, ground := Go.Ground.phase }, { on := 4, ground := Go.Ground.phase }, { on := 5, ground := Go.Ground.phase }, { on := 6, ground := Go.Ground.phase }, { on := 7, ground := Go.Ground.phase }, { on := 8, ground := Go.Ground.textOnly Go.Departure.lateStores }, { on := 9, ground := Go.Ground.phase }, { on := 10, ground := Go.Ground.phase }, { on := 11, ground := Go.Ground.phase }], guard := none } : Oper)) (v := ?_) rfl (by kernel_rfl) (by kernel_rfl) (by kernel_rfl) (fun _ _ _ h => h) (Or.inl ⟨by rfl, ?_⟩) (by assumption) ?_
            rotate_left
            · (intro w hSw; (try dsimp only at hSw); go_simp; try with_reducible rfl)
            simp only [Act.put, List.setIfInBounds_toArray, List.set_cons_zero, List.set_cons_succ]
            refine wpAnyH_ready (rs := [13]) (by kernel_rfl) (by simp) (AllReadyH.cons (o := ({ dst := none, op := Go.Op.store 26 (Go.Operand.tmp 17) (Go.Operand.tmp 108), type := 0, pos := _, after := #[{ on := 10, ground := Go.Ground.data }, { on := 8, ground := Go.Ground.data }, { on := 12, ground := Go.Ground.chain }, { on := 0, ground := Go.Ground.phase }, { on := 1, ground := Go.Ground.phase }, { on := 2, ground := Go.Ground.phase }, { on := 3, ground := Go.Ground.phase }, { on := 4, ground := Go.Ground.phase }, { on := 5, ground := Go.Ground.phase }, { on := 6, ground := Go.Ground.phase }, { on := 7, ground := Go.Ground.phase }, { on := 8, ground := Go.Ground.phase }, { on := 9, ground := Go.Ground.phase }, { on := 10, ground := Go.Ground.phase }, { on := 11, ground := Go.Ground.phase }, { on := 12, ground := Go.Ground.phase }], guard := none } : Oper)) rfl (fun KK hK => ?_) AllReadyH.nil)
            have pb' : Blk ((U6.setCell ⟨U5.heap.size + 1, 0, none⟩ (.int .i64 K)).setCell ⟨U5.heap.size + 1, 1, none⟩ (.slice q1 q2 q3)) (U5.heap.size) 26 [.int .i64 0, .int .i64 0] := (pb.other (p := ⟨U5.heap.size + 1, 0, none⟩) (blk_blk pa pb) _).other (p := ⟨U5.heap.size + 1, 1, none⟩) (blk_blk pa pb) _
            obtain ⟨cB0, cB1, fB0, fB1⟩ := pb'.two
            obtain ⟨sB0, sB1⟩ := pb'.self
            go_simp
            refine hK.out _ _ (hS _ (bSet (bSet hBF (by omega)) (by omega))) (fun hHeld => ?_)
            clear hK
            try simp only [Act.put, List.setIfInBounds_toArray, List.set_cons_zero, List.set_cons_succ]
            refine wpAnyH_done (by kernel_rfl) ?_ _
            go_wp2
            go_meet
            exact nrel_fin (by omega) hBF pa pb hsF
      · go_simp
        have hB_1 := bcat2 hB_0 (balloc _ (.cells #[.int .i64 0, .slice none 0 0] 24))
        refine hK.out _ _ (hS _ hB_1) (fun hHeld => ?_)
        clear hK
        try simp only [Act.put, List.setIfInBounds_toArray, List.set_cons_zero, List.set_cons_succ]
        refine wpAnyH_ready (rs := [3, 10]) (by kernel_rfl) (by simp) (AllReadyH.cons (o := ({ dst := some 104, op := Go.Op.call { callee := Go.Callee.value (Go.Operand.func 27), args := #[Go.Operand.tmp 102, Go.Operand.tmp 103], argTypes := #[24, 51] }, type := 22, pos := _, after := #[{ on := 1, ground := Go.Ground.data }, { on := 2, ground := Go.Ground.data }], guard := none } : Oper)) rfl (fun KK hK => ?_) (AllReadyH.cons (o := ({ dst := some 17, op := Go.Op.alloc 26, type := 0, pos := _, after := #[], guard := none } : Oper)) rfl (fun KK hK => ?_) AllReadyH.nil))
        · go_simp
          refine (HT2.out _ _ _ _ _ _ _ _ _ _ _ _ (bcat2 qsB.bel hB_1) (Boxed.below hKB hB_1) (Boxed.below hOB hB_1) (hsKB.below hB_1) (hsOB.below hB_1)).mono ?_
          rintro e5 U5 ⟨a1, a2, a3, rfl, ha5, hl5⟩
          try go_wp2_with fail
          have hB_2 := bcat2 hB_1 hl5
          refine hK.out _ _ (hS _ hB_2) (fun hHeld => ?_)
          clear hK
          try simp only [Act.put, List.setIfInBounds_toArray, List.set_cons_zero, List.set_cons_succ]
          refine wpAnyH_ready (rs := [4, 10]) (by kernel_rfl) (by simp) (AllReadyH.cons (o := ({ dst := some 105, op := Go.Op.call { callee := Go.Callee.value (Go.Operand.func 21), args := #[Go.Operand.tmp 101, Go.Operand.tmp 104], argTypes := #[24, 22] }, type := 42, pos := _, after := #[{ on := 0, ground := Go.Ground.data }, { on := 3, ground := Go.Ground.data }, { on := 3, ground := Go.Ground.chain }], guard := none } : Oper)) rfl (fun KK hK => ?_) (AllReadyH.cons (o := ({ dst := some 17, op := Go.Op.alloc 26, type := 0, pos := _, after := #[], guard := none } : Oper)) rfl (fun KK hK => ?_) AllReadyH.nil))
          · go_simp
            refine (HQ3.out _ _ _ _ _ _ _ (bcat2 qsB.bel hB_2) (hsQB.below hB_2).sl ha5).mono ?_
            rintro e6 U6 ⟨q1, q2, q3, x1, x2, x3, rfl, hs6, hl6⟩
            try go_wp2_with fail
            have hB_3 := bcat2 hB_2 hl6
            refine hK.out _ _ (hS _ hB_3) (fun hHeld => ?_)
            clear hK
            try simp only [Act.put, List.setIfInBounds_toArray, List.set_cons_zero, List.set_cons_succ]
            refine wpAnyH_take (i := 5) (oi := ({ dst := some 100, op := Go.Op.move (Go.Operand.tmp 105), type := 42, pos := _, after := #[{ on := 4, ground := Go.Ground.data }], guard := none } : Oper)) (v := ?_) rfl (by kernel_rfl) (by kernel_rfl) (by kernel_rfl) (fun _ _ _ h => h) (Or.inl ⟨by rfl, ?_⟩) (by assumption) ?_
            rotate_left
            · (intro w hSw; (try dsimp only at hSw); go_simp; try with_reducible rfl)
            simp only [Act.put, List.setIfInBounds_toArray, List.set_cons_zero, List.set_cons_succ]
            refine wpAnyH_take (i := 6) (oi := ({ dst := some 106, op := Go.Op.extract (Go.Operand.tmp 100) 0, type := 24, pos := _, after := #[{ on := 5, ground := Go.Ground.data }], guard := none } : Oper)) (v := ?_) rfl (by kernel_rfl) (by kernel_rfl) (by kernel_rfl) (fun _ _ _ h => h) (Or.inl ⟨by rfl, ?_⟩) (by assumption) ?_
            rotate_left
            · (intro w hSw; (try dsimp only at hSw); go_simp; try with_reducible rfl)
            simp only [Act.put, List.setIfInBounds_toArray, List.set_cons_zero, List.set_cons_succ]
            refine wpAnyH_take (i := 7) (oi := ({ dst := some 107, op := Go.Op.extract (Go.Operand.tmp 100) 1, type := 22, pos := _, after := #[{ on := 5, ground := Go.Ground.data }, { on := 11, ground := Go.Ground.gcOnly Go.Departure.lateStores }], guard := none } : Oper)) (v := ?_) rfl (by kernel_rfl) (by kernel_rfl) (by kernel_rfl) (fun _ _ _ h => h) (Or.inl ⟨by rfl, ?_⟩) (by assumption) ?_
            rotate_left
            · (intro w hSw; (try dsimp only at hSw); go_simp; try with_reducible rfl)
            simp only [Act.put, List.setIfInBounds_toArray, List.set_cons_zero, List.set_cons_succ]
            refine wpAnyH_take (i := 8) (oi := ({ dst := some 108, op := Go.Op.extract (Go.Operand.tmp 100) 2, type := 26, pos := _, after := #[{ on := 5, ground := Go.Ground.data }, { on := 12, ground := Go.Ground.gcOnly Go.Departure.lateStores }], guard := none } : Oper)) (v := ?_) rfl (by kernel_rfl) (by kernel_rfl) (by kernel_rfl) (fun _ _ _ h => h) (Or.inl ⟨by rfl, ?_⟩) (by assumption) ?_
            rotate_left
            · (intro w hSw; (try dsimp only at hSw); go_simp; try with_reducible rfl)
            simp only [Act.put, List.setIfInBounds_toArray, List.set_cons_zero, List.set_cons_succ]
            refine wpAnyH_ready (rs := [10]) (by kernel_rfl) (by simp) (AllReadyH.cons (o := ({ dst := some 17, op := Go.Op.alloc 26, type := 0, pos := _, after := #[], guard := none } : Oper)) rfl (fun KK hK => ?_) AllReadyH.nil)
            go_simp
            have hB_4 := bcat2 hB_3 (balloc _ (.cells #[.int .i64 0, .int .i64 0] 26))
            refine hK.out _ _ (hS _ hB_4) (fun hHeld => ?_)
            clear hK
            try simp only [Act.put, List.setIfInBounds_toArray, List.set_cons_zero, List.set_cons_succ]
            refine wpAnyH_ready (rs := [11]) (by kernel_rfl) (by simp) (AllReadyH.cons (o := ({ dst := none, op := Go.Op.store 24 (Go.Operand.tmp 15) (Go.Operand.tmp 106), type := 0, pos := _, after := #[{ on := 9, ground := Go.Ground.data }, { on := 6, ground := Go.Ground.data }, { on := 4, ground := Go.Ground.chain }, { on := 0, ground := Go.Ground.phase }, { on := 1, ground := Go.Ground.phase }, { on := 2, ground := Go.Ground.phase }, { on := 3, ground := Go.Ground.phase }, { on := 4, ground := Go.Ground.phase }, { on := 5, ground := Go.Ground.phase }, { on := 6, ground := Go.Ground.phase }, { on := 7, ground := Go.Ground.textOnly Go.Departure.lateStores }, { on := 8, ground := Go.Ground.textOnly Go.Departure.lateStores }, { on := 9, ground := Go.Ground.phase }, { on := 10, ground := Go.Ground.phase }], guard := none } : Oper)) rfl (fun KK hK => ?_) AllReadyH.nil)
            have h56 : Below U5.heap.size U5 U6 := hl6
            have hU5 : wB.heap.size ≤ U5.heap.size := hB_2.size
            have hU6 : wB.heap.size ≤ U6.heap.size := hB_3.size
            have h6F : Below U6.heap.size U6 (U6.alloc (.cells #[.int .i64 0, .int .i64 0] 26)) := balloc U6 _
            have pa0 : Blk (wB.drew.alloc (.cells #[.int .i64 0, .slice none 0 0] 24)) (wB.heap.size) 24 [.int .i64 0, .slice none 0 0] := by
              exact blk0 (w := wB.drew) (T := 24) (.int .i64 0) (.slice none 0 0)
            have pa : Blk (U6.alloc (.cells #[.int .i64 0, .int .i64 0] 26)) (wB.heap.size) 24 [.int .i64 0, .slice none 0 0] := blk_below (blk_below (blk_below pa0 hl5) h56) h6F
            have pb0 : Blk (U6.alloc (.cells #[.int .i64 0, .int .i64 0] 26)) (U6.heap.size) 26 [.int .i64 0, .int .i64 0] := by
              exact blk0 (w := U6) (T := 26) (.int .i64 0) (.int .i64 0)
            have pb : Blk (U6.alloc (.cells #[.int .i64 0, .int .i64 0] 26)) (U6.heap.size) 26 [.int .i64 0, .int .i64 0] := pb0
            have hBF : Below wB.heap.size wB (U6.alloc (.cells #[.int .i64 0, .int .i64 0] 26)) := hB_4
            have hlt0 : wB.heap.size < U5.heap.size := (blk_below pa0 hl5).lt
            have hsF : Sl (((U6.alloc (.cells #[.int .i64 0, .int .i64 0] 26)).setCell ⟨wB.heap.size, 0, none⟩ (.int .i64 K)).setCell ⟨wB.heap.size, 1, none⟩ (.slice q1 q2 q3)) (.slice q1 q2 q3) TS' := (slF_set (slF_set (hs6.below h6F) hlt0) hlt0).sl
            generalize (U6.alloc (.cells #[.int .i64 0, .int .i64 0] 26)) = WF at *
            obtain ⟨cA0, cA1, fA0, fA1⟩ := pa.two
            go_simp
            refine hK.out _ _ (hS _ (bSet (bSet hBF (by omega)) (by omega))) (fun hHeld => ?_)
            clear hK
            try simp only [Act.put, List.setIfInBounds_toArray, List.set_cons_zero, List.set_cons_succ]
            refine wpAnyH_take (i := 12) (oi := ({ dst := some 16, op := Go.Op.assign (Go.Operand.tmp 107), type := 22, pos := _, after := #[{ on := 7, ground := Go.Ground.data }, { on := 11, ground := Go.Ground.chain }, { on := 0, ground := Go.Ground.phase }, { on := 1, ground := Go.Ground.phase }, { on := 2, ground := Go.Ground.phase }, { on := 3, ground := Go.Ground.phase }, { on := 4, ground := Go.Ground.phase }, { on := 5, ground := Go.Ground.phase }, { on := 6, ground := Go.Ground.phase }, { on := 7, ground := Go.Ground.phase }, { on := 8, ground := Go.Ground.textOnly Go.Departure.lateStores }, { on := 9, ground := Go.Ground.phase }, { on := 10, ground := Go.Ground.phase }, { on := 11, ground := Go.Ground.phase }], guard := none } : Oper)) (v := ?_) rfl (by kernel_rfl) (by kernel_rfl) (by kernel_rfl) (fun _ _ _ h => h) (Or.inl ⟨by rfl, ?_⟩) (by assumption) ?_
            rotate_left
            · (intro w hSw; (try dsimp only at hSw); go_simp; try with_reducible rfl)
            simp only [Act.put, List.setIfInBounds_toArray, List.set_cons_zero, List.set_cons_succ]
            refine wpAnyH_ready (rs := [13]) (by kernel_rfl) (by simp) (AllReadyH.cons (o := ({ dst := none, op := Go.Op.store 26 (Go.Operand.tmp 17) (Go.Operand.tmp 108), type := 0, pos := _, after := #[{ on := 10, ground := Go.Ground.data }, { on := 8, ground := Go.Ground.data }, { on := 12, ground := Go.Ground.chain }, { on := 0, ground := Go.Ground.phase }, { on := 1, ground := Go.Ground.phase }, { on := 2, ground := Go.Ground.phase }, { on := 3, ground := Go.Ground.phase }, { on := 4, ground := Go.Ground.phase }, { on := 5, ground := Go.Ground.phase }, { on := 6, ground := Go.Ground.phase }, { on := 7, ground := Go.Ground.phase }, { on := 8, ground := Go.Ground.phase }, { on := 9, ground := Go.Ground.phase }, { on := 10, ground := Go.Ground.phase }, { on := 11, ground := Go.Ground.phase }, { on := 12, ground := Go.Ground.phase }], guard := none } : Oper)) rfl (fun KK hK => ?_) AllReadyH.nil)
            have pb' : Blk ((WF.setCell ⟨wB.heap.size, 0, none⟩ (.int .i64 K)).setCell ⟨wB.heap.size, 1, none⟩ (.slice q1 q2 q3)) (U6.heap.size) 26 [.int .i64 0, .int .i64 0] := (pb.other (p := ⟨wB.heap.size, 0, none⟩) (blk_blk pa pb) _).other (p := ⟨wB.heap.size, 1, none⟩) (blk_blk pa pb) _
            obtain ⟨cB0, cB1, fB0, fB1⟩ := pb'.two
            obtain ⟨sB0, sB1⟩ := pb'.self
            go_simp
            refine hK.out _ _ (hS _ (bSet (bSet hBF (by omega)) (by omega))) (fun hHeld => ?_)
            clear hK
            try simp only [Act.put, List.setIfInBounds_toArray, List.set_cons_zero, List.set_cons_succ]
            refine wpAnyH_done (by kernel_rfl) ?_ _
            go_wp2
            go_meet
            exact nrel_fin (by omega) hBF pa pb hsF
          · go_simp
            have hB_3 := bcat2 hB_2 (balloc _ (.cells #[.int .i64 0, .int .i64 0] 26))
            refine hK.out _ _ (hS _ hB_3) (fun hHeld => ?_)
            clear hK
            try simp only [Act.put, List.setIfInBounds_toArray, List.set_cons_zero, List.set_cons_succ]
            refine wpAnyH_ready (rs := [4]) (by kernel_rfl) (by simp) (AllReadyH.cons (o := ({ dst := some 105, op := Go.Op.call { callee := Go.Callee.value (Go.Operand.func 21), args := #[Go.Operand.tmp 101, Go.Operand.tmp 104], argTypes := #[24, 22] }, type := 42, pos := _, after := #[{ on := 0, ground := Go.Ground.data }, { on := 3, ground := Go.Ground.data }, { on := 3, ground := Go.Ground.chain }], guard := none } : Oper)) rfl (fun KK hK => ?_) AllReadyH.nil)
            go_simp
            refine (HQ3.out _ _ _ _ _ _ _ (bcat2 qsB.bel hB_3) (hsQB.below hB_3).sl (ha5.below (balloc _ _))).mono ?_
            rintro e6 U6 ⟨q1, q2, q3, x1, x2, x3, rfl, hs6, hl6⟩
            try go_wp2_with fail
            have hB_4 := bcat2 hB_3 hl6
            refine hK.out _ _ (hS _ hB_4) (fun hHeld => ?_)
            clear hK
            try simp only [Act.put, List.setIfInBounds_toArray, List.set_cons_zero, List.set_cons_succ]
            refine wpAnyH_take (i := 5) (oi := ({ dst := some 100, op := Go.Op.move (Go.Operand.tmp 105), type := 42, pos := _, after := #[{ on := 4, ground := Go.Ground.data }], guard := none } : Oper)) (v := ?_) rfl (by kernel_rfl) (by kernel_rfl) (by kernel_rfl) (fun _ _ _ h => h) (Or.inl ⟨by rfl, ?_⟩) (by assumption) ?_
            rotate_left
            · (intro w hSw; (try dsimp only at hSw); go_simp; try with_reducible rfl)
            simp only [Act.put, List.setIfInBounds_toArray, List.set_cons_zero, List.set_cons_succ]
            refine wpAnyH_take (i := 6) (oi := ({ dst := some 106, op := Go.Op.extract (Go.Operand.tmp 100) 0, type := 24, pos := _, after := #[{ on := 5, ground := Go.Ground.data }], guard := none } : Oper)) (v := ?_) rfl (by kernel_rfl) (by kernel_rfl) (by kernel_rfl) (fun _ _ _ h => h) (Or.inl ⟨by rfl, ?_⟩) (by assumption) ?_
            rotate_left
            · (intro w hSw; (try dsimp only at hSw); go_simp; try with_reducible rfl)
            simp only [Act.put, List.setIfInBounds_toArray, List.set_cons_zero, List.set_cons_succ]
            refine wpAnyH_take (i := 7) (oi := ({ dst := some 107, op := Go.Op.extract (Go.Operand.tmp 100) 1, type := 22, pos := _, after := #[{ on := 5, ground := Go.Ground.data }, { on := 11, ground := Go.Ground.gcOnly Go.Departure.lateStores }], guard := none } : Oper)) (v := ?_) rfl (by kernel_rfl) (by kernel_rfl) (by kernel_rfl) (fun _ _ _ h => h) (Or.inl ⟨by rfl, ?_⟩) (by assumption) ?_
            rotate_left
            · (intro w hSw; (try dsimp only at hSw); go_simp; try with_reducible rfl)
            simp only [Act.put, List.setIfInBounds_toArray, List.set_cons_zero, List.set_cons_succ]
            refine wpAnyH_take (i := 8) (oi := ({ dst := some 108, op := Go.Op.extract (Go.Operand.tmp 100) 2, type := 26, pos := _, after := #[{ on := 5, ground := Go.Ground.data }, { on := 12, ground := Go.Ground.gcOnly Go.Departure.lateStores }], guard := none } : Oper)) (v := ?_) rfl (by kernel_rfl) (by kernel_rfl) (by kernel_rfl) (fun _ _ _ h => h) (Or.inl ⟨by rfl, ?_⟩) (by assumption) ?_
            rotate_left
            · (intro w hSw; (try dsimp only at hSw); go_simp; try with_reducible rfl)
            simp only [Act.put, List.setIfInBounds_toArray, List.set_cons_zero, List.set_cons_succ]
            refine wpAnyH_ready (rs := [11]) (by kernel_rfl) (by simp) (AllReadyH.cons (o := ({ dst := none, op := Go.Op.store 24 (Go.Operand.tmp 15) (Go.Operand.tmp 106), type := 0, pos := _, after := #[{ on := 9, ground := Go.Ground.data }, { on := 6, ground := Go.Ground.data }, { on := 4, ground := Go.Ground.chain }, { on := 0, ground := Go.Ground.phase }, { on := 1, ground := Go.Ground.phase }, { on := 2, ground := Go.Ground.phase }, { on := 3, ground := Go.Ground.phase }, { on := 4, ground := Go.Ground.phase }, { on := 5, ground := Go.Ground.phase }, { on := 6, ground := Go.Ground.phase }, { on := 7, ground := Go.Ground.textOnly Go.Departure.lateStores }, { on := 8, ground := Go.Ground.textOnly Go.Departure.lateStores }, { on := 9, ground := Go.Ground.phase }, { on := 10, ground := Go.Ground.phase }], guard := none } : Oper)) rfl (fun KK hK => ?_) AllReadyH.nil)
            have h56 : Below U5.heap.size U5 U6 := bcat2 (balloc _ _) hl6
            have hU5 : wB.heap.size ≤ U5.heap.size := hB_2.size
            have hU6 : wB.heap.size ≤ U6.heap.size := hB_4.size
            have h6F : Below U6.heap.size U6 U6 := Below.refl _ U6
            have pa0 : Blk (wB.drew.alloc (.cells #[.int .i64 0, .slice none 0 0] 24)) (wB.heap.size) 24 [.int .i64 0, .slice none 0 0] := by
              exact blk0 (w := wB.drew) (T := 24) (.int .i64 0) (.slice none 0 0)
            have pa : Blk U6 (wB.heap.size) 24 [.int .i64 0, .slice none 0 0] := blk_below (blk_below (blk_below pa0 hl5) h56) h6F
            have pb0 : Blk (U5.alloc (.cells #[.int .i64 0, .int .i64 0] 26)) (U5.heap.size) 26 [.int .i64 0, .int .i64 0] := by
              exact blk0 (w := U5) (T := 26) (.int .i64 0) (.int .i64 0)
            have pb : Blk U6 (U5.heap.size) 26 [.int .i64 0, .int .i64 0] := blk_below (blk_below pb0 hl6) h6F
            have hBF : Below wB.heap.size wB U6 := hB_4
            have hlt0 : wB.heap.size < U5.heap.size := (blk_below pa0 hl5).lt
            have hsF : Sl ((U6.setCell ⟨wB.heap.size, 0, none⟩ (.int .i64 K)).setCell ⟨wB.heap.size, 1, none⟩ (.slice q1 q2 q3)) (.slice q1 q2 q3) TS' := (slF_set (slF_set (hs6.below h6F) (by rw [World.size_alloc]; omega)) (by rw [World.size_alloc]; omega)).sl
            obtain ⟨cA0, cA1, fA0, fA1⟩ := pa.two
            go_simp
            refine hK.out _ _ (hS _ (bSet (bSet hBF (by omega)) (by omega))) (fun hHeld => ?_)
            clear hK
            try simp only [Act.put, List.setIfInBounds_toArray, List.set_cons_zero, List.set_cons_succ]
            refine wpAnyH_take (i := 12) (oi := ({ dst := some 16, op := Go.Op.assign (Go.Operand.tmp 107), type := 22, pos := _, after := #[{ on := 7, ground := Go.Ground.data }, { on := 11, ground := Go.Ground.chain }, { on := 0, ground := Go.Ground.phase }, { on := 1, ground := Go.Ground.phase }, { on := 2, ground := Go.Ground.phase }, { on := 3, ground := Go.Ground.phase }, { on := 4, ground := Go.Ground.phase }, { on := 5, ground := Go.Ground.phase }, { on := 6, ground := Go.Ground.phase }, { on := 7, ground := Go.Ground.phase }, { on := 8, ground := Go.Ground.textOnly Go.Departure.lateStores }, { on := 9, ground := Go.Ground.phase }, { on := 10, ground := Go.Ground.phase }, { on := 11, ground := Go.Ground.phase }], guard := none } : Oper)) (v := ?_) rfl (by kernel_rfl) (by kernel_rfl) (by kernel_rfl) (fun _ _ _ h => h) (Or.inl ⟨by rfl, ?_⟩) (by assumption) ?_
            rotate_left
            · (intro w hSw; (try dsimp only at hSw); go_simp; try with_reducible rfl)
            simp only [Act.put, List.setIfInBounds_toArray, List.set_cons_zero, List.set_cons_succ]
            refine wpAnyH_ready (rs := [13]) (by kernel_rfl) (by simp) (AllReadyH.cons (o := ({ dst := none, op := Go.Op.store 26 (Go.Operand.tmp 17) (Go.Operand.tmp 108), type := 0, pos := _, after := #[{ on := 10, ground := Go.Ground.data }, { on := 8, ground := Go.Ground.data }, { on := 12, ground := Go.Ground.chain }, { on := 0, ground := Go.Ground.phase }, { on := 1, ground := Go.Ground.phase }, { on := 2, ground := Go.Ground.phase }, { on := 3, ground := Go.Ground.phase }, { on := 4, ground := Go.Ground.phase }, { on := 5, ground := Go.Ground.phase }, { on := 6, ground := Go.Ground.phase }, { on := 7, ground := Go.Ground.phase }, { on := 8, ground := Go.Ground.phase }, { on := 9, ground := Go.Ground.phase }, { on := 10, ground := Go.Ground.phase }, { on := 11, ground := Go.Ground.phase }, { on := 12, ground := Go.Ground.phase }], guard := none } : Oper)) rfl (fun KK hK => ?_) AllReadyH.nil)
            have pb' : Blk ((U6.setCell ⟨wB.heap.size, 0, none⟩ (.int .i64 K)).setCell ⟨wB.heap.size, 1, none⟩ (.slice q1 q2 q3)) (U5.heap.size) 26 [.int .i64 0, .int .i64 0] := (pb.other (p := ⟨wB.heap.size, 0, none⟩) (blk_blk pa pb) _).other (p := ⟨wB.heap.size, 1, none⟩) (blk_blk pa pb) _
            obtain ⟨cB0, cB1, fB0, fB1⟩ := pb'.two
            obtain ⟨sB0, sB1⟩ := pb'.self
            go_simp
            refine hK.out _ _ (hS _ (bSet (bSet hBF (by omega)) (by omega))) (fun hHeld => ?_)
            clear hK
            try simp only [Act.put, List.setIfInBounds_toArray, List.set_cons_zero, List.set_cons_succ]
            refine wpAnyH_done (by kernel_rfl) ?_ _
            go_wp2
            go_meet
            exact nrel_fin (by omega) hBF pa pb hsF
        · go_simp
          have hB_2 := bcat2 hB_1 (balloc _ (.cells #[.int .i64 0, .int .i64 0] 26))
          refine hK.out _ _ (hS _ hB_2) (fun hHeld => ?_)
          clear hK
          try simp only [Act.put, List.setIfInBounds_toArray, List.set_cons_zero, List.set_cons_succ]
          refine wpAnyH_ready (rs := [3]) (by kernel_rfl) (by simp) (AllReadyH.cons (o := ({ dst := some 104, op := Go.Op.call { callee := Go.Callee.value (Go.Operand.func 27), args := #[Go.Operand.tmp 102, Go.Operand.tmp 103], argTypes := #[24, 51] }, type := 22, pos := _, after := #[{ on := 1, ground := Go.Ground.data }, { on := 2, ground := Go.Ground.data }], guard := none } : Oper)) rfl (fun KK hK => ?_) AllReadyH.nil)
          go_simp
          refine (HT2.out _ _ _ _ _ _ _ _ _ _ _ _ (bcat2 qsB.bel hB_2) (Boxed.below hKB hB_2) (Boxed.below hOB hB_2) (hsKB.below hB_2) (hsOB.below hB_2)).mono ?_
          rintro e5 U5 ⟨a1, a2, a3, rfl, ha5, hl5⟩
          try go_wp2_with fail
          have hB_3 := bcat2 hB_2 hl5
          refine hK.out _ _ (hS _ hB_3) (fun hHeld => ?_)
          clear hK
          try simp only [Act.put, List.setIfInBounds_toArray, List.set_cons_zero, List.set_cons_succ]
          refine wpAnyH_ready (rs := [4]) (by kernel_rfl) (by simp) (AllReadyH.cons (o := ({ dst := some 105, op := Go.Op.call { callee := Go.Callee.value (Go.Operand.func 21), args := #[Go.Operand.tmp 101, Go.Operand.tmp 104], argTypes := #[24, 22] }, type := 42, pos := _, after := #[{ on := 0, ground := Go.Ground.data }, { on := 3, ground := Go.Ground.data }, { on := 3, ground := Go.Ground.chain }], guard := none } : Oper)) rfl (fun KK hK => ?_) AllReadyH.nil)
          go_simp
          refine (HQ3.out _ _ _ _ _ _ _ (bcat2 qsB.bel hB_3) (hsQB.below hB_3).sl ha5).mono ?_
          rintro e6 U6 ⟨q1, q2, q3, x1, x2, x3, rfl, hs6, hl6⟩
          try go_wp2_with fail
          have hB_4 := bcat2 hB_3 hl6
          refine hK.out _ _ (hS _ hB_4) (fun hHeld => ?_)
          clear hK
          try simp only [Act.put, List.setIfInBounds_toArray, List.set_cons_zero, List.set_cons_succ]
          refine wpAnyH_take (i := 5) (oi := ({ dst := some 100, op := Go.Op.move (Go.Operand.tmp 105), type := 42, pos := _, after := #[{ on := 4, ground := Go.Ground.data }], guard := none } : Oper)) (v := ?_) rfl (by kernel_rfl) (by kernel_rfl) (by kernel_rfl) (fun _ _ _ h => h) (Or.inl ⟨by rfl, ?_⟩) (by assumption) ?_
          rotate_left
          · (intro w hSw; (try dsimp only at hSw); go_simp; try with_reducible rfl)
          simp only [Act.put, List.setIfInBounds_toArray, List.set_cons_zero, List.set_cons_succ]
          refine wpAnyH_take (i := 6) (oi := ({ dst := some 106, op := Go.Op.extract (Go.Operand.tmp 100) 0, type := 24, pos := _, after := #[{ on := 5, ground := Go.Ground.data }], guard := none } : Oper)) (v := ?_) rfl (by kernel_rfl) (by kernel_rfl) (by kernel_rfl) (fun _ _ _ h => h) (Or.inl ⟨by rfl, ?_⟩) (by assumption) ?_
          rotate_left
          · (intro w hSw; (try dsimp only at hSw); go_simp; try with_reducible rfl)
          simp only [Act.put, List.setIfInBounds_toArray, List.set_cons_zero, List.set_cons_succ]
          refine wpAnyH_take (i := 7) (oi := ({ dst := some 107, op := Go.Op.extract (Go.Operand.tmp 100) 1, type := 22, pos := _, after := #[{ on := 5, ground := Go.Ground.data }, { on := 11, ground := Go.Ground.gcOnly Go.Departure.lateStores }], guard := none } : Oper)) (v := ?_) rfl (by kernel_rfl) (by kernel_rfl) (by kernel_rfl) (fun _ _ _ h => h) (Or.inl ⟨by rfl, ?_⟩) (by assumption) ?_
          rotate_left
          · (intro w hSw; (try dsimp only at hSw); go_simp; try with_reducible rfl)
          simp only [Act.put, List.setIfInBounds_toArray, List.set_cons_zero, List.set_cons_succ]
          refine wpAnyH_take (i := 8) (oi := ({ dst := some 108, op := Go.Op.extract (Go.Operand.tmp 100) 2, type := 26, pos := _, after := #[{ on := 5, ground := Go.Ground.data }, { on := 12, ground := Go.Ground.gcOnly Go.Departure.lateStores }], guard := none } : Oper)) (v := ?_) rfl (by kernel_rfl) (by kernel_rfl) (by kernel_rfl) (fun _ _ _ h => h) (Or.inl ⟨by rfl, ?_⟩) (by assumption) ?_
          rotate_left
          · (intro w hSw; (try dsimp only at hSw); go_simp; try with_reducible rfl)
          simp only [Act.put, List.setIfInBounds_toArray, List.set_cons_zero, List.set_cons_succ]
          refine wpAnyH_ready (rs := [11]) (by kernel_rfl) (by simp) (AllReadyH.cons (o := ({ dst := none, op := Go.Op.store 24 (Go.Operand.tmp 15) (Go.Operand.tmp 106), type := 0, pos := _, after := #[{ on := 9, ground := Go.Ground.data }, { on := 6, ground := Go.Ground.data }, { on := 4, ground := Go.Ground.chain }, { on := 0, ground := Go.Ground.phase }, { on := 1, ground := Go.Ground.phase }, { on := 2, ground := Go.Ground.phase }, { on := 3, ground := Go.Ground.phase }, { on := 4, ground := Go.Ground.phase }, { on := 5, ground := Go.Ground.phase }, { on := 6, ground := Go.Ground.phase }, { on := 7, ground := Go.Ground.textOnly Go.Departure.lateStores }, { on := 8, ground := Go.Ground.textOnly Go.Departure.lateStores }, { on := 9, ground := Go.Ground.phase }, { on := 10, ground := Go.Ground.phase }], guard := none } : Oper)) rfl (fun KK hK => ?_) AllReadyH.nil)
          have h56 : Below U5.heap.size U5 U6 := hl6
          have hU5 : wB.heap.size ≤ U5.heap.size := hB_3.size
          have hU6 : wB.heap.size ≤ U6.heap.size := hB_4.size
          have h6F : Below U6.heap.size U6 U6 := Below.refl _ U6
          have pa0 : Blk (wB.drew.alloc (.cells #[.int .i64 0, .slice none 0 0] 24)) (wB.heap.size) 24 [.int .i64 0, .slice none 0 0] := by
            exact blk0 (w := wB.drew) (T := 24) (.int .i64 0) (.slice none 0 0)
          have pa : Blk U6 (wB.heap.size) 24 [.int .i64 0, .slice none 0 0] := blk_below (blk_below (blk_below (pa0.alloc _) hl5) h56) h6F
          have pb0 : Blk ((wB.drew.alloc (.cells #[.int .i64 0, .slice none 0 0] 24)).alloc (.cells #[.int .i64 0, .int .i64 0] 26)) (wB.heap.size + 1) 26 [.int .i64 0, .int .i64 0] := by
            have h9 := blk0 (w := (wB.drew.alloc (.cells #[.int .i64 0, .slice none 0 0] 24))) (T := 26) (.int .i64 0) (.int .i64 0)
            rw [World.size_alloc] at h9
            exact h9
          have pb : Blk U6 (wB.heap.size + 1) 26 [.int .i64 0, .int .i64 0] := blk_below (blk_below (blk_below pb0 hl5) h56) h6F
          have hBF : Below wB.heap.size wB U6 := hB_4
          have hlt0 : wB.heap.size < U5.heap.size := (blk_below (pa0.alloc _) hl5).lt
          have hsF : Sl ((U6.setCell ⟨wB.heap.size, 0, none⟩ (.int .i64 K)).setCell ⟨wB.heap.size, 1, none⟩ (.slice q1 q2 q3)) (.slice q1 q2 q3) TS' := (slF_set (slF_set (hs6.below h6F) hlt0) hlt0).sl
          obtain ⟨cA0, cA1, fA0, fA1⟩ := pa.two
          go_simp
          refine hK.out _ _ (hS _ (bSet (bSet hBF (by omega)) (by omega))) (fun hHeld => ?_)
          clear hK
          try simp only [Act.put, List.setIfInBounds_toArray, List.set_cons_zero, List.set_cons_succ]
          refine wpAnyH_take (i := 12) (oi := ({ dst := some 16, op := Go.Op.assign (Go.Operand.tmp 107), type := 22, pos := _, after := #[{ on := 7, ground := Go.Ground.data }, { on := 11, ground := Go.Ground.chain }, { on := 0, ground := Go.Ground.phase }, { on := 1, ground := Go.Ground.phase }, { on := 2, ground := Go.Ground.phase }, { on := 3, ground := Go.Ground.phase }, { on := 4, ground := Go.Ground.phase }, { on := 5, ground := Go.Ground.phase }, { on := 6, ground := Go.Ground.phase }, { on := 7, ground := Go.Ground.phase }, { on := 8, ground := Go.Ground.textOnly Go.Departure.lateStores }, { on := 9, ground := Go.Ground.phase }, { on := 10, ground := Go.Ground.phase }, { on := 11, ground := Go.Ground.phase }], guard := none } : Oper)) (v := ?_) rfl (by kernel_rfl) (by kernel_rfl) (by kernel_rfl) (fun _ _ _ h => h) (Or.inl ⟨by rfl, ?_⟩) (by assumption) ?_
          rotate_left
          · (intro w hSw; (try dsimp only at hSw); go_simp; try with_reducible rfl)
          simp only [Act.put, List.setIfInBounds_toArray, List.set_cons_zero, List.set_cons_succ]
          refine wpAnyH_ready (rs := [13]) (by kernel_rfl) (by simp) (AllReadyH.cons (o := ({ dst := none, op := Go.Op.store 26 (Go.Operand.tmp 17) (Go.Operand.tmp 108), type := 0, pos := _, after := #[{ on := 10, ground := Go.Ground.data }, { on := 8, ground := Go.Ground.data }, { on := 12, ground := Go.Ground.chain }, { on := 0, ground := Go.Ground.phase }, { on := 1, ground := Go.Ground.phase }, { on := 2, ground := Go.Ground.phase }, { on := 3, ground := Go.Ground.phase }, { on := 4, ground := Go.Ground.phase }, { on := 5, ground := Go.Ground.phase }, { on := 6, ground := Go.Ground.phase }, { on := 7, ground := Go.Ground.phase }, { on := 8, ground := Go.Ground.phase }, { on := 9, ground := Go.Ground.phase }, { on := 10, ground := Go.Ground.phase }, { on := 11, ground := Go.Ground.phase }, { on := 12, ground := Go.Ground.phase }], guard := none } : Oper)) rfl (fun KK hK => ?_) AllReadyH.nil)
          have pb' : Blk ((U6.setCell ⟨wB.heap.size, 0, none⟩ (.int .i64 K)).setCell ⟨wB.heap.size, 1, none⟩ (.slice q1 q2 q3)) (wB.heap.size + 1) 26 [.int .i64 0, .int .i64 0] := (pb.other (p := ⟨wB.heap.size, 0, none⟩) (blk_blk pa pb) _).other (p := ⟨wB.heap.size, 1, none⟩) (blk_blk pa pb) _
          obtain ⟨cB0, cB1, fB0, fB1⟩ := pb'.two
          obtain ⟨sB0, sB1⟩ := pb'.self
          go_simp
          refine hK.out _ _ (hS _ (bSet (bSet hBF (by omega)) (by omega))) (fun hHeld => ?_)
          clear hK
          try simp only [Act.put, List.setIfInBounds_toArray, List.set_cons_zero, List.set_cons_succ]
          refine wpAnyH_done (by kernel_rfl) ?_ _
          go_wp2
          go_meet
          exact nrel_fin (by omega) hBF pa pb hsF
      · go_simp
        have hB_1 := bcat2 hB_0 (balloc _ (.cells #[.int .i64 0, .int .i64 0] 26))
        refine hK.out _ _ (hS _ hB_1) (fun hHeld => ?_)
        clear hK
        try simp only [Act.put, List.setIfInBounds_toArray, List.set_cons_zero, List.set_cons_succ]
        refine wpAnyH_ready (rs := [3, 9]) (by kernel_rfl) (by simp) (AllReadyH.cons (o := ({ dst := some 104, op := Go.Op.call { callee := Go.Callee.value (Go.Operand.func 27), args := #[Go.Operand.tmp 102, Go.Operand.tmp 103], argTypes := #[24, 51] }, type := 22, pos := _, after := #[{ on := 1, ground := Go.Ground.data }, { on := 2, ground := Go.Ground.data }], guard := none } : Oper)) rfl (fun KK hK => ?_) (AllReadyH.cons (o := ({ dst := some 15, op := Go.Op.alloc 24, type := 0, pos := _, after := #[], guard := none } : Oper)) rfl (fun KK hK => ?_) AllReadyH.nil))
        · go_simp
          refine (HT2.out _ _ _ _ _ _ _ _ _ _ _ _ (bcat2 qsB.bel hB_1) (Boxed.below hKB hB_1) (Boxed.below hOB hB_1) (hsKB.below hB_1) (hsOB.below hB_1)).mono ?_
          rintro e5 U5 ⟨a1, a2, a3, rfl, ha5, hl5⟩
          try go_wp2_with fail
          have hB_2 := bcat2 hB_1 hl5
          refine hK.out _ _ (hS _ hB_2) (fun hHeld => ?_)
          clear hK
          try simp only [Act.put, List.setIfInBounds_toArray, List.set_cons_zero, List.set_cons_succ]
          refine wpAnyH_ready (rs := [4, 9]) (by kernel_rfl) (by simp) (AllReadyH.cons (o := ({ dst := some 105, op := Go.Op.call { callee := Go.Callee.value (Go.Operand.func 21), args := #[Go.Operand.tmp 101, Go.Operand.tmp 104], argTypes := #[24, 22] }, type := 42, pos := _, after := #[{ on := 0, ground := Go.Ground.data }, { on := 3, ground := Go.Ground.data }, { on := 3, ground := Go.Ground.chain }], guard := none } : Oper)) rfl (fun KK hK => ?_) (AllReadyH.cons (o := ({ dst := some 15, op := Go.Op.alloc 24, type := 0, pos := _, after := #[], guard := none } : Oper)) rfl (fun KK hK => ?_) AllReadyH.nil))
          · go_simp
            refine (HQ3.out _ _ _ _ _ _ _ (bcat2 qsB.bel hB_2) (hsQB.below hB_2).sl ha5).mono ?_
            rintro e6 U6 ⟨q1, q2, q3, x1, x2, x3, rfl, hs6, hl6⟩
            try go_wp2_with fail
            have hB_3 := bcat2 hB_2 hl6
            refine hK.out _ _ (hS _ hB_3) (fun hHeld => ?_)
            clear hK
            try simp only [Act.put, List.setIfInBounds_toArray, List.set_cons_zero, List.set_cons_succ]
            refine wpAnyH_take (i := 5) (oi := ({ dst := some 100, op := Go.Op.move (Go.Operand.tmp 105), type := 42, pos := _, after := #[{ on := 4, ground := Go.Ground.data }], guard := none } : Oper)) (v := ?_) rfl (by kernel_rfl) (by kernel_rfl) (by kernel_rfl) (fun _ _ _ h => h) (Or.inl ⟨by rfl, ?_⟩) (by assumption) ?_
            rotate_left
            · (intro w hSw; (try dsimp only at hSw); go_simp; try with_reducible rfl)
            simp only [Act.put, List.setIfInBounds_toArray, List.set_cons_zero, List.set_cons_succ]
            refine wpAnyH_take (i := 6) (oi := ({ dst := some 106, op := Go.Op.extract (Go.Operand.tmp 100) 0, type := 24, pos := _, after := #[{ on := 5, ground := Go.Ground.data }], guard := none } : Oper)) (v := ?_) rfl (by kernel_rfl) (by kernel_rfl) (by kernel_rfl) (fun _ _ _ h => h) (Or.inl ⟨by rfl, ?_⟩) (by assumption) ?_
            rotate_left
            · (intro w hSw; (try dsimp only at hSw); go_simp; try with_reducible rfl)
            simp only [Act.put, List.setIfInBounds_toArray, List.set_cons_zero, List.set_cons_succ]
            refine wpAnyH_take (i := 7) (oi := ({ dst := some 107, op := Go.Op.extract (Go.Operand.tmp 100) 1, type := 22, pos := _, after := #[{ on := 5, ground := Go.Ground.data }, { on := 11, ground := Go.Ground.gcOnly Go.Departure.lateStores }], guard := none } : Oper)) (v := ?_) rfl (by kernel_rfl) (by kernel_rfl) (by kernel_rfl) (fun _ _ _ h => h) (Or.inl ⟨by rfl, ?_⟩) (by assumption) ?_
            rotate_left
            · (intro w hSw; (try dsimp only at hSw); go_simp; try with_reducible rfl)
            simp only [Act.put, List.setIfInBounds_toArray, List.set_cons_zero, List.set_cons_succ]
            refine wpAnyH_take (i := 8) (oi := ({ dst := some 108, op := Go.Op.extract (Go.Operand.tmp 100) 2, type := 26, pos := _, after := #[{ on := 5, ground := Go.Ground.data }, { on := 12, ground := Go.Ground.gcOnly Go.Departure.lateStores }], guard := none } : Oper)) (v := ?_) rfl (by kernel_rfl) (by kernel_rfl) (by kernel_rfl) (fun _ _ _ h => h) (Or.inl ⟨by rfl, ?_⟩) (by assumption) ?_
            rotate_left
            · (intro w hSw; (try dsimp only at hSw); go_simp; try with_reducible rfl)
            simp only [Act.put, List.setIfInBounds_toArray, List.set_cons_zero, List.set_cons_succ]
            refine wpAnyH_ready (rs := [9]) (by kernel_rfl) (by simp) (AllReadyH.cons (o := ({ dst := some 15, op := Go.Op.alloc 24, type := 0, pos := _, after := #[], guard := none } : Oper)) rfl (fun KK hK => ?_) AllReadyH.nil)
            go_simp
            have hB_4 := bcat2 hB_3 (balloc _ (.cells #[.int .i64 0, .slice none 0 0] 24))
            refine hK.out _ _ (hS _ hB_4) (fun hHeld => ?_)
            clear hK
            try simp only [Act.put, List.setIfInBounds_toArray, List.set_cons_zero, List.set_cons_succ]
            refine wpAnyH_ready (rs := [11]) (by kernel_rfl) (by simp) (AllReadyH.cons (o := ({ dst := none, op := Go.Op.store 24 (Go.Operand.tmp 15) (Go.Operand.tmp 106), type := 0, pos := _, after := #[{ on := 9, ground := Go.Ground.data }, { on := 6, ground := Go.Ground.data }, { on := 4, ground := Go.Ground.chain }, { on := 0, ground := Go.Ground.phase }, { on := 1, ground := Go.Ground.phase }, { on := 2, ground := Go.Ground.phase }, { on := 3, ground := Go.Ground.phase }, { on := 4, ground := Go.Ground.phase }, { on := 5, ground := Go.Ground.phase }, { on := 6, ground := Go.Ground.phase }, { on := 7, ground := Go.Ground.textOnly Go.Departure.lateStores }, { on := 8, ground := Go.Ground.textOnly Go.Departure.lateStores }, { on := 9, ground := Go.Ground.phase }, { on := 10, ground := Go.Ground.phase }], guard := none } : Oper)) rfl (fun KK hK => ?_) AllReadyH.nil)
            have h56 : Below U5.heap.size U5 U6 := hl6
            have hU5 : wB.heap.size ≤ U5.heap.size := hB_2.size
            have hU6 : wB.heap.size ≤ U6.heap.size := hB_3.size
            have h6F : Below U6.heap.size U6 (U6.alloc (.cells #[.int .i64 0, .slice none 0 0] 24)) := balloc U6 _
            have pb0 : Blk (wB.drew.alloc (.cells #[.int .i64 0, .int .i64 0] 26)) (wB.heap.size) 26 [.int .i64 0, .int .i64 0] := by
              exact blk0 (w := wB.drew) (T := 26) (.int .i64 0) (.int .i64 0)
            have pb : Blk (U6.alloc (.cells #[.int .i64 0, .slice none 0 0] 24)) (wB.heap.size) 26 [.int .i64 0, .int .i64 0] := blk_below (blk_below (blk_below pb0 hl5) h56) h6F
            have pa0 : Blk (U6.alloc (.cells #[.int .i64 0, .slice none 0 0] 24)) (U6.heap.size) 24 [.int .i64 0, .slice none 0 0] := by
              exact blk0 (w := U6) (T := 24) (.int .i64 0) (.slice none 0 0)
            have pa : Blk (U6.alloc (.cells #[.int .i64 0, .slice none 0 0] 24)) (U6.heap.size) 24 [.int .i64 0, .slice none 0 0] := pa0
            have hBF : Below wB.heap.size wB (U6.alloc (.cells #[.int .i64 0, .slice none 0 0] 24)) := hB_4
            have hsF : Sl (((U6.alloc (.cells #[.int .i64 0, .slice none 0 0] 24)).setCell ⟨U6.heap.size, 0, none⟩ (.int .i64 K)).setCell ⟨U6.heap.size, 1, none⟩ (.slice q1 q2 q3)) (.slice q1 q2 q3) TS' := hs6.sl.below (bSet (bSet h6F (by omega)) (by omega))
            generalize (U6.alloc (.cells #[.int .i64 0, .slice none 0 0] 24)) = WF at *
            obtain ⟨cA0, cA1, fA0, fA1⟩ := pa.two
            go_simp
            refine hK.out _ _ (hS _ (bSet (bSet hBF (by omega)) (by omega))) (fun hHeld => ?_)
            clear hK
            try simp only [Act.put, List.setIfInBounds_toArray, List.set_cons_zero, List.set_cons_succ]
            refine wpAnyH_take (i := 12) (oi := ({ dst := some 16, op := Go.Op.assign (Go.Operand.tmp 107), type := 22, pos := _, after := #[{ on := 7, ground := Go.Ground.data }, { on := 11, ground := Go.Ground.chain }, { on := 0, ground := Go.Ground.phase }, { on := 1, ground := Go.Ground.phase }, { on := 2, ground := Go.Ground.phase }, { on := 3, ground := Go.Ground.phase }, { on := 4, ground := Go.Ground.phase }, { on := 5, ground := Go.Ground.phase }, { on := 6, ground := Go.Ground.phase }, { on := 7, ground := Go.Ground.phase }, { on := 8, ground := Go.Ground.textOnly Go.Departure.lateStores }, { on := 9, ground := Go.Ground.phase }, { on := 10, ground := Go.Ground.phase }, { on := 11, ground := Go.Ground.phase }], guard := none } : Oper)) (v := ?_) rfl (by kernel_rfl) (by kernel_rfl) (by kernel_rfl) (fun _ _ _ h => h) (Or.inl ⟨by rfl, ?_⟩) (by assumption) ?_
            rotate_left
            · (intro w hSw; (try dsimp only at hSw); go_simp; try with_reducible rfl)
            simp only [Act.put, List.setIfInBounds_toArray, List.set_cons_zero, List.set_cons_succ]
            refine wpAnyH_ready (rs := [13]) (by kernel_rfl) (by simp) (AllReadyH.cons (o := ({ dst := none, op := Go.Op.store 26 (Go.Operand.tmp 17) (Go.Operand.tmp 108), type := 0, pos := _, after := #[{ on := 10, ground := Go.Ground.data }, { on := 8, ground := Go.Ground.data }, { on := 12, ground := Go.Ground.chain }, { on := 0, ground := Go.Ground.phase }, { on := 1, ground := Go.Ground.phase }, { on := 2, ground := Go.Ground.phase }, { on := 3, ground := Go.Ground.phase }, { on := 4, ground := Go.Ground.phase }, { on := 5, ground := Go.Ground.phase }, { on := 6, ground := Go.Ground.phase }, { on := 7, ground := Go.Ground.phase }, { on := 8, ground := Go.Ground.phase }, { on := 9, ground := Go.Ground.phase }, { on := 10, ground := Go.Ground.phase }, { on := 11, ground := Go.Ground.phase }, { on := 12, ground := Go.Ground.phase }], guard := none } : Oper)) rfl (fun KK hK => ?_) AllReadyH.nil)
            have pb' : Blk ((WF.setCell ⟨U6.heap.size, 0, none⟩ (.int .i64 K)).setCell ⟨U6.heap.size, 1, none⟩ (.slice q1 q2 q3)) (wB.heap.size) 26 [.int .i64 0, .int .i64 0] := (pb.other (p := ⟨U6.heap.size, 0, none⟩) (blk_blk pa pb) _).other (p := ⟨U6.heap.size, 1, none⟩) (blk_blk pa pb) _
            obtain ⟨cB0, cB1, fB0, fB1⟩ := pb'.two
            obtain ⟨sB0, sB1⟩ := pb'.self
            go_simp
            refine hK.out _ _ (hS _ (bSet (bSet hBF (by omega)) (by omega))) (fun hHeld => ?_)
            clear hK
            try simp only [Act.put, List.setIfInBounds_toArray, List.set_cons_zero, List.set_cons_succ]
            refine wpAnyH_done (by kernel_rfl) ?_ _
            go_wp2
            go_meet
            exact nrel_fin (by omega) hBF pa pb hsF
          · go_simp
            have hB_3 := bcat2 hB_2 (balloc _ (.cells #[.int .i64 0, .slice none 0 0] 24))
            refine hK.out _ _ (hS _ hB_3) (fun hHeld => ?_)
            clear hK
            try simp only [Act.put, List.setIfInBounds_toArray, List.set_cons_zero, List.set_cons_succ]
            refine wpAnyH_ready (rs := [4]) (by kernel_rfl) (by simp) (AllReadyH.cons (o := ({ dst := some 105, op := Go.Op.call { callee := Go.Callee.value (Go.Operand.func 21), args := #[Go.Operand.tmp 101, Go.Operand.tmp 104], argTypes := #[24, 22] }, type := 42, pos := _, after := #[{ on := 0, ground := Go.Ground.data }, { on := 3, ground := Go.Ground.data }, { on := 3, ground := Go.Ground.chain }], guard := none } : Oper)) rfl (fun KK hK => ?_) AllReadyH.nil)
            go_simp
            refine (HQ3.out _ _ _ _ _ _ _ (bcat2 qsB.bel hB_3) (hsQB.below hB_3).sl (ha5.below (balloc _ _))).mono ?_
            rintro e6 U6 ⟨q1, q2, q3, x1, x2, x3, rfl, hs6, hl6⟩
            try go_wp2_with fail
            have hB_4 := bcat2 hB_3 hl6
            refine hK.out _ _ (hS _ hB_4) (fun hHeld => ?_)
            clear hK
            try simp only [Act.put, List.setIfInBounds_toArray, List.set_cons_zero, List.set_cons_succ]
            refine wpAnyH_take (i := 5) (oi := ({ dst := some 100, op := Go.Op.move (Go.Operand.tmp 105), type := 42, pos := _, after := #[{ on := 4, ground := Go.Ground.data }], guard := none } : Oper)) (v := ?_) rfl (by kernel_rfl) (by kernel_rfl) (by kernel_rfl) (fun _ _ _ h => h) (Or.inl ⟨by rfl, ?_⟩) (by assumption) ?_
            rotate_left
            · (intro w hSw; (try dsimp only at hSw); go_simp; try with_reducible rfl)
            simp only [Act.put, List.setIfInBounds_toArray, List.set_cons_zero, List.set_cons_succ]
            refine wpAnyH_take (i := 6) (oi := ({ dst := some 106, op := Go.Op.extract (Go.Operand.tmp 100) 0, type := 24, pos := _, after := #[{ on := 5, ground := Go.Ground.data }], guard := none } : Oper)) (v := ?_) rfl (by kernel_rfl) (by kernel_rfl) (by kernel_rfl) (fun _ _ _ h => h) (Or.inl ⟨by rfl, ?_⟩) (by assumption) ?_
            rotate_left
            · (intro w hSw; (try dsimp only at hSw); go_simp; try with_reducible rfl)
            simp only [Act.put, List.setIfInBounds_toArray, List.set_cons_zero, List.set_cons_succ]
            refine wpAnyH_take (i := 7) (oi := ({ dst := some 107, op := Go.Op.extract (Go.Operand.tmp 100) 1, type := 22, pos := _, after := #[{ on := 5, ground := Go.Ground.data }, { on := 11, ground := Go.Ground.gcOnly Go.Departure.lateStores }], guard := none } : Oper)) (v := ?_) rfl (by kernel_rfl) (by kernel_rfl) (by kernel_rfl) (fun _ _ _ h => h) (Or.inl ⟨by rfl, ?_⟩) (by assumption) ?_
            rotate_left
            · (intro w hSw; (try dsimp only at hSw); go_simp; try with_reducible rfl)
            simp only [Act.put, List.setIfInBounds_toArray, List.set_cons_zero, List.set_cons_succ]
            refine wpAnyH_take (i := 8) (oi := ({ dst := some 108, op := Go.Op.extract (Go.Operand.tmp 100) 2, type := 26, pos := _, after := #[{ on := 5, ground := Go.Ground.data }, { on := 12, ground := Go.Ground.gcOnly Go.Departure.lateStores }], guard := none } : Oper)) (v := ?_) rfl (by kernel_rfl) (by kernel_rfl) (by kernel_rfl) (fun _ _ _ h => h) (Or.inl ⟨by rfl, ?_⟩) (by assumption) ?_
            rotate_left
            · (intro w hSw; (try dsimp only at hSw); go_simp; try with_reducible rfl)
            simp only [Act.put, List.setIfInBounds_toArray, List.set_cons_zero, List.set_cons_succ]
            refine wpAnyH_ready (rs := [11]) (by kernel_rfl) (by simp) (AllReadyH.cons (o := ({ dst := none, op := Go.Op.store 24 (Go.Operand.tmp 15) (Go.Operand.tmp 106), type := 0, pos := _, after := #[{ on := 9, ground := Go.Ground.data }, { on := 6, ground := Go.Ground.data }, { on := 4, ground := Go.Ground.chain }, { on := 0, ground := Go.Ground.phase }, { on := 1, ground := Go.Ground.phase }, { on := 2, ground := Go.Ground.phase }, { on := 3, ground := Go.Ground.phase }, { on := 4, ground := Go.Ground.phase }, { on := 5, ground := Go.Ground.phase }, { on := 6, ground := Go.Ground.phase }, { on := 7, ground := Go.Ground.textOnly Go.Departure.lateStores }, { on := 8, ground := Go.Ground.textOnly Go.Departure.lateStores }, { on := 9, ground := Go.Ground.phase }, { on := 10, ground := Go.Ground.phase }], guard := none } : Oper)) rfl (fun KK hK => ?_) AllReadyH.nil)
            have h56 : Below U5.heap.size U5 U6 := bcat2 (balloc _ _) hl6
            have hU5 : wB.heap.size ≤ U5.heap.size := hB_2.size
            have hU6 : wB.heap.size ≤ U6.heap.size := hB_4.size
            have h6F : Below U6.heap.size U6 U6 := Below.refl _ U6
            have pb0 : Blk (wB.drew.alloc (.cells #[.int .i64 0, .int .i64 0] 26)) (wB.heap.size) 26 [.int .i64 0, .int .i64 0] := by
              exact blk0 (w := wB.drew) (T := 26) (.int .i64 0) (.int .i64 0)
            have pb : Blk U6 (wB.heap.size) 26 [.int .i64 0, .int .i64 0] := blk_below (blk_below (blk_below pb0 hl5) h56) h6F
            have pa0 : Blk (U5.alloc (.cells #[.int .i64 0, .slice none 0 0] 24)) (U5.heap.size) 24 [.int .i64 0, .slice none 0 0] := by
              exact blk0 (w := U5) (T := 24) (.int .i64 0) (.slice none 0 0)
            have pa : Blk U6 (U5.heap.size) 24 [.int .i64 0, .slice none 0 0] := blk_below (blk_below pa0 hl6) h6F
            have hBF : Below wB.heap.size wB U6 := hB_4
            have hlt0 : U5.heap.size < U5.heap.size + 1 := by omega
            have hsF : Sl ((U6.setCell ⟨U5.heap.size, 0, none⟩ (.int .i64 K)).setCell ⟨U5.heap.size, 1, none⟩ (.slice q1 q2 q3)) (.slice q1 q2 q3) TS' := (slF_set (slF_set (hs6.below h6F) (by rw [World.size_alloc]; omega)) (by rw [World.size_alloc]; omega)).sl
            obtain ⟨cA0, cA1, fA0, fA1⟩ := pa.two
            go_simp
            refine hK.out _ _ (hS _ (bSet (bSet hBF (by omega)) (by omega))) (fun hHeld => ?_)
            clear hK
            try simp only [Act.put, List.setIfInBounds_toArray, List.set_cons_zero, List.set_cons_succ]
            refine wpAnyH_take (i := 12) (oi := ({ dst := some 16, op := Go.Op.assign (Go.Operand.tmp 107), type := 22, pos := _, after := #[{ on := 7, ground := Go.Ground.data }, { on := 11, ground := Go.Ground.chain }, { on := 0, ground := Go.Ground.phase }, { on := 1, ground := Go.Ground.phase }, { on := 2, ground := Go.Ground.phase }, { on := 3, ground := Go.Ground.phase }, { on := 4, ground := Go.Ground.phase }, { on := 5, ground := Go.Ground.phase }, { on := 6, ground := Go.Ground.phase }, { on := 7, ground := Go.Ground.phase }, { on := 8, ground := Go.Ground.textOnly Go.Departure.lateStores }, { on := 9, ground := Go.Ground.phase }, { on := 10, ground := Go.Ground.phase }, { on := 11, ground := Go.Ground.phase }], guard := none } : Oper)) (v := ?_) rfl (by kernel_rfl) (by kernel_rfl) (by kernel_rfl) (fun _ _ _ h => h) (Or.inl ⟨by rfl, ?_⟩) (by assumption) ?_
            rotate_left
            · (intro w hSw; (try dsimp only at hSw); go_simp; try with_reducible rfl)
            simp only [Act.put, List.setIfInBounds_toArray, List.set_cons_zero, List.set_cons_succ]
            refine wpAnyH_ready (rs := [13]) (by kernel_rfl) (by simp) (AllReadyH.cons (o := ({ dst := none, op := Go.Op.store 26 (Go.Operand.tmp 17) (Go.Operand.tmp 108), type := 0, pos := _, after := #[{ on := 10, ground := Go.Ground.data }, { on := 8, ground := Go.Ground.data }, { on := 12, ground := Go.Ground.chain }, { on := 0, ground := Go.Ground.phase }, { on := 1, ground := Go.Ground.phase }, { on := 2, ground := Go.Ground.phase }, { on := 3, ground := Go.Ground.phase }, { on := 4, ground := Go.Ground.phase }, { on := 5, ground := Go.Ground.phase }, { on := 6, ground := Go.Ground.phase }, { on := 7, ground := Go.Ground.phase }, { on := 8, ground := Go.Ground.phase }, { on := 9, ground := Go.Ground.phase }, { on := 10, ground := Go.Ground.phase }, { on := 11, ground := Go.Ground.phase }, { on := 12, ground := Go.Ground.phase }], guard := none } : Oper)) rfl (fun KK hK => ?_) AllReadyH.nil)
            have pb' : Blk ((U6.setCell ⟨U5.heap.size, 0, none⟩ (.int .i64 K)).setCell ⟨U5.heap.size, 1, none⟩ (.slice q1 q2 q3)) (wB.heap.size) 26 [.int .i64 0, .int .i64 0] := (pb.other (p := ⟨U5.heap.size, 0, none⟩) (blk_blk pa pb) _).other (p := ⟨U5.heap.size, 1, none⟩) (blk_blk pa pb) _
            obtain ⟨cB0, cB1, fB0, fB1⟩ := pb'.two
            obtain ⟨sB0, sB1⟩ := pb'.self
            go_simp
            refine hK.out _ _ (hS _ (bSet (bSet hBF (by omega)) (by omega))) (fun hHeld => ?_)
            clear hK
            try simp only [Act.put, List.setIfInBounds_toArray, List.set_cons_zero, List.set_cons_succ]
            refine wpAnyH_done (by kernel_rfl) ?_ _
            go_wp2
            go_meet
            exact nrel_fin (by omega) hBF pa pb hsF
        · go_simp
          have hB_2 := bcat2 hB_1 (balloc _ (.cells #[.int .i64 0, .slice none 0 0] 24))
          refine hK.out _ _ (hS _ hB_2) (fun hHeld => ?_)
          clear hK
          try simp only [Act.put, List.setIfInBounds_toArray, List.set_cons_zero, List.set_cons_succ]
          refine wpAnyH_ready (rs := [3]) (by kernel_rfl) (by simp) (AllReadyH.cons (o := ({ dst := some 104, op := Go.Op.call { callee := Go.Callee.value (Go.Operand.func 27), args := #[Go.Operand.tmp 102, Go.Operand.tmp 103], argTypes := #[24, 51] }, type := 22, pos := _, after := #[{ on := 1, ground := Go.Ground.data }, { on := 2, ground := Go.Ground.data }], guard := none } : Oper)) rfl (fun KK hK => ?_) AllReadyH.nil)
          go_simp
          refine (HT2.out _ _ _ _ _ _ _ _ _ _ _ _ (bcat2 qsB.bel hB_2) (Boxed.below hKB hB_2) (Boxed.below hOB hB_2) (hsKB.below hB_2) (hsOB.below hB_2)).mono ?_
          rintro e5 U5 ⟨a1, a2, a3, rfl, ha5, hl5⟩
          try go_wp2_with fail
          have hB_3 := bcat2 hB_2 hl5
          refine hK.out _ _ (hS _ hB_3) (fun hHeld => ?_)
          clear hK
          try simp only [Act.put, List.setIfInBounds_toArray, List.set_cons_zero, List.set_cons_succ]
          refine wpAnyH_ready (rs := [4]) (by kernel_rfl) (by simp) (AllReadyH.cons (o := ({ dst := some 105, op := Go.Op.call { callee := Go.Callee.value (Go.Operand.func 21), args := #[Go.Operand.tmp 101, Go.Operand.tmp 104], argTypes := #[24, 22] }, type := 42, pos := _, after := #[{ on := 0, ground := Go.Ground.data }, { on := 3, ground := Go.Ground.data }, { on := 3, ground := Go.Ground.chain }], guard := none } : Oper)) rfl (fun KK hK => ?_) AllReadyH.nil)
          go_simp
          refine (HQ3.out _ _ _ _ _ _ _ (bcat2 qsB.bel hB_3) (hsQB.below hB_3).sl ha5).mono ?_
          rintro e6 U6 ⟨q1, q2, q3, x1, x2, x3, rfl, hs6, hl6⟩
          try go_wp2_with fail
          have hB_4 := bcat2 hB_3 hl6
          refine hK.out _ _ (hS _ hB_4) (fun hHeld => ?_)
          clear hK
          try simp only [Act.put, List.setIfInBounds_toArray, List.set_cons_zero, List.set_cons_succ]
          refine wpAnyH_take (i := 5) (oi := ({ dst := some 100, op := Go.Op.move (Go.Operand.tmp 105), type := 42, pos := _, after := #[{ on := 4, ground := Go.Ground.data }], guard := none } : Oper)) (v := ?_) rfl (by kernel_rfl) (by kernel_rfl) (by kernel_rfl) (fun _ _ _ h => h) (Or.inl ⟨by rfl, ?_⟩) (by assumption) ?_
          rotate_left
          · (intro w hSw; (try dsimp only at hSw); go_simp; try with_reducible rfl)
          simp only [Act.put, List.setIfInBounds_toArray, List.set_cons_zero, List.set_cons_succ]
          refine wpAnyH_take (i := 6) (oi := ({ dst := some 106, op := Go.Op.extract (Go.Operand.tmp 100) 0, type := 24, pos := _, after := #[{ on := 5, ground := Go.Ground.data }], guard := none } : Oper)) (v := ?_) rfl (by kernel_rfl) (by kernel_rfl) (by kernel_rfl) (fun _ _ _ h => h) (Or.inl ⟨by rfl, ?_⟩) (by assumption) ?_
          rotate_left
          · (intro w hSw; (try dsimp only at hSw); go_simp; try with_reducible rfl)
          simp only [Act.put, List.setIfInBounds_toArray, List.set_cons_zero, List.set_cons_succ]
          refine wpAnyH_take (i := 7) (oi := ({ dst := some 107, op := Go.Op.extract (Go.Operand.tmp 100) 1, type := 22, pos := _, after := #[{ on := 5, ground := Go.Ground.data }, { on := 11, ground := Go.Ground.gcOnly Go.Departure.lateStores }], guard := none } : Oper)) (v := ?_) rfl (by kernel_rfl) (by kernel_rfl) (by kernel_rfl) (fun _ _ _ h => h) (Or.inl ⟨by rfl, ?_⟩) (by assumption) ?_
          rotate_left
          · (intro w hSw; (try dsimp only at hSw); go_simp; try with_reducible rfl)
          simp only [Act.put, List.setIfInBounds_toArray, List.set_cons_zero, List.set_cons_succ]
          refine wpAnyH_take (i := 8) (oi := ({ dst := some 108, op := Go.Op.extract (Go.Operand.tmp 100) 2, type := 26, pos := _, after := #[{ on := 5, ground := Go.Ground.data }, { on := 12, ground := Go.Ground.gcOnly Go.Departure.lateStores }], guard := none } : Oper)) (v := ?_) rfl (by kernel_rfl) (by kernel_rfl) (by kernel_rfl) (fun _ _ _ h => h) (Or.inl ⟨by rfl, ?_⟩) (by assumption) ?_
          rotate_left
          · (intro w hSw; (try dsimp only at hSw); go_simp; try with_reducible rfl)
          simp only [Act.put, List.setIfInBounds_toArray, List.set_cons_zero, List.set_cons_succ]
          refine wpAnyH_ready (rs := [11]) (by kernel_rfl) (by simp) (AllReadyH.cons (o := ({ dst := none, op := Go.Op.store 24 (Go.Operand.tmp 15) (Go.Operand.tmp 106), type := 0, pos := _, after := #[{ on := 9, ground := Go.Ground.data }, { on := 6, ground := Go.Ground.data }, { on := 4, ground := Go.Ground.chain }, { on := 0, ground := Go.Ground.phase }, { on := 1, ground := Go.Ground.phase }, { on := 2, ground := Go.Ground.phase }, { on := 3, ground := Go.Ground.phase }, { on := 4, ground := Go.Ground.phase }, { on := 5, ground := Go.Ground.phase }, { on := 6, ground := Go.Ground.phase }, { on := 7, ground := Go.Ground.textOnly Go.Departure.lateStores }, { on := 8, ground := Go.Ground.textOnly Go.Departure.lateStores }, { on := 9, ground := Go.Ground.phase }, { on := 10, ground := Go.Ground.phase }], guard := none } : Oper)) rfl (fun KK hK => ?_) AllReadyH.nil)
          have h56 : Below U5.heap.size U5 U6 := hl6
          have hU5 : wB.heap.size ≤ U5.heap.size := hB_3.size
          have hU6 : wB.heap.size ≤ U6.heap.size := hB_4.size
          have h6F : Below U6.heap.size U6 U6 := Below.refl _ U6
          have pb0 : Blk (wB.drew.alloc (.cells #[.int .i64 0, .int .i64 0] 26)) (wB.heap.size) 26 [.int .i64 0, .int .i64 0] := by
            exact blk0 (w := wB.drew) (T := 26) (.int .i64 0) (.int .i64 0)
          have pb : Blk U6 (wB.heap.size) 26 [.int .i64 0, .int .i64 0] := blk_below (blk_below (blk_below (pb0.alloc _) hl5) h56) h6F
          have pa0 : Blk ((wB.drew.alloc (.cells #[.int .i64 0, .int .i64 0] 26)).alloc (.cells #[.int .i64 0, .slice none 0 0] 24)) (wB.heap.size + 1) 24 [.int .i64 0, .slice none 0 0] := by
            have h9 := blk0 (w := (wB.drew.alloc (.cells #[.int .i64 0, .int .i64 0] 26))) (T := 24) (.int .i64 0) (.slice none 0 0)
            rw [World.size_alloc] at h9
            exact h9
          have pa : Blk U6 (wB.heap.size + 1) 24 [.int .i64 0, .slice none 0 0] := blk_below (blk_below (blk_below pa0 hl5) h56) h6F
          have hBF : Below wB.heap.size wB U6 := hB_4
          have hlt0 : wB.heap.size + 1 < U5.heap.size := (blk_below pa0 hl5).lt
          have hsF : Sl ((U6.setCell ⟨wB.heap.size + 1, 0, none⟩ (.int .i64 K)).setCell ⟨wB.heap.size + 1, 1, none⟩ (.slice q1 q2 q3)) (.slice q1 q2 q3) TS' := (slF_set (slF_set (hs6.below h6F) hlt0) hlt0).sl
          obtain ⟨cA0, cA1, fA0, fA1⟩ := pa.two
          go_simp
          refine hK.out _ _ (hS _ (bSet (bSet hBF (by omega)) (by omega))) (fun hHeld => ?_)
          clear hK
          try simp only [Act.put, List.setIfInBounds_toArray, List.set_cons_zero, List.set_cons_succ]
          refine wpAnyH_take (i := 12) (oi := ({ dst := some 16, op := Go.Op.assign (Go.Operand.tmp 107), type := 22, pos := _, after := #[{ on := 7, ground := Go.Ground.data }, { on := 11, ground := Go.Ground.chain }, { on := 0, ground := Go.Ground.phase }, { on := 1, ground := Go.Ground.phase }, { on := 2, ground := Go.Ground.phase }, { on := 3, ground := Go.Ground.phase }, { on := 4, ground := Go.Ground.phase }, { on := 5, ground := Go.Ground.phase }, { on := 6, ground := Go.Ground.phase }, { on := 7, ground := Go.Ground.phase }, { on := 8, ground := Go.Ground.textOnly Go.Departure.lateStores }, { on := 9, ground := Go.Ground.phase }, { on := 10, ground := Go.Ground.phase }, { on := 11, ground := Go.Ground.phase }], guard := none } : Oper)) (v := ?_) rfl (by kernel_rfl) (by kernel_rfl) (by kernel_rfl) (fun _ _ _ h => h) (Or.inl ⟨by rfl, ?_⟩) (by assumption) ?_
          rotate_left
          · (intro w hSw; (try dsimp only at hSw); go_simp; try with_reducible rfl)
          simp only [Act.put, List.setIfInBounds_toArray, List.set_cons_zero, List.set_cons_succ]
          refine wpAnyH_ready (rs := [13]) (by kernel_rfl) (by simp) (AllReadyH.cons (o := ({ dst := none, op := Go.Op.store 26 (Go.Operand.tmp 17) (Go.Operand.tmp 108), type := 0, pos := _, after := #[{ on := 10, ground := Go.Ground.data }, { on := 8, ground := Go.Ground.data }, { on := 12, ground := Go.Ground.chain }, { on := 0, ground := Go.Ground.phase }, { on := 1, ground := Go.Ground.phase }, { on := 2, ground := Go.Ground.phase }, { on := 3, ground := Go.Ground.phase }, { on := 4, ground := Go.Ground.phase }, { on := 5, ground := Go.Ground.phase }, { on := 6, ground := Go.Ground.phase }, { on := 7, ground := Go.Ground.phase }, { on := 8, ground := Go.Ground.phase }, { on := 9, ground := Go.Ground.phase }, { on := 10, ground := Go.Ground.phase }, { on := 11, ground := Go.Ground.phase }, { on := 12, ground := Go.Ground.phase }], guard := none } : Oper)) rfl (fun KK hK => ?_) AllReadyH.nil)
          have pb' : Blk ((U6.setCell ⟨wB.heap.size + 1, 0, none⟩ (.int .i64 K)).setCell ⟨wB.heap.size + 1, 1, none⟩ (.slice q1 q2 q3)) (wB.heap.size) 26 [.int .i64 0, .int .i64 0] := (pb.other (p := ⟨wB.heap.size + 1, 0, none⟩) (blk_blk pa pb) _).other (p := ⟨wB.heap.size + 1, 1, none⟩) (blk_blk pa pb) _
          obtain ⟨cB0, cB1, fB0, fB1⟩ := pb'.two
          obtain ⟨sB0, sB1⟩ := pb'.self
          go_simp
          refine hK.out _ _ (hS _ (bSet (bSet hBF (by omega)) (by omega))) (fun hHeld => ?_)
          clear hK
          try simp only [Act.put, List.setIfInBounds_toArray, List.set_cons_zero, List.set_cons_succ]
          refine wpAnyH_done (by kernel_rfl) ?_ _
          go_wp2
          go_meet
          exact nrel_fin (by omega) hBF pa pb hsF
    case rest =>
      obtain ⟨b15, b17, q1, q2, q3, rfl, rfl, hS15, hF17, hsS, hby⟩ := hcut
      have qsC := qsB.below hby
      have hFC := blk_below hFB hby
      have hQC := blk_below hQB hby
      have hRC := blk_below hRB hby
      have hsQC := hsQB.below hby
      have hsRC := hsRB.below hby
      clear qsB hFB hQB hRB hsQB hsRB hKB hOB hsKB hsOB hby hS hS0 HT2 HQ3
      obtain ⟨c0, c1, _, _⟩ := hS15.two
      obtain ⟨d0, d1, _, _⟩ := hRC.two
      obtain ⟨e0, e1, _, _⟩ := hF17.two
      go_wp2_with fail
      clear c0 c1 d0 d1 e0 e1
      refine (HIS.out _ _ _ _ _ _ _ qsC.bel hsS hsRC).mono ?_
      rintro x wD ⟨i1, i2, i3, rfl, hbD⟩
      have qsD := qsC.below hbD
      have hFD := blk_below hFC hbD
      have hQD := blk_below hQC hbD
      have hsQD := hsQC.below hbD
      have hF17D := blk_below hF17 hbD
      clear qsC hFC hQC hRC hsQC hsRC hS15 hF17 hsS hbD HIS
      obtain ⟨e0, e1, fe0, fe1⟩ := hF17D.two
      obtain ⟨z0, z1⟩ := hF17D.self
      obtain ⟨c0, c1, _, _⟩ := qsD.x.two
      go_wp2_with fail
      clear e0 e1 fe0 fe1 z0 z1 c0 c1 hF17D
      rcases hway with ⟨h24, HA1, HA2⟩ | ⟨h24, HA1, HA2⟩
      · refine (HA1.out _ qsD.bel).mono ?_
        rintro x wE ⟨rfl, hbE⟩
        have hXE := blk_below qsD.x hbE
        have hF8E := blk_below qsD.f8 hbE
        have hFE := blk_below hFD hbE
        have hQE := blk_below hQD hbE
        have hsQE := hsQD.below hbE
        have hBE := bcat2 qsD.bel hbE
        clear hFD hQD hsQD hbE
        have hne : b10 ≠ w2.heap.size + 1 := by omega
        have hBE' : Below w.heap.size w ((wE.setCell ⟨w2.heap.size + 1, 0, none⟩ (.int .i64 2)).setCell ⟨w2.heap.size + 1, 1, none⟩ (.int .i64 0)) := bSet (bSet hBE (by omega)) (by omega)
        have hX' : BoxG ((wE.setCell ⟨w2.heap.size + 1, 0, none⟩ (.int .i64 2)).setCell ⟨w2.heap.size + 1, 1, none⟩ (.int .i64 0)) w.heap.size n (.slice v1 v2 v3) := (hXE.other (p := ⟨w2.heap.size + 1, 0, none⟩) (blk_blk hXE hF8E).symm _).other (p := ⟨w2.heap.size + 1, 1, none⟩) (blk_blk hXE hF8E).symm _
        have hQ' : BoxG ((wE.setCell ⟨w2.heap.size + 1, 0, none⟩ (.int .i64 2)).setCell ⟨w2.heap.size + 1, 1, none⟩ (.int .i64 0)) w7.heap.size KQ (.slice r1 r2 r3) := (hQE.other (p := ⟨w2.heap.size + 1, 0, none⟩) (blk_blk hQE hF8E).symm _).other (p := ⟨w2.heap.size + 1, 1, none⟩) (blk_blk hQE hF8E).symm _
        have hF' : Blk ((wE.setCell ⟨w2.heap.size + 1, 0, none⟩ (.int .i64 2)).setCell ⟨w2.heap.size + 1, 1, none⟩ (.int .i64 0)) b10 26 [.int .i64 0, .int .i64 0] := (hFE.other (p := ⟨w2.heap.size + 1, 0, none⟩) hne _).other (p := ⟨w2.heap.size + 1, 1, none⟩) hne _
        have h8' : Blk ((wE.setCell ⟨w2.heap.size + 1, 0, none⟩ (.int .i64 2)).setCell ⟨w2.heap.size + 1, 1, none⟩ (.int .i64 0)) (w2.heap.size + 1) 26 [.int .i64 2, .int .i64 0] := (hF8E.set 0 _).set 1 _
        have hs' := slF_set (o := 1) (x := .int .i64 0) (slF_set (o := 0) (x := .int .i64 2) hsQE h86) h86
        obtain ⟨e0, e1, fe0, fe1⟩ := hF8E.two
        obtain ⟨d0, d1, _, _⟩ := hQ'.two
        clear hXE hF8E hFE hQE hsQE hBE
        obtain ⟨wF, ewF⟩ : ∃ wF, wF = (wE.setCell ⟨w2.heap.size + 1, 0, none⟩ (.int .i64 2)).setCell ⟨w2.heap.size + 1, 1, none⟩ (.int .i64 0) := ⟨_, rfl⟩
        go_wp2_with fail
        rw [← ewF] at hBE' hX' hQ' hF' h8' hs' ⊢
        clear ewF e0 e1 fe0 fe1 d0 d1
        refine (HA2.out _ _ _ _ hBE' hs'.sl).mono ?_
        rintro x wG ⟨f1, f2, f3, fc, fi, rfl, hbG⟩
        have hXG := blk_below hX' hbG
        have hFG := blk_below hF' hbG
        have h8G := blk_below h8' hbG
        have hBG := bcat2 hBE' hbG
        have hBH : Below w.heap.size w ((wG.setCell ⟨b10, 0, none⟩ (.int .i64 fc)).setCell ⟨b10, 1, none⟩ (.int .i64 fi)) := bSet (bSet hBG (by omega)) (by omega)
        have hXH : BoxG ((wG.setCell ⟨b10, 0, none⟩ (.int .i64 fc)).setCell ⟨b10, 1, none⟩ (.int .i64 fi)) w.heap.size n (.slice v1 v2 v3) := (hXG.other (p := ⟨b10, 0, none⟩) (blk_blk hXG hFG).symm _).other (p := ⟨b10, 1, none⟩) (blk_blk hXG hFG).symm _
        have h8H : Blk ((wG.setCell ⟨b10, 0, none⟩ (.int .i64 fc)).setCell ⟨b10, 1, none⟩ (.int .i64 fi)) (w2.heap.size + 1) 26 [.int .i64 2, .int .i64 0] := (h8G.other (p := ⟨b10, 0, none⟩) hne.symm _).other (p := ⟨b10, 1, none⟩) hne.symm _
        obtain ⟨e0, e1, fe0, fe1⟩ := hFG.two
        obtain ⟨c0, c1, _, _⟩ := hXH.two
        obtain ⟨d0, d1, _, _⟩ := h8H.two
        have h24i : (24 : Int) < (n : Int) := by omega
        go_wp2
        go_ret
        exact ⟨rfl, hBH⟩
      · refine (HA1.out _ qsD.bel).mono ?_
        rintro x wE ⟨g1, g3, ls, rfl, hls, hll, hlf, hbE⟩
        have qsE := qsD.below hbE
        have hFE := blk_below hFD hbE
        have hQE := blk_below hQD hbE
        have hsQE := hsQD.below hbE
        clear qsD hFD hQD hsQD hbE
        obtain ⟨e0, e1, fe0, fe1⟩ := qsE.f8.two
        obtain ⟨z0, z1⟩ := qsE.f8.self
        obtain ⟨d0, d1, _, _⟩ := hQE.two
        go_wp2_with fail
        clear e0 e1 fe0 fe1 z0 z1 d0 d1
        refine (HA2.out _ _ _ _ qsE.bel hsQE.sl).mono ?_
        rintro x wF ⟨f1, f3, rfl, hbF⟩
        have qsF := qsE.below hbF
        have hFF := blk_below hFE hbF
        have hlsF := hls.below hbF
        clear qsE hFE hQE hsQE hls hbF HA1 HA2
        obtain ⟨e0, e1, fe0, fe1⟩ := hFF.two
        obtain ⟨z0, z1⟩ := hFF.self
        obtain ⟨d0, d1, _, _⟩ := qsF.f8.two
        obtain ⟨la, lc, lpb, lpo, hlv, hla, hlr, hlp, hl1, hl2⟩ := hlsF
        injection hlv with hla' _ hlc'
        subst hla' hlc'
        go_wp2
        clear e0 e1 fe0 fe1 z0 z1 d0 d1
        have HLF := hide hlf
        clear hlf
        have g0 := qsF.h.cell
        go_loopw [20, 21] (fun c i wr => ∃ k : Nat, k ≤ ls.length ∧ i = .int .i64 k ∧ c = .int .i64 (((ls.take k).filter fun l => NL.all fun a => decide (a ∈ l)).length : Nat) ∧ Below wF.heap.size wF wr) (fun _ i _ => ls.length - (intOf i).toNat)
        case atStart => exact ⟨0, Nat.zero_le _, rfl, by simp, Below.refl _ _⟩
        case round =>
          obtain ⟨k, hk, rfl, rfl, hB⟩ := hrel
          by_cases hlt : k < ls.length
          · obtain ⟨xv, hxc, hxs⟩ := hlr k hlt
            obtain rfl := hla (by omega)
            have hki : (k : Int) < (ls.length : Int) := by omega
            obtain ⟨xa, xl, xc, rfl⟩ := hxs.isSlice
            have HPT := hide (fun W (h : Below wF.heap.size wF W) => parted_ok (.slice n1 n2 n3) (.slice xa xl xc) NL (ls[k]?.getD []) W (qsF.sn.below h) (hxs.below h))
            have HE := hide (show ls.take (k + 1) = ls.take k ++ [ls[k]?.getD []] by rw [List.take_add_one, List.getElem?_eq_getElem hlt]; rfl)
            have hcl : ((ls.take k).filter fun l => NL.all fun a => decide (a ∈ l)).length ≤ k := Nat.le_trans (List.length_filter_le _ _) (by rw [List.length_take]; exact Nat.min_le_left _ _)
            obtain ⟨bb, hbb⟩ : ∃ bb, bb = (NL.all fun a => decide (a ∈ ls[k]?.getD [])) := ⟨_, rfl⟩
            rw [← hbb] at HPT
            have HF2 := hide (show ((ls.take (k + 1)).filter fun l => NL.all fun a => decide (a ∈ l)).length = ((ls.take k).filter fun l => NL.all fun a => decide (a ∈ l)).length + (if bb then 1 else 0) by
              rw [HE.out, List.filter_append, List.length_append]
              simp only [List.filter_cons, List.filter_nil]
              rw [← hbb]
              cases bb <;> rfl)
            have r0 := below_cell hB g0
            have rx := below_cell hB hxc
            have hS : ∀ W9, Below wr.heap.size wr W9 → ((fun W9 => Below wr.heap.size wr W9 ∧ W9.cell? ⟨w2.heap.size, 0, none⟩ = some (.slice n1 n2 n3) ∧ W9.cell? ⟨lpb, lpo + k, none⟩ = some (.slice xa xl xc)) W9) := fun W9 h => ⟨h, below_cell h r0, below_cell h rx⟩
            have hS0 := hS _ (bdrew (Below.refl _ wr))
            clear hxs hbb
            generalize ((ls.take k).filter fun l => NL.all fun a => decide (a ∈ l)).length = cn at *
            go_wp2_with fail
            clear r0 rx
            refine wp_region_held_drew (S := (fun W9 => Below wr.heap.size wr W9 ∧ W9.cell? ⟨w2.heap.size, 0, none⟩ = some (.slice n1 n2 n3) ∧ W9.cell? ⟨lpb, lpo + k, none⟩ = some (.slice xa xl xc))) (by kernel_rfl) hS0 (fun hHeld => ?_)
            refine wpAnyH_take (i := 0) (oi := ({ dst := some 155, op := Go.Op.load 22 (Go.Operand.tmp 7), type := 22, pos := _, after := #[], guard := none } : Oper)) (v := ?_) rfl (by kernel_rfl) (by kernel_rfl) (by kernel_rfl) (fun _ _ _ h => h) (Or.inl ⟨by rfl, ?_⟩) (by assumption) ?_
            rotate_left
            · (intro w hSw; (try dsimp only at hSw); go_simp; try with_reducible rfl)
            simp only [Act.put, List.setIfInBounds_toArray, List.set_cons_zero, List.set_cons_succ]
            refine wpAnyH_take (i := 1) (oi := ({ dst := some 156, op := Go.Op.move (Go.Operand.tmp 18), type := 38, pos := _, after := #[], guard := none } : Oper)) (v := ?_) rfl (by kernel_rfl) (by kernel_rfl) (by kernel_rfl) (fun _ _ _ h => h) (Or.inl ⟨by rfl, ?_⟩) (by assumption) ?_
            rotate_left
            · (intro w hSw; (try dsimp only at hSw); go_simp; try with_reducible rfl)
            simp only [Act.put, List.setIfInBounds_toArray, List.set_cons_zero, List.set_cons_succ]
            refine wpAnyH_take (i := 2) (oi := ({ dst := some 157, op := Go.Op.move (Go.Operand.tmp 21), type := 3, pos := _, after := #[], guard := none } : Oper)) (v := ?_) rfl (by kernel_rfl) (by kernel_rfl) (by kernel_rfl) (fun _ _ _ h => h) (Or.inl ⟨by rfl, ?_⟩) (by assumption) ?_
            rotate_left
            · (intro w hSw; (try dsimp only at hSw); go_simp; try with_reducible rfl)
            simp only [Act.put, List.setIfInBounds_toArray, List.set_cons_zero, List.set_cons_succ]
            refine wpAnyH_take (i := 3) (oi := ({ dst := some 158, op := Go.Op.indexAddr 38 (Go.Operand.tmp 156) (Go.Operand.tmp 157), type := 0, pos := _, after := #[{ on := 1, ground := Go.Ground.data }, { on := 2, ground := Go.Ground.data }], guard := none } : Oper)) (v := ?_) rfl (by kernel_rfl) (by kernel_rfl) (by kernel_rfl) (fun _ _ _ h => h) (Or.inl ⟨by rfl, ?_⟩) (by assumption) ?_
            rotate_left
            · (intro w hSw; (try dsimp only at hSw); go_simp; try with_reducible rfl)
            simp only [Act.put, List.setIfInBounds_toArray, List.set_cons_zero, List.set_cons_succ]
            refine wpAnyH_take (i := 4) (oi := ({ dst := some 159, op := Go.Op.load 22 (Go.Operand.tmp 158), type := 22, pos := _, after := #[{ on := 3, ground := Go.Ground.data }], guard := none } : Oper)) (v := ?_) rfl (by kernel_rfl) (by kernel_rfl) (by kernel_rfl) (fun _ _ _ h => h) (Or.inl ⟨by rfl, ?_⟩) (by assumption) ?_
            rotate_left
            · (intro w hSw; (try dsimp only at hSw); go_simp; try with_reducible rfl)
            simp only [Act.put, List.setIfInBounds_toArray, List.set_cons_zero, List.set_cons_succ]
            refine wpAnyH_ready (rs := [5]) (by kernel_rfl) (by simp) (AllReadyH.cons (o := ({ dst := some 160, op := Go.Op.call { callee := Go.Callee.value (Go.Operand.func 36), args := #[Go.Operand.tmp 155, Go.Operand.tmp 159], argTypes := #[22, 22] }, type := 4, pos := _, after := #[{ on := 0, ground := Go.Ground.data }, { on := 4, ground := Go.Ground.data }], guard := none } : Oper)) rfl (fun KK hK => ?_) AllReadyH.nil)
            go_simp
            refine (HPT.out _ (bcat2 hB (And.left hHeld))).mono ?_
            rintro e1 U1 ⟨rfl, rfl⟩
            try go_wp2_with fail
            have hb1 := And.left hHeld
            refine hK.out _ _ (hS _ hb1) (fun hHeld => ?_)
            clear hK
            try simp only [Act.put, List.setIfInBounds_toArray, List.set_cons_zero, List.set_cons_succ]
            refine wpAnyH_done (by kernel_rfl) ?_ _
            cases bb with
            | true =>
              go_wp2
              go_roundw
              case rel => exact ⟨k + 1, by omega, by go_num, by rw [HF2.out]; go_num, bcat2 hB hb1⟩
              case measure => simp [intOf]; omega
            | false =>
              go_wp2
              go_roundw
              case rel => exact ⟨k + 1, by omega, by go_num, by rw [HF2.out]; rfl, bcat2 hB hb1⟩
              case measure => simp [intOf]; omega
          · have hki : ¬ (k : Int) < (ls.length : Int) := by omega
            have hkk : k = ls.length := by omega
            subst hkk
            rw [List.take_length, HLF.out]
            go_wp2
            go_ret
            exact ⟨rfl, bcat2 qsF.bel hB⟩
end Go.Proofs.YtlhjeenijcokoaaGreatDoor
