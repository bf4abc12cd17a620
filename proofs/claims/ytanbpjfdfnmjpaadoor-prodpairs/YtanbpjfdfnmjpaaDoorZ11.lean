/- The law ProdPairs: its walk, what it calls as premises. The law ProdDirect: its walk, what it calls as premises. -/
import Derived.Test.YtanbpjfdfnmjpaaDoorZ10
import Derived.Test.YtanbpjfdfnmjpaaDoorZ9
namespace Go.Proofs.YtanbpjfdfnmjpaaDoor
open Go Go.RowKit

set_option maxRecDepth 100000 in
set_option maxHeartbeats 4000000 in
theorem ppair_bad (N M c i : Int) (v1 : Option Addr) (v2 v3 : Nat) (y1 : Option Addr) (y2 y3 : Nat) (w : World) (hc : c ≠ 0)
    (HBE : Hid (∀ W, Below w.heap.size w W → Calls Tryd.prog 6 #[] W fun x W' => x = .returned (.bool true) ∧ Below W.heap.size W W'))
    (HPR : Hid (∀ W, Below w.heap.size w W → Calls Tryd.prog 25 #[.agg #[.int .i64 N, .slice v1 v2 v3], .agg #[.int .i64 M, .slice y1 y2 y3]] W fun x W' => x = .returned (.tuple #[.agg #[.int .i64 0, .slice none 0 0], .agg #[.int .i64 c, .int .i64 i]]) ∧ Below W.heap.size W W')) :
    Calls Tryd.prog 5 #[.agg #[.int .i64 N, .slice v1 v2 v3], .agg #[.int .i64 M, .slice y1 y2 y3]] w fun x w' => x = .returned (.bool true) ∧ Below w.heap.size w w' := by
  have hcb : (c != 0) = true := by simpa using hc
  clear hc
  obtain ⟨w0, hw0⟩ : ∃ w0, w0 = (w.alloc (.cells #[.int .i64 N, .slice v1 v2 v3] 24)).alloc (.cells #[.int .i64 M, .slice y1 y2 y3] 24) := ⟨_, rfl⟩
  have hB0 : Below w.heap.size w w0 := by rw [hw0]; exact (balloc w _).alloc (by simp) _
  have hX0 : Blk w0 w.heap.size 24 [.int .i64 N, .slice v1 v2 v3] := by rw [hw0]; exact (blk0 _ _).alloc _
  have hY0 : Blk w0 (w.heap.size + 1) 24 [.int .i64 M, .slice y1 y2 y3] := by
    rw [hw0]
    have := blk0 (w := w.alloc (.cells #[.int .i64 N, .slice v1 v2 v3] 24)) (T := 24) (.int .i64 M) (.slice y1 y2 y3)
    rwa [World.size_alloc] at this
  go_enter Tryd.func5, Tryd.ntmps5
  go_wp2_with fail
  rw [← hw0]
  clear hw0
  refine (HBE.out _ hB0).mono ?_
  rintro x1 w1 ⟨rfl, hb1⟩
  have hB1 := bcat2 hB0 hb1
  have hX1 := blk_below hX0 hb1
  have hY1 := blk_below hY0 hb1
  clear hX0 hY0 hb1
  obtain ⟨c0, c1, _, _⟩ := hX1.two
  obtain ⟨d0, d1, _, _⟩ := hY1.two
  go_wp2_with fail
  refine (HPR.out _ hB1).mono ?_
  rintro x2 w2 ⟨rfl, hb2⟩
  clear c0 c1 d0 d1
  obtain ⟨w3, hw3⟩ : ∃ w3, w3 = (w2.alloc (.cells #[.int .i64 0, .slice none 0 0] 24)).alloc (.cells #[.int .i64 c, .int .i64 i] 28) := ⟨_, rfl⟩
  have hb3 : Below w2.heap.size w2 w3 := by rw [hw3]; exact (balloc w2 _).alloc (by simp) _
  have hF3 : Blk w3 (w2.heap.size + 1) 28 [.int .i64 c, .int .i64 i] := by
    rw [hw3]
    have := blk0 (w := w2.alloc (.cells #[.int .i64 0, .slice none 0 0] 24)) (T := 28) (.int .i64 c) (.int .i64 i)
    rwa [World.size_alloc] at this
  have hBz := bcat2 hB1 (bcat2 hb2 hb3)
  obtain ⟨f0, f1, _, _⟩ := hF3.two
  rw [hw3] at f0 f1
  go_wp2
  go_ret
  rw [← hw3]
  exact ⟨by simp, hBz⟩

set_option maxRecDepth 100000 in
set_option maxHeartbeats 8000000 in
theorem ppair_good (n m e d q : Nat) (v1 : Option Addr) (v2 v3 : Nat) (y1 : Option Addr) (y2 y3 : Nat) (w : World) (hq : (n : Int) * (m : Int) = (q : Int)) (hq6 : q ≤ 60)
    (PP AP : World → Value → Prop) (HPU : Hid (∀ W W' u, PP W u → Below W.heap.size W W' → PP W' u)) (HAU : Hid (∀ W W' u, AP W u → Below W.heap.size W W' → AP W' u)) (BP : World → Value → Prop)
    (HBE : Hid (∀ W, Below w.heap.size w W → Calls Tryd.prog 6 #[] W fun x W' => x = .returned (.bool true) ∧ Below W.heap.size W W'))
    (HPR : Hid (∀ W, Below w.heap.size w W → Calls Tryd.prog 25 #[.agg #[.int .i64 n, .slice v1 v2 v3], .agg #[.int .i64 m, .slice y1 y2 y3]] W fun x W' => ∃ p1 p2 p3, x = .returned (.tuple #[.agg #[.int .i64 q, .slice p1 p2 p3], .agg #[.int .i64 0, .int .i64 0]]) ∧ PP W' (.slice p1 p2 p3) ∧ Below W.heap.size W W'))
    (HTW : Hid (∀ W, Below w.heap.size w W → Calls Tryd.prog 10 #[.agg #[.int .i64 n, .slice v1 v2 v3], .agg #[.int .i64 m, .slice y1 y2 y3]] W fun x W' => x = .returned (.agg #[.int .i64 0, .int .i64 0]) ∧ Below W.heap.size W W'))
    (HE1 : Hid (∀ W, Below w.heap.size w W → Calls Tryd.prog 26 #[.agg #[.int .i64 n, .slice v1 v2 v3]] W fun x W' => x = .returned (.int .i64 e) ∧ Below W.heap.size W W'))
    (HE2 : Hid (∀ W, Below w.heap.size w W → Calls Tryd.prog 26 #[.agg #[.int .i64 m, .slice y1 y2 y3]] W fun x W' => x = .returned (.int .i64 d) ∧ Below W.heap.size W W'))
    (HTA : Hid (∀ W u hb db, Below w.heap.size w W → Blk W hb 24 [.int .i64 m, .slice y1 y2 y3] → Boxed W db 3 (.int .i64 d) → Calls Tryd.prog 27 #[.agg #[.int .i64 q, u], .func (.func 28) #[] #[.pointer (some ⟨hb, 0, none⟩), .pointer (some ⟨db, 0, none⟩)]] W fun x W' => ∃ a1 a2 a3, x = .returned (.slice a1 a2 a3) ∧ AP W' (.slice a1 a2 a3) ∧ Below W.heap.size W W'))
    (HTB : Hid (∀ W u hb eb, Below w.heap.size w W → Blk W hb 24 [.int .i64 m, .slice y1 y2 y3] → Boxed W eb 3 (.int .i64 e) → Calls Tryd.prog 27 #[.agg #[.int .i64 q, u], .func (.func 29) #[] #[.pointer (some ⟨hb, 0, none⟩), .pointer (some ⟨eb, 0, none⟩)]] W fun x W' => ∃ a1 a2 a3, x = .returned (.slice a1 a2 a3) ∧ BP W' (.slice a1 a2 a3) ∧ Below W.heap.size W W'))
    (HDI : Hid (∀ W u a b, Below w.heap.size w W → PP W u → AP W a → BP W b → Calls Tryd.prog 19 #[.agg #[.int .i64 q, u], a, b] W fun x W' => x = .returned (.tuple #[.bool true, .agg #[.int .i64 0, .int .i64 0]]) ∧ Below W.heap.size W W')) :
    Calls Tryd.prog 5 #[.agg #[.int .i64 n, .slice v1 v2 v3], .agg #[.int .i64 m, .slice y1 y2 y3]] w fun x w' => x = .returned (.bool true) ∧ Below w.heap.size w w' := by
  have hwq : IntKind.i64.wrap (q : Int) = (q : Int) := by rw [IntKind.wrap_i64]; omega
  obtain ⟨w0, hw0⟩ : ∃ w0, w0 = (w.alloc (.cells #[.int .i64 n, .slice v1 v2 v3] 24)).alloc (.cells #[.int .i64 m, .slice y1 y2 y3] 24) := ⟨_, rfl⟩
  have hB0 : Below w.heap.size w w0 := by rw [hw0]; exact (balloc w _).alloc (by simp) _
  have hX0 : Blk w0 w.heap.size 24 [.int .i64 n, .slice v1 v2 v3] := by rw [hw0]; exact (blk0 _ _).alloc _
  have hY0 : Blk w0 (w.heap.size + 1) 24 [.int .i64 m, .slice y1 y2 y3] := by
    rw [hw0]
    have := blk0 (w := w.alloc (.cells #[.int .i64 n, .slice v1 v2 v3] 24)) (T := 24) (.int .i64 m) (.slice y1 y2 y3)
    rwa [World.size_alloc] at this
  go_enter Tryd.func5, Tryd.ntmps5
  go_wp2_with fail
  rw [← hw0]
  clear hw0
  refine (HBE.out _ hB0).mono ?_
  rintro x1 w1 ⟨rfl, hb1⟩
  have hB1 := bcat2 hB0 hb1
  have hX1 := blk_below hX0 hb1
  have hY1 := blk_below hY0 hb1
  clear hX0 hY0 hb1
  obtain ⟨c0, c1, _, _⟩ := hX1.two
  obtain ⟨d0, d1, _, _⟩ := hY1.two
  go_wp2_with fail
  refine (HPR.out _ hB1).mono ?_
  rintro x2 w2 ⟨p1, p2, p3, rfl, hP2, hb2⟩
  clear c0 c1 d0 d1
  obtain ⟨w3, hw3⟩ : ∃ w3, w3 = (w2.alloc (.cells #[.int .i64 q, .slice p1 p2 p3] 24)).alloc (.cells #[.int .i64 0, .int .i64 0] 28) := ⟨_, rfl⟩
  have hb3 : Below w2.heap.size w2 w3 := by rw [hw3]; exact (balloc w2 _).alloc (by simp) _
  have hQ3 : Blk w3 w2.heap.size 24 [.int .i64 q, .slice p1 p2 p3] := by rw [hw3]; exact (blk0 _ _).alloc _
  have hF3 : Blk w3 (w2.heap.size + 1) 28 [.int .i64 0, .int .i64 0] := by
    rw [hw3]
    have := blk0 (w := w2.alloc (.cells #[.int .i64 q, .slice p1 p2 p3] 24)) (T := 28) (.int .i64 0) (.int .i64 0)
    rwa [World.size_alloc] at this
  have hP3 := HPU.out _ _ _ hP2 hb3
  have hb13 := bcat2 hb2 hb3
  have hB3 := bcat2 hB1 hb13
  have hX3 := blk_below hX1 hb13
  have hY3 := blk_below hY1 hb13
  clear hP2 hb2 hb3 hb13 hX1 hY1 hB1
  obtain ⟨f0, f1, _, _⟩ := hF3.two
  obtain ⟨q0, q1, _, _⟩ := hQ3.two
  obtain ⟨c0, c1, _, _⟩ := hX3.two
  obtain ⟨d0, d1, _, _⟩ := hY3.two
  rw [hw3] at f0 f1 q0 q1 c0 c1 d0 d1
  go_wp2_with fail
  rw [← hw3]
  clear f0 f1 q0 q1 c0 c1 d0 d1 hw3
  refine (HTW.out _ hB3).mono ?_
  rintro x4 w7 ⟨rfl, hb7⟩
  have hB7 := bcat2 hB3 hb7
  have hX7 := blk_below hX3 hb7
  have hY7 := blk_below hY3 hb7
  have hQ7 := blk_below hQ3 hb7
  have hF7 := blk_below hF3 hb7
  have hP7 := HPU.out _ _ _ hP3 hb7
  clear hX3 hY3 hQ3 hF3 hP3 hB3 hb7
  generalize w2.heap.size = pb at *
  obtain ⟨q0, q1, _, _⟩ := hQ7.two
  obtain ⟨c0, c1, _, _⟩ := hX7.two
  obtain ⟨d0, d1, _, _⟩ := hY7.two
  have hfd := field27 0 0 w7
  go_wp2_with fail
  clear q0 q1 hfd
  have hS : ∀ W, Below w7.heap.size w7 W → (Below w7.heap.size w7 W ∧ W.cell? ⟨w.heap.size, 0, none⟩ = some (.int .i64 n) ∧ W.cell? ⟨w.heap.size, 1, none⟩ = some (.slice v1 v2 v3) ∧ W.cell? ⟨w.heap.size + 1, 0, none⟩ = some (.int .i64 m) ∧ W.cell? ⟨w.heap.size + 1, 1, none⟩ = some (.slice y1 y2 y3)) := fun W h => ⟨h, below_cell h c0, below_cell h c1, below_cell h d0, below_cell h d1⟩
  have hBc : Below w7.heap.size w7 w7.drew := bdrew (Below.refl _ _)
  have hS0 := hS _ hBc
  clear c0 c1 d0 d1
  go_cut [7, 8] (fun s7 s8 wx => ∃ eb db, s7 = .pointer (some ⟨eb, 0, none⟩) ∧ s8 = .pointer (some ⟨db, 0, none⟩) ∧ Boxed wx eb 3 (.int .i64 e) ∧ Boxed wx db 3 (.int .i64 d) ∧ Below w7.heap.size w7 wx)
  case first =>
    clear HBE HPR HTW HTA HTB HDI
    refine wp_region_held_drew (S := fun W => Below w7.heap.size w7 W ∧ W.cell? ⟨w.heap.size, 0, none⟩ = some (.int .i64 n) ∧ W.cell? ⟨w.heap.size, 1, none⟩ = some (.slice v1 v2 v3) ∧ W.cell? ⟨w.heap.size + 1, 0, none⟩ = some (.int .i64 m) ∧ W.cell? ⟨w.heap.size + 1, 1, none⟩ = some (.slice y1 y2 y3)) (by kernel_rfl) hS0 (fun hHeld => ?_)
    generalize w7.drew = wd at *
    refine wpAnyH_take (i := 0) (oi := ({ dst := some 41, op := Go.Op.load 24 (Go.Operand.tmp 2), type := 24, pos := _, after := #[], guard := none } : Oper)) (v := ?_) rfl (by kernel_rfl) (by kernel_rfl) (by kernel_rfl) (fun _ _ _ h => h) (Or.inl ⟨by rfl, ?_⟩) (by assumption) ?_
    rotate_left
    · (intro w hSw; (try dsimp only at hSw); go_simp; try with_reducible rfl)
    simp only [Act.put, List.setIfInBounds_toArray, List.set_cons_zero, List.set_cons_succ]
    refine wpAnyH_take (i := 2) (oi := ({ dst := some 43, op := Go.Op.load 24 (Go.Operand.tmp 3), type := 24, pos := _, after := #[], guard := none } : Oper)) (v := ?_) rfl (by kernel_rfl) (by kernel_rfl) (by kernel_rfl) (fun _ _ _ h => h) (Or.inl ⟨by rfl, ?_⟩) (by assumption) ?_
    rotate_left
    · (intro w hSw; (try dsimp only at hSw); go_simp; try with_reducible rfl)
    simp only [Act.put, List.setIfInBounds_toArray, List.set_cons_zero, List.set_cons_succ]
    refine wpAnyH_ready (rs := [1, 4, 5]) (by kernel_rfl) (by simp) (AllReadyH.cons (o := ({ dst := some 42, op := Go.Op.call { callee := Go.Callee.value (Go.Operand.func 26), args := #[Go.Operand.tmp 41], argTypes := #[24] }, type := 3, pos := _, after := #[{ on := 0, ground := Go.Ground.data }], guard := none } : Oper)) rfl (fun KK hK => ?_) (AllReadyH.cons (o := ({ dst := some 7, op := Go.Op.alloc 3, type := 0, pos := _, after := #[], guard := none } : Oper)) rfl (fun KK hK => ?_) (AllReadyH.cons (o := ({ dst := some 8, op := Go.Op.alloc 3, type := 0, pos := _, after := #[], guard := none } : Oper)) rfl (fun KK hK => ?_) AllReadyH.nil)))
    · go_simp
      refine (HE1.out _ (bcat2 hB7 hBc)).mono ?_
      rintro x1 U1 ⟨rfl, hl1⟩
      have hBc := bcat2 hBc hl1
      try go_wp2_with fail
      refine hK.out _ _ (hS _ hBc) (fun hHeld => ?_)
      clear hK
      try simp only [Act.put, List.setIfInBounds_toArray, List.set_cons_zero, List.set_cons_succ]
      refine wpAnyH_ready (rs := [3, 4, 5]) (by kernel_rfl) (by simp) (AllReadyH.cons (o := ({ dst := some 44, op := Go.Op.call { callee := Go.Callee.value (Go.Operand.func 26), args := #[Go.Operand.tmp 43], argTypes := #[24] }, type := 3, pos := _, after := #[{ on := 2, ground := Go.Ground.data }, { on := 1, ground := Go.Ground.chain }], guard := none } : Oper)) rfl (fun KK hK => ?_) (AllReadyH.cons (o := ({ dst := some 7, op := Go.Op.alloc 3, type := 0, pos := _, after := #[], guard := none } : Oper)) rfl (fun KK hK => ?_) (AllReadyH.cons (o := ({ dst := some 8, op := Go.Op.alloc 3, type := 0, pos := _, after := #[], guard := none } : Oper)) rfl (fun KK hK => ?_) AllReadyH.nil)))
      · go_simp
        refine (HE2.out _ (bcat2 hB7 hBc)).mono ?_
        rintro x2 U2 ⟨rfl, hl2⟩
        have hBc := bcat2 hBc hl2
        try go_wp2_with fail
        refine hK.out _ _ (hS _ hBc) (fun hHeld => ?_)
        clear hK
        try simp only [Act.put, List.setIfInBounds_toArray, List.set_cons_zero, List.set_cons_succ]
        refine wpAnyH_ready (rs := [4, 5]) (by kernel_rfl) (by simp) (AllReadyH.cons (o := ({ dst := some 7, op := Go.Op.alloc 3, type := 0, pos := _, after := #[], guard := none } : Oper)) rfl (fun KK hK => ?_) (AllReadyH.cons (o := ({ dst := some 8, op := Go.Op.alloc 3, type := 0, pos := _, after := #[], guard := none } : Oper)) rfl (fun KK hK => ?_) AllReadyH.nil))
        · go_simp
          have hgE : w7.heap.size ≤ (U2).heap.size := hBc.size
          have haE := balloc (U2) (.cells #[.int .i64 0] 3)
          have hBc := bcat2 hBc haE
          have hE := Boxed.new (U2) 3 (.int .i64 0)
          refine hK.out _ _ (hS _ hBc) (fun hHeld => ?_)
          clear hK
          try simp only [Act.put, List.setIfInBounds_toArray, List.set_cons_zero, List.set_cons_succ]
          generalize (U2).alloc (.cells #[.int .i64 0] 3) = WAe at *
          generalize (U2).heap.size = eb at *
          refine wpAnyH_ready (rs := [5]) (by kernel_rfl) (by simp) (AllReadyH.cons (o := ({ dst := some 8, op := Go.Op.alloc 3, type := 0, pos := _, after := #[], guard := none } : Oper)) rfl (fun KK hK => ?_) AllReadyH.nil)
          go_simp
          have hgD : w7.heap.size ≤ (WAe).heap.size := hBc.size
          have haD := balloc (WAe) (.cells #[.int .i64 0] 3)
          have hBc := bcat2 hBc haD
          have hlt9 := hE.lt
          have hE := Boxed.below hE haD
          have hD := Boxed.new (WAe) 3 (.int .i64 0)
          refine hK.out _ _ (hS _ hBc) (fun hHeld => ?_)
          clear hK
          try simp only [Act.put, List.setIfInBounds_toArray, List.set_cons_zero, List.set_cons_succ]
          generalize (WAe).alloc (.cells #[.int .i64 0] 3) = WAd at *
          generalize (WAe).heap.size = db at *
          have hne : eb ≠ db := by omega
          refine wpAnyH_ready (rs := [6]) (by kernel_rfl) (by simp) (AllReadyH.cons (o := ({ dst := none, op := Go.Op.store 3 (Go.Operand.tmp 7) (Go.Operand.tmp 42), type := 0, pos := _, after := #[{ on := 4, ground := Go.Ground.data }, { on := 1, ground := Go.Ground.data }, { on := 3, ground := Go.Ground.chain }, { on := 0, ground := Go.Ground.phase }, { on := 1, ground := Go.Ground.phase }, { on := 2, ground := Go.Ground.textOnly Go.Departure.lateStores }, { on := 3, ground := Go.Ground.textOnly Go.Departure.lateStoresUnsure }, { on := 4, ground := Go.Ground.phase }, { on := 5, ground := Go.Ground.phase }], guard := none } : Oper)) rfl (fun KK hK => ?_) AllReadyH.nil)
          have ce := hE.cell
          have fe := hE.frozen
          go_simp
          have hBc := hBc.setCell (p := ⟨eb, 0, none⟩) hgE (.int .i64 e)
          have hE := Boxed.set (.int .i64 e) hE
          have hD := Boxed.other hD (show db ≠ eb from fun h => hne h.symm) (.int .i64 e)
          refine hK.out _ _ (hS _ hBc) (fun hHeld => ?_)
          clear hK
          try simp only [Act.put, List.setIfInBounds_toArray, List.set_cons_zero, List.set_cons_succ]
          clear ce fe
          generalize (WAd).setCell ⟨eb, 0, none⟩ (.int .i64 e) = WE at *
          refine wpAnyH_ready (rs := [7]) (by kernel_rfl) (by simp) (AllReadyH.cons (o := ({ dst := none, op := Go.Op.store 3 (Go.Operand.tmp 8) (Go.Operand.tmp 44), type := 0, pos := _, after := #[{ on := 5, ground := Go.Ground.data }, { on := 3, ground := Go.Ground.data }, { on := 6, ground := Go.Ground.chain }, { on := 0, ground := Go.Ground.phase }, { on := 1, ground := Go.Ground.phase }, { on := 2, ground := Go.Ground.phase }, { on := 3, ground := Go.Ground.phase }, { on := 4, ground := Go.Ground.phase }, { on := 5, ground := Go.Ground.phase }, { on := 6, ground := Go.Ground.phase }], guard := none } : Oper)) rfl (fun KK hK => ?_) AllReadyH.nil)
          have ce := hD.cell
          have fe := hD.frozen
          go_simp
          have hBc := hBc.setCell (p := ⟨db, 0, none⟩) hgD (.int .i64 d)
          have hD := Boxed.set (.int .i64 d) hD
          have hE := Boxed.other hE hne (.int .i64 d)
          refine hK.out _ _ (hS _ hBc) (fun hHeld => ?_)
          clear hK
          try simp only [Act.put, List.setIfInBounds_toArray, List.set_cons_zero, List.set_cons_succ]
          clear ce fe
          refine wpAnyH_done (by kernel_rfl) ?_ _
          go_wp2
          go_meet
          exact ⟨eb, db, rfl, rfl, hE, hD, hBc⟩
        · go_simp
          have hgD : w7.heap.size ≤ (U2).heap.size := hBc.size
          have haD := balloc (U2) (.cells #[.int .i64 0] 3)
          have hBc := bcat2 hBc haD
          have hD := Boxed.new (U2) 3 (.int .i64 0)
          refine hK.out _ _ (hS _ hBc) (fun hHeld => ?_)
          clear hK
          try simp only [Act.put, List.setIfInBounds_toArray, List.set_cons_zero, List.set_cons_succ]
          generalize (U2).alloc (.cells #[.int .i64 0] 3) = WAd at *
          generalize (U2).heap.size = db at *
          refine wpAnyH_ready (rs := [4]) (by kernel_rfl) (by simp) (AllReadyH.cons (o := ({ dst := some 7, op := Go.Op.alloc 3, type := 0, pos := _, after := #[], guard := none } : Oper)) rfl (fun KK hK => ?_) AllReadyH.nil)
          go_simp
          have hgE : w7.heap.size ≤ (WAd).heap.size := hBc.size
          have haE := balloc (WAd) (.cells #[.int .i64 0] 3)
          have hBc := bcat2 hBc haE
          have hlt9 := hD.lt
          have hD := Boxed.below hD haE
          have hE := Boxed.new (WAd) 3 (.int .i64 0)
          refine hK.out _ _ (hS _ hBc) (fun hHeld => ?_)
          clear hK
          try simp only [Act.put, List.setIfInBounds_toArray, List.set_cons_zero, List.set_cons_succ]
          generalize (WAd).alloc (.cells #[.int .i64 0] 3) = WAe at *
          generalize (WAd).heap.size = eb at *
          have hne : eb ≠ db := by omega
          refine wpAnyH_ready (rs := [6]) (by kernel_rfl) (by simp) (AllReadyH.cons (o := ({ dst := none, op := Go.Op.store 3 (Go.Operand.tmp 7) (Go.Operand.tmp 42), type := 0, pos := _, after := #[{ on := 4, ground := Go.Ground.data }, { on := 1, ground := Go.Ground.data }, { on := 3, ground := Go.Ground.chain }, { on := 0, ground := Go.Ground.phase }, { on := 1, ground := Go.Ground.phase }, { on := 2, ground := Go.Ground.textOnly Go.Departure.lateStores }, { on := 3, ground := Go.Ground.textOnly Go.Departure.lateStoresUnsure }, { on := 4, ground := Go.Ground.phase }, { on := 5, ground := Go.Ground.phase }], guard := none } : Oper)) rfl (fun KK hK => ?_) AllReadyH.nil)
          have ce := hE.cell
          have fe := hE.frozen
          go_simp
          have hBc := hBc.setCell (p := ⟨eb, 0, none⟩) hgE (.int .i64 e)
          have hE := Boxed.set (.int .i64 e) hE
          have hD := Boxed.other hD (show db ≠ eb from fun h => hne h.symm) (.int .i64 e)
          refine hK.out _ _ (hS _ hBc) (fun hHeld => ?_)
          clear hK
          try simp only [Act.put, List.setIfInBounds_toArray, List.set_cons_zero, List.set_cons_succ]
          clear ce fe
          generalize (WAe).setCell ⟨eb, 0, none⟩ (.int .i64 e) = WE at *
          refine wpAnyH_ready (rs := [7]) (by kernel_rfl) (by simp) (AllReadyH.cons (o := ({ dst := none, op := Go.Op.store 3 (Go.Operand.tmp 8) (Go.Operand.tmp 44), type := 0, pos := _, after := #[{ on := 5, ground := Go.Ground.data }, { on := 3, ground := Go.Ground.data }, { on := 6, ground := Go.Ground.chain }, { on := 0, ground := Go.Ground.phase }, { on := 1, ground := Go.Ground.phase }, { on := 2, ground := Go.Ground.phase }, { on := 3, ground := Go.Ground.phase }, { on := 4, ground := Go.Ground.phase }, { on := 5, ground := Go.Ground.phase }, { on := 6, ground := Go.Ground.phase }], guard := none } : Oper)) rfl (fun KK hK => ?_) AllReadyH.nil)
          have ce := hD.cell
          have fe := hD.frozen
          go_simp
          have hBc := hBc.setCell (p := ⟨db, 0, none⟩) hgD (.int .i64 d)
          have hD := Boxed.set (.int .i64 d) hD
          have hE := Boxed.other hE hne (.int .i64 d)
          refine hK.out _ _ (hS _ hBc) (fun hHeld => ?_)
          clear hK
          try simp only [Act.put, List.setIfInBounds_toArray, List.set_cons_zero, List.set_cons_succ]
          clear ce fe
          refine wpAnyH_done (by kernel_rfl) ?_ _
          go_wp2
          go_meet
          exact ⟨eb, db, rfl, rfl, hE, hD, hBc⟩
      · go_simp
        have hgE : w7.heap.size ≤ (U1).heap.size := hBc.size
        have haE := balloc (U1) (.cells #[.int .i64 0] 3)
        have hBc := bcat2 hBc haE
        have hE := Boxed.new (U1) 3 (.int .i64 0)
        refine hK.out _ _ (hS _ hBc) (fun hHeld => ?_)
        clear hK
        try simp only [Act.put, List.setIfInBounds_toArray, List.set_cons_zero, List.set_cons_succ]
        generalize (U1).alloc (.cells #[.int .i64 0] 3) = WAe at *
        generalize (U1).heap.size = eb at *
        refine wpAnyH_ready (rs := [3, 5]) (by kernel_rfl) (by simp) (AllReadyH.cons (o := ({ dst := some 44, op := Go.Op.call { callee := Go.Callee.value (Go.Operand.func 26), args := #[Go.Operand.tmp 43], argTypes := #[24] }, type := 3, pos := _, after := #[{ on := 2, ground := Go.Ground.data }, { on := 1, ground := Go.Ground.chain }], guard := none } : Oper)) rfl (fun KK hK => ?_) (AllReadyH.cons (o := ({ dst := some 8, op := Go.Op.alloc 3, type := 0, pos := _, after := #[], guard := none } : Oper)) rfl (fun KK hK => ?_) AllReadyH.nil))
        · go_simp
          refine (HE2.out _ (bcat2 hB7 hBc)).mono ?_
          rintro x2 U2 ⟨rfl, hl2⟩
          have hBc := bcat2 hBc hl2
          have hE := Boxed.below hE hl2
          try go_wp2_with fail
          refine hK.out _ _ (hS _ hBc) (fun hHeld => ?_)
          clear hK
          try simp only [Act.put, List.setIfInBounds_toArray, List.set_cons_zero, List.set_cons_succ]
          refine wpAnyH_ready (rs := [5]) (by kernel_rfl) (by simp) (AllReadyH.cons (o := ({ dst := some 8, op := Go.Op.alloc 3, type := 0, pos := _, after := #[], guard := none } : Oper)) rfl (fun KK hK => ?_) AllReadyH.nil)
          go_simp
          have hgD : w7.heap.size ≤ (U2).heap.size := hBc.size
          have haD := balloc (U2) (.cells #[.int .i64 0] 3)
          have hBc := bcat2 hBc haD
          have hlt9 := hE.lt
          have hE := Boxed.below hE haD
          have hD := Boxed.new (U2) 3 (.int .i64 0)
          refine hK.out _ _ (hS _ hBc) (fun hHeld => ?_)
          clear hK
          try simp only [Act.put, List.setIfInBounds_toArray, List.set_cons_zero, List.set_cons_succ]
          generalize (U2).alloc (.cells #[.int .i64 0] 3) = WAd at *
          generalize (U2).heap.size = db at *
          have hne : eb ≠ db := by omega
          refine wpAnyH_ready (rs := [6]) (by kernel_rfl) (by simp) (AllReadyH.cons (o := ({ dst := none, op := Go.Op.store 3 (Go.Operand.tmp 7) (Go.Operand.tmp 42), type := 0, pos := _, after := #[{ on := 4, ground := Go.Ground.data }, { on := 1, ground := Go.Ground.data }, { on := 3, ground := Go.Ground.chain }, { on := 0, ground := Go.Ground.phase }, { on := 1, ground := Go.Ground.phase }, { on := 2, ground := Go.Ground.textOnly Go.Departure.lateStores }, { on := 3, ground := Go.Ground.textOnly Go.Departure.lateStoresUnsure }, { on := 4, ground := Go.Ground.phase }, { on := 5, ground := Go.Ground.phase }], guard := none } : Oper)) rfl (fun KK hK => ?_) AllReadyH.nil)
          have ce := hE.cell
          have fe := hE.frozen
          go_simp
          have hBc := hBc.setCell (p := ⟨eb, 0, none⟩) hgE (.int .i64 e)
          have hE := Boxed.set (.int .i64 e) hE
          have hD := Boxed.other hD (show db ≠ eb from fun h => hne h.symm) (.int .i64 e)
          refine hK.out _ _ (hS _ hBc) (fun hHeld => ?_)
          clear hK
          try simp only [Act.put, List.setIfInBounds_toArray, List.set_cons_zero, List.set_cons_succ]
          clear ce fe
          generalize (WAd).setCell ⟨eb, 0, none⟩ (.int .i64 e) = WE at *
          refine wpAnyH_ready (rs := [7]) (by kernel_rfl) (by simp) (AllReadyH.cons (o := ({ dst := none, op := Go.Op.store 3 (Go.Operand.tmp 8) (Go.Operand.tmp 44), type := 0, pos := _, after := #[{ on := 5, ground := Go.Ground.data }, { on := 3, ground := Go.Ground.data }, { on := 6, ground := Go.Ground.chain }, { on := 0, ground := Go.Ground.phase }, { on := 1, ground := Go.Ground.phase }, { on := 2, ground := Go.Ground.phase }, { on := 3, ground := Go.Ground.phase }, { on := 4, ground := Go.Ground.phase }, { on := 5, ground := Go.Ground.phase }, { on := 6, ground := Go.Ground.phase }], guard := none } : Oper)) rfl (fun KK hK => ?_) AllReadyH.nil)
          have ce := hD.cell
          have fe := hD.frozen
          go_simp
          have hBc := hBc.setCell (p := ⟨db, 0, none⟩) hgD (.int .i64 d)
          have hD := Boxed.set (.int .i64 d) hD
          have hE := Boxed.other hE hne (.int .i64 d)
          refine hK.out _ _ (hS _ hBc) (fun hHeld => ?_)
          clear hK
          try simp only [Act.put, List.setIfInBounds_toArray, List.set_cons_zero, List.set_cons_succ]
          clear ce fe
          refine wpAnyH_done (by kernel_rfl) ?_ _
          go_wp2
          go_meet
          exact ⟨eb, db, rfl, rfl, hE, hD, hBc⟩
        · go_simp
          have hgD : w7.heap.size ≤ (WAe).heap.size := hBc.size
          have haD := balloc (WAe) (.cells #[.int .i64 0] 3)
          have hBc := bcat2 hBc haD
          have hlt9 := hE.lt
          have hE := Boxed.below hE haD
          have hD := Boxed.new (WAe) 3 (.int .i64 0)
          refine hK.out _ _ (hS _ hBc) (fun hHeld => ?_)
          clear hK
          try simp only [Act.put, List.setIfInBounds_toArray, List.set_cons_zero, List.set_cons_succ]
          generalize (WAe).alloc (.cells #[.int .i64 0] 3) = WAd at *
          generalize (WAe).heap.size = db at *
          have hne : eb ≠ db := by omega
          refine wpAnyH_ready (rs := [3]) (by kernel_rfl) (by simp) (AllReadyH.cons (o := ({ dst := some 44, op := Go.Op.call { callee := Go.Callee.value (Go.Operand.func 26), args := #[Go.Operand.tmp 43], argTypes := #[24] }, type := 3, pos := _, after := #[{ on := 2, ground := Go.Ground.data }, { on := 1, ground := Go.Ground.chain }], guard := none } : Oper)) rfl (fun KK hK => ?_) AllReadyH.nil)
          go_simp
          refine (HE2.out _ (bcat2 hB7 hBc)).mono ?_
          rintro x2 U2 ⟨rfl, hl2⟩
          have hBc := bcat2 hBc hl2
          have hE := Boxed.below hE hl2
          have hD := Boxed.below hD hl2
          try go_wp2_with fail
          refine hK.out _ _ (hS _ hBc) (fun hHeld => ?_)
          clear hK
          try simp only [Act.put, List.setIfInBounds_toArray, List.set_cons_zero, List.set_cons_succ]
          refine wpAnyH_ready (rs := [6]) (by kernel_rfl) (by simp) (AllReadyH.cons (o := ({ dst := none, op := Go.Op.store 3 (Go.Operand.tmp 7) (Go.Operand.tmp 42), type := 0, pos := _, after := #[{ on := 4, ground := Go.Ground.data }, { on := 1, ground := Go.Ground.data }, { on := 3, ground := Go.Ground.chain }, { on := 0, ground := Go.Ground.phase }, { on := 1, ground := Go.Ground.phase }, { on := 2, ground := Go.Ground.textOnly Go.Departure.lateStores }, { on := 3, ground := Go.Ground.textOnly Go.Departure.lateStoresUnsure }, { on := 4, ground := Go.Ground.phase }, { on := 5, ground := Go.Ground.phase }], guard := none } : Oper)) rfl (fun KK hK => ?_) AllReadyH.nil)
          have ce := hE.cell
          have fe := hE.frozen
          go_simp
          have hBc := hBc.setCell (p := ⟨eb, 0, none⟩) hgE (.int .i64 e)
          have hE := Boxed.set (.int .i64 e) hE
          have hD := Boxed.other hD (show db ≠ eb from fun h => hne h.symm) (.int .i64 e)
          refine hK.out _ _ (hS _ hBc) (fun hHeld => ?_)
          clear hK
          try simp only [Act.put, List.setIfInBounds_toArray, List.set_cons_zero, List.set_cons_succ]
          clear ce fe
          generalize (U2).setCell ⟨eb, 0, none⟩ (.int .i64 e) = WE at *
          refine wpAnyH_ready (rs := [7]) (by kernel_rfl) (by simp) (AllReadyH.cons (o := ({ dst := none, op := Go.Op.store 3 (Go.Operand.tmp 8) (Go.Operand.tmp 44), type := 0, pos := _, after := #[{ on := 5, ground := Go.Ground.data }, { on := 3, ground := Go.Ground.data }, { on := 6, ground := Go.Ground.chain }, { on := 0, ground := Go.Ground.phase }, { on := 1, ground := Go.Ground.phase }, { on := 2, ground := Go.Ground.phase }, { on := 3, ground := Go.Ground.phase }, { on := 4, ground := Go.Ground.phase }, { on := 5, ground := Go.Ground.phase }, { on := 6, ground := Go.Ground.phase }], guard := none } : Oper)) rfl (fun KK hK => ?_) AllReadyH.nil)
          have ce := hD.cell
          have fe := hD.frozen
          go_simp
          have hBc := hBc.setCell (p := ⟨db, 0, none⟩) hgD (.int .i64 d)
          have hD := Boxed.set (.int .i64 d) hD
          have hE := Boxed.other hE hne (.int .i64 d)
          refine hK.out _ _ (hS _ hBc) (fun hHeld => ?_)
          clear hK
          try simp only [Act.put, List.setIfInBounds_toArray, List.set_cons_zero, List.set_cons_succ]
          clear ce fe
          refine wpAnyH_done (by kernel_rfl) ?_ _
          go_wp2
          go_meet
          exact ⟨eb, db, rfl, rfl, hE, hD, hBc⟩
      · go_simp
        have hgD : w7.heap.size ≤ (U1).heap.size := hBc.size
        have haD := balloc (U1) (.cells #[.int .i64 0] 3)
        have hBc := bcat2 hBc haD
        have hD := Boxed.new (U1) 3 (.int .i64 0)
        refine hK.out _ _ (hS _ hBc) (fun hHeld => ?_)
        clear hK
        try simp only [Act.put, List.setIfInBounds_toArray, List.set_cons_zero, List.set_cons_succ]
        generalize (U1).alloc (.cells #[.int .i64 0] 3) = WAd at *
        generalize (U1).heap.size = db at *
        refine wpAnyH_ready (rs := [3, 4]) (by kernel_rfl) (by simp) (AllReadyH.cons (o := ({ dst := some 44, op := Go.Op.call { callee := Go.Callee.value (Go.Operand.func 26), args := #[Go.Operand.tmp 43], argTypes := #[24] }, type := 3, pos := _, after := #[{ on := 2, ground := Go.Ground.data }, { on := 1, ground := Go.Ground.chain }], guard := none } : Oper)) rfl (fun KK hK => ?_) (AllReadyH.cons (o := ({ dst := some 7, op := Go.Op.alloc 3, type := 0, pos := _, after := #[], guard := none } : Oper)) rfl (fun KK hK => ?_) AllReadyH.nil))
        · go_simp
          refine (HE2.out _ (bcat2 hB7 hBc)).mono ?_
          rintro x2 U2 ⟨rfl, hl2⟩
          have hBc := bcat2 hBc hl2
          have hD := Boxed.below hD hl2
          try go_wp2_with fail
          refine hK.out _ _ (hS _ hBc) (fun hHeld => ?_)
          clear hK
          try simp only [Act.put, List.setIfInBounds_toArray, List.set_cons_zero, List.set_cons_succ]
          refine wpAnyH_ready (rs := [4]) (by kernel_rfl) (by simp) (AllReadyH.cons (o := ({ dst := some 7, op := Go.Op.alloc 3, type := 0, pos := _, after := #[], guard := none } : Oper)) rfl (fun KK hK => ?_) AllReadyH.nil)
          go_simp
          have hgE : w7.heap.size ≤ (U2).heap.size := hBc.size
          have haE := balloc (U2) (.cells #[.int .i64 0] 3)
          have hBc := bcat2 hBc haE
          have hlt9 := hD.lt
          have hD := Boxed.below hD haE
          have hE := Boxed.new (U2) 3 (.int .i64 0)
          refine hK.out _ _ (hS _ hBc) (fun hHeld => ?_)
          clear hK
          try simp only [Act.put, List.setIfInBounds_toArray, List.set_cons_zero, List.set_cons_succ]
          generalize (U2).alloc (.cells #[.int .i64 0] 3) = WAe at *
          generalize (U2).heap.size = eb at *
          have hne : eb ≠ db := by omega
          refine wpAnyH_ready (rs := [6]) (by kernel_rfl) (by simp) (AllReadyH.cons (o := ({ dst := none, op := Go.Op.store 3 (Go.Operand.tmp 7) (Go.Operand.tmp 42), type := 0, pos := _, after := #[{ on := 4, ground := Go.Ground.data }, { on := 1, ground := Go.Ground.data }, { on := 3, ground := Go.Ground.chain }, { on := 0, ground := Go.Ground.phase }, { on := 1, ground := Go.Ground.phase }, { on := 2, ground := Go.Ground.textOnly Go.Departure.lateStores }, { on := 3, ground := Go.Ground.textOnly Go.Departure.lateStoresUnsure }, { on := 4, ground := Go.Ground.phase }, { on := 5, ground := Go.Ground.phase }], guard := none } : Oper)) rfl (fun KK hK => ?_) AllReadyH.nil)
          have ce := hE.cell
          have fe := hE.frozen
          go_simp
          have hBc := hBc.setCell (p := ⟨eb, 0, none⟩) hgE (.int .i64 e)
          have hE := Boxed.set (.int .i64 e) hE
          have hD := Boxed.other hD (show db ≠ eb from fun h => hne h.symm) (.int .i64 e)
          refine hK.out _ _ (hS _ hBc) (fun hHeld => ?_)
          clear hK
          try simp only [Act.put, List.setIfInBounds_toArray, List.set_cons_zero, List.set_cons_succ]
          clear ce fe
          generalize (WAe).setCell ⟨eb, 0, none⟩ (.int .i64 e) = WE at *
          refine wpAnyH_ready (rs := [7]) (by kernel_rfl) (by simp) (AllReadyH.cons (o := ({ dst := none, op := Go.Op.store 3 (Go.Operand.tmp 8) (Go.Operand.tmp 44), type := 0, pos := _, after := #[{ on := 5, ground := Go.Ground.data }, { on := 3, ground := Go.Ground.data }, { on := 6, ground := Go.Ground.chain }, { on := 0, ground := Go.Ground.phase }, { on := 1, ground := Go.Ground.phase }, { on := 2, ground := Go.Ground.phase }, { on := 3, ground := Go.Ground.phase }, { on := 4, ground := Go.Ground.phase }, { on := 5, ground := Go.Ground.phase }, { on := 6, ground := Go.Ground.phase }], guard := none } : Oper)) rfl (fun KK hK => ?_) AllReadyH.nil)
          have ce := hD.cell
          have fe := hD.frozen
          go_simp
          have hBc := hBc.setCell (p := ⟨db, 0, none⟩) hgD (.int .i64 d)
          have hD := Boxed.set (.int .i64 d) hD
          have hE := Boxed.other hE hne (.int .i64 d)
          refine hK.out _ _ (hS _ hBc) (fun hHeld => ?_)
          clear hK
          try simp only [Act.put, List.setIfInBounds_toArray, List.set_cons_zero, List.set_cons_succ]
          clear ce fe
          refine wpAnyH_done (by kernel_rfl) ?_ _
          go_wp2
          go_meet
          exact ⟨eb, db, rfl, rfl, hE, hD, hBc⟩
        · go_simp
          have hgE : w7.heap.size ≤ (WAd).heap.size := hBc.size
          have haE := balloc (WAd) (.cells #[.int .i64 0] 3)
          have hBc := bcat2 hBc haE
          have hlt9 := hD.lt
          have hD := Boxed.below hD haE
          have hE := Boxed.new (WAd) 3 (.int .i64 0)
          refine hK.out _ _ (hS _ hBc) (fun hHeld => ?_)
          clear hK
          try simp only [Act.put, List.setIfInBounds_toArray, List.set_cons_zero, List.set_cons_succ]
          generalize (WAd).alloc (.cells #[.int .i64 0] 3) = WAe at *
          generalize (WAd).heap.size = eb at *
          have hne : eb ≠ db := by omega
          refine wpAnyH_ready (rs := [3]) (by kernel_rfl) (by simp) (AllReadyH.cons (o := ({ dst := some 44, op := Go.Op.call { callee := Go.Callee.value (Go.Operand.func 26), args := #[Go.Operand.tmp 43], argTypes := #[24] }, type := 3, pos := _, after := #[{ on := 2, ground := Go.Ground.data }, { on := 1, ground := Go.Ground.chain }], guard := none } : Oper)) rfl (fun KK hK => ?_) AllReadyH.nil)
          go_simp
          refine (HE2.out _ (bcat2 hB7 hBc)).mono ?_
          rintro x2 U2 ⟨rfl, hl2⟩
          have hBc := bcat2 hBc hl2
          have hE := Boxed.below hE hl2
          have hD := Boxed.below hD hl2
          try go_wp2_with fail
          refine hK.out _ _ (hS _ hBc) (fun hHeld => ?_)
          clear hK
          try simp only [Act.put, List.setIfInBounds_toArray, List.set_cons_zero, List.set_cons_succ]
          refine wpAnyH_ready (rs := [6]) (by kernel_rfl) (by simp) (AllReadyH.cons (o := ({ dst := none, op := Go.Op.store 3 (Go.Operand.tmp 7) (Go.Operand.tmp 42), type := 0, pos := _, after := #[{ on := 4, ground := Go.Ground.data }, { on := 1, ground := Go.Ground.data }, { on := 3, ground := Go.Ground.chain }, { on := 0, ground := Go.Ground.phase }, { on := 1, ground := Go.Ground.phase }, { on := 2, ground := Go.Ground.textOnly Go.Departure.lateStores }, { on := 3, ground := Go.Ground.textOnly Go.Departure.lateStoresUnsure }, { on := 4, ground := Go.Ground.phase }, { on := 5, ground := Go.Ground.phase }], guard := none } : Oper)) rfl (fun KK hK => ?_) AllReadyH.nil)
          have ce := hE.cell
          have fe := hE.frozen
          go_simp
          have hBc := hBc.setCell (p := ⟨eb, 0, none⟩) hgE (.int .i64 e)
          have hE := Boxed.set (.int .i64 e) hE
          have hD := Boxed.other hD (show db ≠ eb from fun h => hne h.symm) (.int .i64 e)
          refine hK.out _ _ (hS _ hBc) (fun hHeld => ?_)
          clear hK
          try simp only [Act.put, List.setIfInBounds_toArray, List.set_cons_zero, List.set_cons_succ]
          clear ce fe
          generalize (U2).setCell ⟨eb, 0, none⟩ (.int .i64 e) = WE at *
          refine wpAnyH_ready (rs := [7]) (by kernel_rfl) (by simp) (AllReadyH.cons (o := ({ dst := none, op := Go.Op.store 3 (Go.Operand.tmp 8) (Go.Operand.tmp 44), type := 0, pos := _, after := #[{ on := 5, ground := Go.Ground.data }, { on := 3, ground := Go.Ground.data }, { on := 6, ground := Go.Ground.chain }, { on := 0, ground := Go.Ground.phase }, { on := 1, ground := Go.Ground.phase }, { on := 2, ground := Go.Ground.phase }, { on := 3, ground := Go.Ground.phase }, { on := 4, ground := Go.Ground.phase }, { on := 5, ground := Go.Ground.phase }, { on := 6, ground := Go.Ground.phase }], guard := none } : Oper)) rfl (fun KK hK => ?_) AllReadyH.nil)
          have ce := hD.cell
          have fe := hD.frozen
          go_simp
          have hBc := hBc.setCell (p := ⟨db, 0, none⟩) hgD (.int .i64 d)
          have hD := Boxed.set (.int .i64 d) hD
          have hE := Boxed.other hE hne (.int .i64 d)
          refine hK.out _ _ (hS _ hBc) (fun hHeld => ?_)
          clear hK
          try simp only [Act.put, List.setIfInBounds_toArray, List.set_cons_zero, List.set_cons_succ]
          clear ce fe
          refine wpAnyH_done (by kernel_rfl) ?_ _
          go_wp2
          go_meet
          exact ⟨eb, db, rfl, rfl, hE, hD, hBc⟩
    · go_simp
      have hgE : w7.heap.size ≤ (wd).heap.size := hBc.size
      have haE := balloc (wd) (.cells #[.int .i64 0] 3)
      have hBc := bcat2 hBc haE
      have hE := Boxed.new (wd) 3 (.int .i64 0)
      refine hK.out _ _ (hS _ hBc) (fun hHeld => ?_)
      clear hK
      try simp only [Act.put, List.setIfInBounds_toArray, List.set_cons_zero, List.set_cons_succ]
      generalize (wd).alloc (.cells #[.int .i64 0] 3) = WAe at *
      generalize (wd).heap.size = eb at *
      refine wpAnyH_ready (rs := [1, 5]) (by kernel_rfl) (by simp) (AllReadyH.cons (o := ({ dst := some 42, op := Go.Op.call { callee := Go.Callee.value (Go.Operand.func 26), args := #[Go.Operand.tmp 41], argTypes := #[24] }, type := 3, pos := _, after := #[{ on := 0, ground := Go.Ground.data }], guard := none } : Oper)) rfl (fun KK hK => ?_) (AllReadyH.cons (o := ({ dst := some 8, op := Go.Op.alloc 3, type := 0, pos := _, after := #[], guard := none } : Oper)) rfl (fun KK hK => ?_) AllReadyH.nil))
      · go_simp
        refine (HE1.out _ (bcat2 hB7 hBc)).mono ?_
        rintro x1 U1 ⟨rfl, hl1⟩
        have hBc := bcat2 hBc hl1
        have hE := Boxed.below hE hl1
        try go_wp2_with fail
        refine hK.out _ _ (hS _ hBc) (fun hHeld => ?_)
        clear hK
        try simp only [Act.put, List.setIfInBounds_toArray, List.set_cons_zero, List.set_cons_succ]
        refine wpAnyH_ready (rs := [3, 5]) (by kernel_rfl) (by simp) (AllReadyH.cons (o := ({ dst := some 44, op := Go.Op.call { callee := Go.Callee.value (Go.Operand.func 26), args := #[Go.Operand.tmp 43], argTypes := #[24] }, type := 3, pos := _, after := #[{ on := 2, ground := Go.Ground.data }, { on := 1, ground := Go.Ground.chain }], guard := none } : Oper)) rfl (fun KK hK => ?_) (AllReadyH.cons (o := ({ dst := some 8, op := Go.Op.alloc 3, type := 0, pos := _, after := #[], guard := none } : Oper)) rfl (fun KK hK => ?_) AllReadyH.nil))
        · go_simp
          refine (HE2.out _ (bcat2 hB7 hBc)).mono ?_
          rintro x2 U2 ⟨rfl, hl2⟩
          have hBc := bcat2 hBc hl2
          have hE := Boxed.below hE hl2
          try go_wp2_with fail
          refine hK.out _ _ (hS _ hBc) (fun hHeld => ?_)
          clear hK
          try simp only [Act.put, List.setIfInBounds_toArray, List.set_cons_zero, List.set_cons_succ]
          refine wpAnyH_ready (rs := [5]) (by kernel_rfl) (by simp) (AllReadyH.cons (o := ({ dst := some 8, op := Go.Op.alloc 3, type := 0, pos := _, after := #[], guard := none } : Oper)) rfl (fun KK hK => ?_) AllReadyH.nil)
          go_simp
          have hgD : w7.heap.size ≤ (U2).heap.size := hBc.size
          have haD := balloc (U2) (.cells #[.int .i64 0] 3)
          have hBc := bcat2 hBc haD
          have hlt9 := hE.lt
          have hE := Boxed.below hE haD
          have hD := Boxed.new (U2) 3 (.int .i64 0)
          refine hK.out _ _ (hS _ hBc) (fun hHeld => ?_)
          clear hK
          try simp only [Act.put, List.setIfInBounds_toArray, List.set_cons_zero, List.set_cons_succ]
          generalize (U2).alloc (.cells #[.int .i64 0] 3) = WAd at *
          generalize (U2).heap.size = db at *
          have hne : eb ≠ db := by omega
          refine wpAnyH_ready (rs := [6]) (by kernel_rfl) (by simp) (AllReadyH.cons (o := ({ dst := none, op := Go.Op.store 3 (Go.Operand.tmp 7) (Go.Operand.tmp 42), type := 0, pos := _, after := #[{ on := 4, ground := Go.Ground.data }, { on := 1, ground := Go.Ground.data }, { on := 3, ground := Go.Ground.chain }, { on := 0, ground := Go.Ground.phase }, { on := 1, ground := Go.Ground.phase }, { on := 2, ground := Go.Ground.textOnly Go.Departure.lateStores }, { on := 3, ground := Go.Ground.textOnly Go.Departure.lateStoresUnsure }, { on := 4, ground := Go.Ground.phase }, { on := 5, ground := Go.Ground.phase }], guard := none } : Oper)) rfl (fun KK hK => ?_) AllReadyH.nil)
          have ce := hE.cell
          have fe := hE.frozen
          go_simp
          have hBc := hBc.setCell (p := ⟨eb, 0, none⟩) hgE (.int .i64 e)
          have hE := Boxed.set (.int .i64 e) hE
          have hD := Boxed.other hD (show db ≠ eb from fun h => hne h.symm) (.int .i64 e)
          refine hK.out _ _ (hS _ hBc) (fun hHeld => ?_)
          clear hK
          try simp only [Act.put, List.setIfInBounds_toArray, List.set_cons_zero, List.set_cons_succ]
          clear ce fe
          generalize (WAd).setCell ⟨eb, 0, none⟩ (.int .i64 e) = WE at *
          refine wpAnyH_ready (rs := [7]) (by kernel_rfl) (by simp) (AllReadyH.cons (o := ({ dst := none, op := Go.Op.store 3 (Go.Operand.tmp 8) (Go.Operand.tmp 44), type := 0, pos := _, after := #[{ on := 5, ground := Go.Ground.data }, { on := 3, ground := Go.Ground.data }, { on := 6, ground := Go.Ground.chain }, { on := 0, ground := Go.Ground.phase }, { on := 1, ground := Go.Ground.phase }, { on := 2, ground := Go.Ground.phase }, { on := 3, ground := Go.Ground.phase }, { on := 4, ground := Go.Ground.phase }, { on := 5, ground := Go.Ground.phase }, { on := 6, ground := Go.Ground.phase }], guard := none } : Oper)) rfl (fun KK hK => ?_) AllReadyH.nil)
          have ce := hD.cell
          have fe := hD.frozen
          go_simp
          have hBc := hBc.setCell (p := ⟨db, 0, none⟩) hgD (.int .i64 d)
          have hD := Boxed.set (.int .i64 d) hD
          have hE := Boxed.other hE hne (.int .i64 d)
          refine hK.out _ _ (hS _ hBc) (fun hHeld => ?_)
          clear hK
          try simp only [Act.put, List.setIfInBounds_toArray, List.set_cons_zero, List.set_cons_succ]
          clear ce fe
          refine wpAnyH_done (by kernel_rfl) ?_ _
          go_wp2
          go_meet
          exact ⟨eb, db, rfl, rfl, hE, hD, hBc⟩
        · go_simp
          have hgD : w7.heap.size ≤ (U1).heap.size := hBc.size
          have haD := balloc (U1) (.cells #[.int .i64 0] 3)
          have hBc := bcat2 hBc haD
          have hlt9 := hE.lt
          have hE := Boxed.below hE haD
          have hD := Boxed.new (U1) 3 (.int .i64 0)
          refine hK.out _ _ (hS _ hBc) (fun hHeld => ?_)
          clear hK
          try simp only [Act.put, List.setIfInBounds_toArray, List.set_cons_zero, List.set_cons_succ]
          generalize (U1).alloc (.cells #[.int .i64 0] 3) = WAd at *
          generalize (U1).heap.size = db at *
          have hne : eb ≠ db := by omega
          refine wpAnyH_ready (rs := [3]) (by kernel_rfl) (by simp) (AllReadyH.cons (o := ({ dst := some 44, op := Go.Op.call { callee := Go.Callee.value (Go.Operand.func 26), args := #[Go.Operand.tmp 43], argTypes := #[24] }, type := 3, pos := _, after := #[{ on := 2, ground := Go.Ground.data }, { on := 1, ground := Go.Ground.chain }], guard := none } : Oper)) rfl (fun KK hK => ?_) AllReadyH.nil)
          go_simp
          refine (HE2.out _ (bcat2 hB7 hBc)).mono ?_
          rintro x2 U2 ⟨rfl, hl2⟩
          have hBc := bcat2 hBc hl2
          have hE := Boxed.below hE hl2
          have hD := Boxed.below hD hl2
          try go_wp2_with fail
          refine hK.out _ _ (hS _ hBc) (fun hHeld => ?_)
          clear hK
          try simp only [Act.put, List.setIfInBounds_toArray, List.set_cons_zero, List.set_cons_succ]
          refine wpAnyH_ready (rs := [6]) (by kernel_rfl) (by simp) (AllReadyH.cons (o := ({ dst := none, op := Go.Op.store 3 (Go.Operand.tmp 7) (Go.Operand.tmp 42), type := 0, pos := _, after := #[{ on := 4, ground := Go.Ground.data }, { on := 1, ground := Go.Ground.data }, { on := 3, ground := Go.Ground.chain }, { on := 0, ground := Go.Ground.phase }, { on := 1, ground := Go.Ground.phase }, { on := 2, ground := Go.Ground.textOnly Go.Departure.lateStores }, { on := 3, ground := Go.Ground.textOnly Go.Departure.lateStoresUnsure }, { on := 4, ground := Go.Ground.phase }, { on := 5, ground := Go.Ground.phase }], guard := none } : Oper)) rfl (fun KK hK => ?_) AllReadyH.nil)
          have ce := hE.cell
          have fe := hE.frozen
          go_simp
          have hBc := hBc.setCell (p := ⟨eb, 0, none⟩) hgE (.int .i64 e)
          have hE := Boxed.set (.int .i64 e) hE
          have hD := Boxed.other hD (show db ≠ eb from fun h => hne h.symm) (.int .i64 e)
          refine hK.out _ _ (hS _ hBc) (fun hHeld => ?_)
          clear hK
          try simp only [Act.put, List.setIfInBounds_toArray, List.set_cons_zero, List.set_cons_succ]
          clear ce fe
          generalize (U2).setCell ⟨eb, 0, none⟩ (.int .i64 e) = WE at *
          refine wpAnyH_ready (rs := [7]) (by kernel_rfl) (by simp) (AllReadyH.cons (o := ({ dst := none, op := Go.Op.store 3 (Go.Operand.tmp 8) (Go.Operand.tmp 44), type := 0, pos := _, after := #[{ on := 5, ground := Go.Ground.data }, { on := 3, ground := Go.Ground.data }, { on := 6, ground := Go.Ground.chain }, { on := 0, ground := Go.Ground.phase }, { on := 1, ground := Go.Ground.phase }, { on := 2, ground := Go.Ground.phase }, { on := 3, ground := Go.Ground.phase }, { on := 4, ground := Go.Ground.phase }, { on := 5, ground := Go.Ground.phase }, { on := 6, ground := Go.Ground.phase }], guard := none } : Oper)) rfl (fun KK hK => ?_) AllReadyH.nil)
          have ce := hD.cell
          have fe := hD.frozen
          go_simp
          have hBc := hBc.setCell (p := ⟨db, 0, none⟩) hgD (.int .i64 d)
          have hD := Boxed.set (.int .i64 d) hD
          have hE := Boxed.other hE hne (.int .i64 d)
          refine hK.out _ _ (hS _ hBc) (fun hHeld => ?_)
          clear hK
          try simp only [Act.put, List.setIfInBounds_toArray, List.set_cons_zero, List.set_cons_succ]
          clear ce fe
          refine wpAnyH_done (by kernel_rfl) ?_ _
          go_wp2
          go_meet
          exact ⟨eb, db, rfl, rfl, hE, hD, hBc⟩
      · go_simp
        have hgD : w7.heap.size ≤ (WAe).heap.size := hBc.size
        have haD := balloc (WAe) (.cells #[.int .i64 0] 3)
        have hBc := bcat2 hBc haD
        have hlt9 := hE.lt
        have hE := Boxed.below hE haD
        have hD := Boxed.new (WAe) 3 (.int .i64 0)
        refine hK.out _ _ (hS _ hBc) (fun hHeld => ?_)
        clear hK
        try simp only [Act.put, List.setIfInBounds_toArray, List.set_cons_zero, List.set_cons_succ]
        generalize (WAe).alloc (.cells #[.int .i64 0] 3) = WAd at *
        generalize (WAe).heap.size = db at *
        have hne : eb ≠ db := by omega
        refine wpAnyH_ready (rs := [1]) (by kernel_rfl) (by simp) (AllReadyH.cons (o := ({ dst := some 42, op := Go.Op.call { callee := Go.Callee.value (Go.Operand.func 26), args := #[Go.Operand.tmp 41], argTypes := #[24] }, type := 3, pos := _, after := #[{ on := 0, ground := Go.Ground.data }], guard := none } : Oper)) rfl (fun KK hK => ?_) AllReadyH.nil)
        go_simp
        refine (HE1.out _ (bcat2 hB7 hBc)).mono ?_
        rintro x1 U1 ⟨rfl, hl1⟩
        have hBc := bcat2 hBc hl1
        have hE := Boxed.below hE hl1
        have hD := Boxed.below hD hl1
        try go_wp2_with fail
        refine hK.out _ _ (hS _ hBc) (fun hHeld => ?_)
        clear hK
        try simp only [Act.put, List.setIfInBounds_toArray, List.set_cons_zero, List.set_cons_succ]
        refine wpAnyH_ready (rs := [3]) (by kernel_rfl) (by simp) (AllReadyH.cons (o := ({ dst := some 44, op := Go.Op.call { callee := Go.Callee.value (Go.Operand.func 26), args := #[Go.Operand.tmp 43], argTypes := #[24] }, type := 3, pos := _, after := #[{ on := 2, ground := Go.Ground.data }, { on := 1, ground := Go.Ground.chain }], guard := none } : Oper)) rfl (fun KK hK => ?_) AllReadyH.nil)
        go_simp
        refine (HE2.out _ (bcat2 hB7 hBc)).mono ?_
        rintro x2 U2 ⟨rfl, hl2⟩
        have hBc := bcat2 hBc hl2
        have hE := Boxed.below hE hl2
        have hD := Boxed.below hD hl2
        try go_wp2_with fail
        refine hK.out _ _ (hS _ hBc) (fun hHeld => ?_)
        clear hK
        try simp only [Act.put, List.setIfInBounds_toArray, List.set_cons_zero, List.set_cons_succ]
        refine wpAnyH_ready (rs := [6]) (by kernel_rfl) (by simp) (AllReadyH.cons (o := ({ dst := none, op := Go.Op.store 3 (Go.Operand.tmp 7) (Go.Operand.tmp 42), type := 0, pos := _, after := #[{ on := 4, ground := Go.Ground.data }, { on := 1, ground := Go.Ground.data }, { on := 3, ground := Go.Ground.chain }, { on := 0, ground := Go.Ground.phase }, { on := 1, ground := Go.Ground.phase }, { on := 2, ground := Go.Ground.textOnly Go.Departure.lateStores }, { on := 3, ground := Go.Ground.textOnly Go.Departure.lateStoresUnsure }, { on := 4, ground := Go.Ground.phase }, { on := 5, ground := Go.Ground.phase }], guard := none } : Oper)) rfl (fun KK hK => ?_) AllReadyH.nil)
        have ce := hE.cell
        have fe := hE.frozen
        go_simp
        have hBc := hBc.setCell (p := ⟨eb, 0, none⟩) hgE (.int .i64 e)
        have hE := Boxed.set (.int .i64 e) hE
        have hD := Boxed.other hD (show db ≠ eb from fun h => hne h.symm) (.int .i64 e)
        refine hK.out _ _ (hS _ hBc) (fun hHeld => ?_)
        clear hK
        try simp only [Act.put, List.setIfInBounds_toArray, List.set_cons_zero, List.set_cons_succ]
        clear ce fe
        generalize (U2).setCell ⟨eb, 0, none⟩ (.int .i64 e) = WE at *
        refine wpAnyH_ready (rs := [7]) (by kernel_rfl) (by simp) (AllReadyH.cons (o := ({ dst := none, op := Go.Op.store 3 (Go.Operand.tmp 8) (Go.Operand.tmp 44), type := 0, pos := _, after := #[{ on := 5, ground := Go.Ground.data }, { on := 3, ground := Go.Ground.data }, { on := 6, ground := Go.Ground.chain }, { on := 0, ground := Go.Ground.phase }, { on := 1, ground := Go.Ground.phase }, { on := 2, ground := Go.Ground.phase }, { on := 3, ground := Go.Ground.phase }, { on := 4, ground := Go.Ground.phase }, { on := 5, ground := Go.Ground.phase }, { on := 6, ground := Go.Ground.phase }], guard := none } : Oper)) rfl (fun KK hK => ?_) AllReadyH.nil)
        have ce := hD.cell
        have fe := hD.frozen
        go_simp
        have hBc := hBc.setCell (p := ⟨db, 0, none⟩) hgD (.int .i64 d)
        have hD := Boxed.set (.int .i64 d) hD
        have hE := Boxed.other hE hne (.int .i64 d)
        refine hK.out _ _ (hS _ hBc) (fun hHeld => ?_)
        clear hK
        try simp only [Act.put, List.setIfInBounds_toArray, List.set_cons_zero, List.set_cons_succ]
        clear ce fe
        refine wpAnyH_done (by kernel_rfl) ?_ _
        go_wp2
        go_meet
        exact ⟨eb, db, rfl, rfl, hE, hD, hBc⟩
    · go_simp
      have hgD : w7.heap.size ≤ (wd).heap.size := hBc.size
      have haD := balloc (wd) (.cells #[.int .i64 0] 3)
      have hBc := bcat2 hBc haD
      have hD := Boxed.new (wd) 3 (.int .i64 0)
      refine hK.out _ _ (hS _ hBc) (fun hHeld => ?_)
      clear hK
      try simp only [Act.put, List.setIfInBounds_toArray, List.set_cons_zero, List.set_cons_succ]
      generalize (wd).alloc (.cells #[.int .i64 0] 3) = WAd at *
      generalize (wd).heap.size = db at *
      refine wpAnyH_ready (rs := [1, 4]) (by kernel_rfl) (by simp) (AllReadyH.cons (o := ({ dst := some 42, op := Go.Op.call { callee := Go.Callee.value (Go.Operand.func 26), args := #[Go.Operand.tmp 41], argTypes := #[24] }, type := 3, pos := _, after := #[{ on := 0, ground := Go.Ground.data }], guard := none } : Oper)) rfl (fun KK hK => ?_) (AllReadyH.cons (o := ({ dst := some 7, op := Go.Op.alloc 3, type := 0, pos := _, after := #[], guard := none } : Oper)) rfl (fun KK hK => ?_) AllReadyH.nil))
      · go_simp
        refine (HE1.out _ (bcat2 hB7 hBc)).mono ?_
        rintro x1 U1 ⟨rfl, hl1⟩
        have hBc := bcat2 hBc hl1
        have hD := Boxed.below hD hl1
        try go_wp2_with fail
        refine hK.out _ _ (hS _ hBc) (fun hHeld => ?_)
        clear hK
        try simp only [Act.put, List.setIfInBounds_toArray, List.set_cons_zero, List.set_cons_succ]
        refine wpAnyH_ready (rs := [3, 4]) (by kernel_rfl) (by simp) (AllReadyH.cons (o := ({ dst := some 44, op := Go.Op.call { callee := Go.Callee.value (Go.Operand.func 26), args := #[Go.Operand.tmp 43], argTypes := #[24] }, type := 3, pos := _, after := #[{ on := 2, ground := Go.Ground.data }, { on := 1, ground := Go.Ground.chain }], guard := none } : Oper)) rfl (fun KK hK => ?_) (AllReadyH.cons (o := ({ dst := some 7, op := Go.Op.alloc 3, type := 0, pos := _, after := #[], guard := none } : Oper)) rfl (fun KK hK => ?_) AllReadyH.nil))
        · go_simp
          refine (HE2.out _ (bcat2 hB7 hBc)).mono ?_
          rintro x2 U2 ⟨rfl, hl2⟩
          have hBc := bcat2 hBc hl2
          have hD := Boxed.below hD hl2
          try go_wp2_with fail
          refine hK.out _ _ (hS _ hBc) (fun hHeld => ?_)
          clear hK
          try simp only [Act.put, List.setIfInBounds_toArray, List.set_cons_zero, List.set_cons_succ]
          refine wpAnyH_ready (rs := [4]) (by kernel_rfl) (by simp) (AllReadyH.cons (o := ({ dst := some 7, op := Go.Op.alloc 3, type := 0, pos := _, after := #[], guard := none } : Oper)) rfl (fun KK hK => ?_) AllReadyH.nil)
          go_simp
          have hgE : w7.heap.size ≤ (U2).heap.size := hBc.size
          have haE := balloc (U2) (.cells #[.int .i64 0] 3)
          have hBc := bcat2 hBc haE
          have hlt9 := hD.lt
          have hD := Boxed.below hD haE
          have hE := Boxed.new (U2) 3 (.int .i64 0)
          refine hK.out _ _ (hS _ hBc) (fun hHeld => ?_)
          clear hK
          try simp only [Act.put, List.setIfInBounds_toArray, List.set_cons_zero, List.set_cons_succ]
          generalize (U2).alloc (.cells #[.int .i64 0] 3) = WAe at *
          generalize (U2).heap.size = eb at *
          have hne : eb ≠ db := by omega
          refine wpAnyH_ready (rs := [6]) (by kernel_rfl) (by simp) (AllReadyH.cons (o := ({ dst := none, op := Go.Op.store 3 (Go.Operand.tmp 7) (Go.Operand.tmp 42), type := 0, pos := _, after := #[{ on := 4, ground := Go.Ground.data }, { on := 1, ground := Go.Ground.data }, { on := 3, ground := Go.Ground.chain }, { on := 0, ground := Go.Ground.phase }, { on := 1, ground := Go.Ground.phase }, { on := 2, ground := Go.Ground.textOnly Go.Departure.lateStores }, { on := 3, ground := Go.Ground.textOnly Go.Departure.lateStoresUnsure }, { on := 4, ground := Go.Ground.phase }, { on := 5, ground := Go.Ground.phase }], guard := none } : Oper)) rfl (fun KK hK => ?_) AllReadyH.nil)
          have ce := hE.cell
          have fe := hE.frozen
          go_simp
          have hBc := hBc.setCell (p := ⟨eb, 0, none⟩) hgE (.int .i64 e)
          have hE := Boxed.set (.int .i64 e) hE
          have hD := Boxed.other hD (show db ≠ eb from fun h => hne h.symm) (.int .i64 e)
          refine hK.out _ _ (hS _ hBc) (fun hHeld => ?_)
          clear hK
          try simp only [Act.put, List.setIfInBounds_toArray, List.set_cons_zero, List.set_cons_succ]
          clear ce fe
          generalize (WAe).setCell ⟨eb, 0, none⟩ (.int .i64 e) = WE at *
          refine wpAnyH_ready (rs := [7]) (by kernel_rfl) (by simp) (AllReadyH.cons (o := ({ dst := none, op := Go.Op.store 3 (Go.Operand.tmp 8) (Go.Operand.tmp 44), type := 0, pos := _, after := #[{ on := 5, ground := Go.Ground.data }, { on := 3, ground := Go.Ground.data }, { on := 6, ground := Go.Ground.chain }, { on := 0, ground := Go.Ground.phase }, { on := 1, ground := Go.Ground.phase }, { on := 2, ground := Go.Ground.phase }, { on := 3, ground := Go.Ground.phase }, { on := 4, ground := Go.Ground.phase }, { on := 5, ground := Go.Ground.phase }, { on := 6, ground := Go.Ground.phase }], guard := none } : Oper)) rfl (fun KK hK => ?_) AllReadyH.nil)
          have ce := hD.cell
          have fe := hD.frozen
          go_simp
          have hBc := hBc.setCell (p := ⟨db, 0, none⟩) hgD (.int .i64 d)
          have hD := Boxed.set (.int .i64 d) hD
          have hE := Boxed.other hE hne (.int .i64 d)
          refine hK.out _ _ (hS _ hBc) (fun hHeld => ?_)
          clear hK
          try simp only [Act.put, List.setIfInBounds_toArray, List.set_cons_zero, List.set_cons_succ]
          clear ce fe
          refine wpAnyH_done (by kernel_rfl) ?_ _
          go_wp2
          go_meet
          exact ⟨eb, db, rfl, rfl, hE, hD, hBc⟩
        · go_simp
          have hgE : w7.heap.size ≤ (U1).heap.size := hBc.size
          have haE := balloc (U1) (.cells #[.int .i64 0] 3)
          have hBc := bcat2 hBc haE
          have hlt9 := hD.lt
          have hD := Boxed.below hD haE
          have hE := Boxed.new (U1) 3 (.int .i64 0)
          refine hK.out _ _ (hS _ hBc) (fun hHeld => ?_)
          clear hK
          try simp only [Act.put, List.setIfInBounds_toArray, List.set_cons_zero, List.set_cons_succ]
          generalize (U1).alloc (.cells #[.int .i64 0] 3) = WAe at *
          generalize (U1).heap.size = eb at *
          have hne : eb ≠ db := by omega
          refine wpAnyH_ready (rs := [3]) (by kernel_rfl) (by simp) (AllReadyH.cons (o := ({ dst := some 44, op := Go.Op.call { callee := Go.Callee.value (Go.Operand.func 26), args := #[Go.Operand.tmp 43], argTypes := #[24] }, type := 3, pos := _, after := #[{ on := 2, ground := Go.Ground.data }, { on := 1, ground := Go.Ground.chain }], guard := none } : Oper)) rfl (fun KK hK => ?_) AllReadyH.nil)
          go_simp
          refine (HE2.out _ (bcat2 hB7 hBc)).mono ?_
          rintro x2 U2 ⟨rfl, hl2⟩
          have hBc := bcat2 hBc hl2
          have hE := Boxed.below hE hl2
          have hD := Boxed.below hD hl2
          try go_wp2_with fail
          refine hK.out _ _ (hS _ hBc) (fun hHeld => ?_)
          clear hK
          try simp only [Act.put, List.setIfInBounds_toArray, List.set_cons_zero, List.set_cons_succ]
          refine wpAnyH_ready (rs := [6]) (by kernel_rfl) (by simp) (AllReadyH.cons (o := ({ dst := none, op := Go.Op.store 3 (Go.Operand.tmp 7) (Go.Operand.tmp 42), type := 0, pos := _, after := #[{ on := 4, ground := Go.Ground.data }, { on := 1, ground := Go.Ground.data }, { on := 3, ground := Go.Ground.chain }, { on := 0, ground := Go.Ground.phase }, { on := 1, ground := Go.Ground.phase }, { on := 2, ground := Go.Ground.textOnly Go.Departure.lateStores }, { on := 3, ground := Go.Ground.textOnly Go.Departure.lateStoresUnsure }, { on := 4, ground := Go.Ground.phase }, { on := 5, ground := Go.Ground.phase }], guard := none } : Oper)) rfl (fun KK hK => ?_) AllReadyH.nil)
          have ce := hE.cell
          have fe := hE.frozen
          go_simp
          have hBc := hBc.setCell (p := ⟨eb, 0, none⟩) hgE (.int .i64 e)
          have hE := Boxed.set (.int .i64 e) hE
          have hD := Boxed.other hD (show db ≠ eb from fun h => hne h.symm) (.int .i64 e)
          refine hK.out _ _ (hS _ hBc) (fun hHeld => ?_)
          clear hK
          try simp only [Act.put, List.setIfInBounds_toArray, List.set_cons_zero, List.set_cons_succ]
          clear ce fe
          generalize (U2).setCell ⟨eb, 0, none⟩ (.int .i64 e) = WE at *
          refine wpAnyH_ready (rs := [7]) (by kernel_rfl) (by simp) (AllReadyH.cons (o := ({ dst := none, op := Go.Op.store 3 (Go.Operand.tmp 8) (Go.Operand.tmp 44), type := 0, pos := _, after := #[{ on := 5, ground := Go.Ground.data }, { on := 3, ground := Go.Ground.data }, { on := 6, ground := Go.Ground.chain }, { on := 0, ground := Go.Ground.phase }, { on := 1, ground := Go.Ground.phase }, { on := 2, ground := Go.Ground.phase }, { on := 3, ground := Go.Ground.phase }, { on := 4, ground := Go.Ground.phase }, { on := 5, ground := Go.Ground.phase }, { on := 6, ground := Go.Ground.phase }], guard := none } : Oper)) rfl (fun KK hK => ?_) AllReadyH.nil)
          have ce := hD.cell
          have fe := hD.frozen
          go_simp
          have hBc := hBc.setCell (p := ⟨db, 0, none⟩) hgD (.int .i64 d)
          have hD := Boxed.set (.int .i64 d) hD
          have hE := Boxed.other hE hne (.int .i64 d)
          refine hK.out _ _ (hS _ hBc) (fun hHeld => ?_)
          clear hK
          try simp only [Act.put, List.setIfInBounds_toArray, List.set_cons_zero, List.set_cons_succ]
          clear ce fe
          refine wpAnyH_done (by kernel_rfl) ?_ _
          go_wp2
          go_meet
          exact ⟨eb, db, rfl, rfl, hE, hD, hBc⟩
      · go_simp
        have hgE : w7.heap.size ≤ (WAd).heap.size := hBc.size
        have haE := balloc (WAd) (.cells #[.int .i64 0] 3)
        have hBc := bcat2 hBc haE
        have hlt9 := hD.lt
        have hD := Boxed.below hD haE
        have hE := Boxed.new (WAd) 3 (.int .i64 0)
        refine hK.out _ _ (hS _ hBc) (fun hHeld => ?_)
        clear hK
        try simp only [Act.put, List.setIfInBounds_toArray, List.set_cons_zero, List.set_cons_succ]
        generalize (WAd).alloc (.cells #[.int .i64 0] 3) = WAe at *
        generalize (WAd).heap.size = eb at *
        have hne : eb ≠ db := by omega
        refine wpAnyH_ready (rs := [1]) (by kernel_rfl) (by simp) (AllReadyH.cons (o := ({ dst := some 42, op := Go.Op.call { callee := Go.Callee.value (Go.Operand.func 26), args := #[Go.Operand.tmp 41], argTypes := #[24] }, type := 3, pos := _, after := #[{ on := 0, ground := Go.Ground.data }], guard := none } : Oper)) rfl (fun KK hK => ?_) AllReadyH.nil)
        go_simp
        refine (HE1.out _ (bcat2 hB7 hBc)).mono ?_
        rintro x1 U1 ⟨rfl, hl1⟩
        have hBc := bcat2 hBc hl1
        have hE := Boxed.below hE hl1
        have hD := Boxed.below hD hl1
        try go_wp2_with fail
        refine hK.out _ _ (hS _ hBc) (fun hHeld => ?_)
        clear hK
        try simp only [Act.put, List.setIfInBounds_toArray, List.set_cons_zero, List.set_cons_succ]
        refine wpAnyH_ready (rs := [3]) (by kernel_rfl) (by simp) (AllReadyH.cons (o := ({ dst := some 44, op := Go.Op.call { callee := Go.Callee.value (Go.Operand.func 26), args := #[Go.Operand.tmp 43], argTypes := #[24] }, type := 3, pos := _, after := #[{ on := 2, ground := Go.Ground.data }, { on := 1, ground := Go.Ground.chain }], guard := none } : Oper)) rfl (fun KK hK => ?_) AllReadyH.nil)
        go_simp
        refine (HE2.out _ (bcat2 hB7 hBc)).mono ?_
        rintro x2 U2 ⟨rfl, hl2⟩
        have hBc := bcat2 hBc hl2
        have hE := Boxed.below hE hl2
        have hD := Boxed.below hD hl2
        try go_wp2_with fail
        refine hK.out _ _ (hS _ hBc) (fun hHeld => ?_)
        clear hK
        try simp only [Act.put, List.setIfInBounds_toArray, List.set_cons_zero, List.set_cons_succ]
        refine wpAnyH_ready (rs := [6]) (by kernel_rfl) (by simp) (AllReadyH.cons (o := ({ dst := none, op := Go.Op.store 3 (Go.Operand.tmp 7) (Go.Operand.tmp 42), type := 0, pos := _, after := #[{ on := 4, ground := Go.Ground.data }, { on := 1, ground := Go.Ground.data }, { on := 3, ground := Go.Ground.chain }, { on := 0, ground := Go.Ground.phase }, { on := 1, ground := Go.Ground.phase }, { on := 2, ground := Go.Ground.textOnly Go.Departure.lateStores }, { on := 3, ground := Go.Ground.textOnly Go.Departure.lateStoresUnsure }, { on := 4, ground := Go.Ground.phase }, { on := 5, ground := Go.Ground.phase }], guard := none } : Oper)) rfl (fun KK hK => ?_) AllReadyH.nil)
        have ce := hE.cell
        have fe := hE.frozen
        go_simp
        have hBc := hBc.setCell (p := ⟨eb, 0, none⟩) hgE (.int .i64 e)
        have hE := Boxed.set (.int .i64 e) hE
        have hD := Boxed.other hD (show db ≠ eb from fun h => hne h.symm) (.int .i64 e)
        refine hK.out _ _ (hS _ hBc) (fun hHeld => ?_)
        clear hK
        try simp only [Act.put, List.setIfInBounds_toArray, List.set_cons_zero, List.set_cons_succ]
        clear ce fe
        generalize (U2).setCell ⟨eb, 0, none⟩ (.int .i64 e) = WE at *
        refine wpAnyH_ready (rs := [7]) (by kernel_rfl) (by simp) (AllReadyH.cons (o := ({ dst := none, op := Go.Op.store 3 (Go.Operand.tmp 8) (Go.Operand.tmp 44), type := 0, pos := _, after := #[{ on := 5, ground := Go.Ground.data }, { on := 3, ground := Go.Ground.data }, { on := 6, ground := Go.Ground.chain }, { on := 0, ground := Go.Ground.phase }, { on := 1, ground := Go.Ground.phase }, { on := 2, ground := Go.Ground.phase }, { on := 3, ground := Go.Ground.phase }, { on := 4, ground := Go.Ground.phase }, { on := 5, ground := Go.Ground.phase }, { on := 6, ground := Go.Ground.phase }], guard := none } : Oper)) rfl (fun KK hK => ?_) AllReadyH.nil)
        have ce := hD.cell
        have fe := hD.frozen
        go_simp
        have hBc := hBc.setCell (p := ⟨db, 0, none⟩) hgD (.int .i64 d)
        have hD := Boxed.set (.int .i64 d) hD
        have hE := Boxed.other hE hne (.int .i64 d)
        refine hK.out _ _ (hS _ hBc) (fun hHeld => ?_)
        clear hK
        try simp only [Act.put, List.setIfInBounds_toArray, List.set_cons_zero, List.set_cons_succ]
        clear ce fe
        refine wpAnyH_done (by kernel_rfl) ?_ _
        go_wp2
        go_meet
        exact ⟨eb, db, rfl, rfl, hE, hD, hBc⟩
  case rest =>
    obtain ⟨eb, db, rfl, rfl, hE, hD, hbx⟩ := hcut
    have hBx := bcat2 hB7 hbx
    have hYx := blk_below hY7 hbx
    have hQx := blk_below hQ7 hbx
    have hFb := blk_below hF7 hbx
    have hPx := HPU.out _ _ _ hP7 hbx
    replace HTA := hide (fun W (h : Below wc.heap.size wc W) => HTA.out W (.slice p1 p2 p3) (w.heap.size + 1) db (bcat2 hBx h) (blk_below hYx h) (Boxed.below hD h))
    replace HTB := hide (fun W (h : Below wc.heap.size wc W) => HTB.out W (.slice p1 p2 p3) (w.heap.size + 1) eb (bcat2 hBx h) (blk_below hYx h) (Boxed.below hE h))
    replace HDI := hide (fun W a b (h : Below wc.heap.size wc W) => HDI.out W (.slice p1 p2 p3) a b (bcat2 hBx h) (HPU.out _ _ _ hPx h))
    clear HBE HPR HTW HE1 HE2 hS hS0 hBc hX7 hY7 hQ7 hF7 hP7 hPx hYx hE hD
    obtain ⟨q0, q1, _, _⟩ := hQx.two
    have hS7 : ∀ W, Below wc.heap.size wc W → (Below wc.heap.size wc W ∧ W.cell? ⟨pb, 0, none⟩ = some (.int .i64 q) ∧ W.cell? ⟨pb, 1, none⟩ = some (.slice p1 p2 p3)) := fun W h => ⟨h, below_cell h q0, below_cell h q1⟩
    have hBc : Below wc.heap.size wc wc.drew := bdrew (Below.refl _ _)
    have hS70 := hS7 _ hBc
    clear q0 q1 hQx
    go_wp2_with fail
    refine wp_region_held_drew (S := fun W => Below wc.heap.size wc W ∧ W.cell? ⟨pb, 0, none⟩ = some (.int .i64 q) ∧ W.cell? ⟨pb, 1, none⟩ = some (.slice p1 p2 p3)) (by kernel_rfl) hS70 (fun hHeld => ?_)
    refine wpAnyH_take (i := 0) (oi := ({ dst := some 46, op := Go.Op.load 24 (Go.Operand.tmp 5), type := 24, pos := _, after := #[], guard := none } : Oper)) (v := ?_) rfl (by kernel_rfl) (by kernel_rfl) (by kernel_rfl) (fun _ _ _ h => h) (Or.inl ⟨by rfl, ?_⟩) (by assumption) ?_
    rotate_left
    · (intro w hSw; (try dsimp only at hSw); go_simp; try with_reducible rfl)
    simp only [Act.put, List.setIfInBounds_toArray, List.set_cons_zero, List.set_cons_succ]
    refine wpAnyH_take (i := 1) (oi := ({ dst := some 47, op := Go.Op.load 24 (Go.Operand.tmp 5), type := 24, pos := _, after := #[], guard := none } : Oper)) (v := ?_) rfl (by kernel_rfl) (by kernel_rfl) (by kernel_rfl) (fun _ _ _ h => h) (Or.inl ⟨by rfl, ?_⟩) (by assumption) ?_
    rotate_left
    · (intro w hSw; (try dsimp only at hSw); go_simp; try with_reducible rfl)
    simp only [Act.put, List.setIfInBounds_toArray, List.set_cons_zero, List.set_cons_succ]
    refine wpAnyH_take (i := 2) (oi := ({ dst := some 48, op := Go.Op.makeFunc (Go.Fn.func 28) #[] #[Go.Operand.tmp 3, Go.Operand.tmp 8], type := 52, pos := _, after := #[], guard := none } : Oper)) (v := ?_) rfl (by kernel_rfl) (by kernel_rfl) (by kernel_rfl) (fun _ _ _ h => h) (Or.inl ⟨by rfl, ?_⟩) (by assumption) ?_
    rotate_left
    · (intro w hSw; (try dsimp only at hSw); go_simp; try with_reducible rfl)
    simp only [Act.put, List.setIfInBounds_toArray, List.set_cons_zero, List.set_cons_succ]
    refine wpAnyH_take (i := 4) (oi := ({ dst := some 50, op := Go.Op.load 24 (Go.Operand.tmp 5), type := 24, pos := _, after := #[], guard := none } : Oper)) (v := ?_) rfl (by kernel_rfl) (by kernel_rfl) (by kernel_rfl) (fun _ _ _ h => h) (Or.inl ⟨by rfl, ?_⟩) (by assumption) ?_
    rotate_left
    · (intro w hSw; (try dsimp only at hSw); go_simp; try with_reducible rfl)
    simp only [Act.put, List.setIfInBounds_toArray, List.set_cons_zero, List.set_cons_succ]
    refine wpAnyH_take (i := 5) (oi := ({ dst := some 51, op := Go.Op.makeFunc (Go.Fn.func 29) #[] #[Go.Operand.tmp 3, Go.Operand.tmp 7], type := 52, pos := _, after := #[], guard := none } : Oper)) (v := ?_) rfl (by kernel_rfl) (by kernel_rfl) (by kernel_rfl) (fun _ _ _ h => h) (Or.inl ⟨by rfl, ?_⟩) (by assumption) ?_
    rotate_left
    · (intro w hSw; (try dsimp only at hSw); go_simp; try with_reducible rfl)
    simp only [Act.put, List.setIfInBounds_toArray, List.set_cons_zero, List.set_cons_succ]
    refine wpAnyH_ready (rs := [3]) (by kernel_rfl) (by simp) (AllReadyH.cons (o := ({ dst := some 49, op := Go.Op.call { callee := Go.Callee.value (Go.Operand.func 27), args := #[Go.Operand.tmp 47, Go.Operand.tmp 48], argTypes := #[24, 52] }, type := 22, pos := _, after := #[{ on := 1, ground := Go.Ground.data }, { on := 2, ground := Go.Ground.data }], guard := none } : Oper)) rfl (fun KK hK => ?_) AllReadyH.nil)
    go_simp
    refine (HTA.out _ hBc).mono ?_
    rintro x3 U3 ⟨a31, a32, a33, rfl, hA3, hl3⟩
    have hBc := bcat2 hBc hl3
    try go_wp2_with fail
    refine hK.out _ _ (hS7 _ hBc) (fun hHeld => ?_)
    clear hK
    try simp only [Act.put, List.setIfInBounds_toArray, List.set_cons_zero, List.set_cons_succ]
    refine wpAnyH_ready (rs := [6]) (by kernel_rfl) (by simp) (AllReadyH.cons (o := ({ dst := some 52, op := Go.Op.call { callee := Go.Callee.value (Go.Operand.func 27), args := #[Go.Operand.tmp 50, Go.Operand.tmp 51], argTypes := #[24, 52] }, type := 22, pos := _, after := #[{ on := 4, ground := Go.Ground.data }, { on := 5, ground := Go.Ground.data }, { on := 3, ground := Go.Ground.chain }], guard := none } : Oper)) rfl (fun KK hK => ?_) AllReadyH.nil)
    go_simp
    refine (HTB.out _ hBc).mono ?_
    rintro x4 U4 ⟨a41, a42, a43, rfl, hA4, hl4⟩
    have hBc := bcat2 hBc hl4
    have hA3 := HAU.out _ _ _ hA3 hl4
    try go_wp2_with fail
    refine hK.out _ _ (hS7 _ hBc) (fun hHeld => ?_)
    clear hK
    try simp only [Act.put, List.setIfInBounds_toArray, List.set_cons_zero, List.set_cons_succ]
    refine wpAnyH_ready (rs := [7]) (by kernel_rfl) (by simp) (AllReadyH.cons (o := ({ dst := some 53, op := Go.Op.call { callee := Go.Callee.value (Go.Operand.func 19), args := #[Go.Operand.tmp 46, Go.Operand.tmp 49, Go.Operand.tmp 52], argTypes := #[24, 22, 22] }, type := 43, pos := _, after := #[{ on := 0, ground := Go.Ground.data }, { on := 3, ground := Go.Ground.data }, { on := 6, ground := Go.Ground.data }, { on := 6, ground := Go.Ground.chain }], guard := none } : Oper)) rfl (fun KK hK => ?_) AllReadyH.nil)
    go_simp
    refine (HDI.out _ _ _ hBc hA3 hA4).mono ?_
    rintro x5 U5 ⟨rfl, hl5⟩
    have hBc := bcat2 hBc hl5
    try go_wp2_with fail
    refine hK.out _ _ (hS7 _ hBc) (fun hHeld => ?_)
    clear hK
    try simp only [Act.put, List.setIfInBounds_toArray, List.set_cons_zero, List.set_cons_succ]
    refine wpAnyH_take (i := 8) (oi := ({ dst := some 45, op := Go.Op.move (Go.Operand.tmp 53), type := 43, pos := _, after := #[{ on := 7, ground := Go.Ground.data }], guard := none } : Oper)) (v := ?_) rfl (by kernel_rfl) (by kernel_rfl) (by kernel_rfl) (fun _ _ _ h => h) (Or.inl ⟨by rfl, ?_⟩) (by assumption) ?_
    rotate_left
    · (intro w hSw; (try dsimp only at hSw); go_simp; try with_reducible rfl)
    simp only [Act.put, List.setIfInBounds_toArray, List.set_cons_zero, List.set_cons_succ]
    refine wpAnyH_take (i := 9) (oi := ({ dst := some 54, op := Go.Op.extract (Go.Operand.tmp 45) 0, type := 4, pos := _, after := #[{ on := 8, ground := Go.Ground.data }], guard := none } : Oper)) (v := ?_) rfl (by kernel_rfl) (by kernel_rfl) (by kernel_rfl) (fun _ _ _ h => h) (Or.inl ⟨by rfl, ?_⟩) (by assumption) ?_
    rotate_left
    · (intro w hSw; (try dsimp only at hSw); go_simp; try with_reducible rfl)
    simp only [Act.put, List.setIfInBounds_toArray, List.set_cons_zero, List.set_cons_succ]
    refine wpAnyH_take (i := 10) (oi := ({ dst := some 55, op := Go.Op.extract (Go.Operand.tmp 45) 1, type := 28, pos := _, after := #[{ on := 8, ground := Go.Ground.data }, { on := 11, ground := Go.Ground.gcOnly Go.Departure.lateStores }], guard := none } : Oper)) (v := ?_) rfl (by kernel_rfl) (by kernel_rfl) (by kernel_rfl) (fun _ _ _ h => h) (Or.inl ⟨by rfl, ?_⟩) (by assumption) ?_
    rotate_left
    · (intro w hSw; (try dsimp only at hSw); go_simp; try with_reducible rfl)
    simp only [Act.put, List.setIfInBounds_toArray, List.set_cons_zero, List.set_cons_succ]
    refine wpAnyH_take (i := 11) (oi := ({ dst := some 9, op := Go.Op.assign (Go.Operand.tmp 54), type := 4, pos := _, after := #[{ on := 9, ground := Go.Ground.data }, { on := 7, ground := Go.Ground.chain }, { on := 0, ground := Go.Ground.phase }, { on := 1, ground := Go.Ground.phase }, { on := 2, ground := Go.Ground.phase }, { on := 3, ground := Go.Ground.phase }, { on := 4, ground := Go.Ground.phase }, { on := 5, ground := Go.Ground.phase }, { on := 6, ground := Go.Ground.phase }, { on := 7, ground := Go.Ground.phase }, { on := 8, ground := Go.Ground.phase }, { on := 9, ground := Go.Ground.phase }, { on := 10, ground := Go.Ground.textOnly Go.Departure.lateStores }], guard := none } : Oper)) (v := ?_) rfl (by kernel_rfl) (by kernel_rfl) (by kernel_rfl) (fun _ _ _ h => h) (Or.inl ⟨by rfl, ?_⟩) (by assumption) ?_
    rotate_left
    · (intro w hSw; (try dsimp only at hSw); go_simp; try with_reducible rfl)
    simp only [Act.put, List.setIfInBounds_toArray, List.set_cons_zero, List.set_cons_succ]
    refine wpAnyH_ready (rs := [12]) (by kernel_rfl) (by simp) (AllReadyH.cons (o := ({ dst := none, op := Go.Op.store 28 (Go.Operand.tmp 6) (Go.Operand.tmp 55), type := 0, pos := _, after := #[{ on := 10, ground := Go.Ground.data }, { on := 11, ground := Go.Ground.chain }, { on := 0, ground := Go.Ground.phase }, { on := 1, ground := Go.Ground.phase }, { on := 2, ground := Go.Ground.phase }, { on := 3, ground := Go.Ground.phase }, { on := 4, ground := Go.Ground.phase }, { on := 5, ground := Go.Ground.phase }, { on := 6, ground := Go.Ground.phase }, { on := 7, ground := Go.Ground.phase }, { on := 8, ground := Go.Ground.phase }, { on := 9, ground := Go.Ground.phase }, { on := 10, ground := Go.Ground.phase }, { on := 11, ground := Go.Ground.phase }], guard := none } : Oper)) rfl (fun KK hK => ?_) AllReadyH.nil)
    have hFx := blk_below hFb hBc
    obtain ⟨k0, k1, k2, k3⟩ := hFx.two
    obtain ⟨s8, s9⟩ := hFx.self
    go_simp
    refine hK.out _ _ (hS7 _ hBc) (fun hHeld => ?_)
    clear hK
    try simp only [Act.put, List.setIfInBounds_toArray, List.set_cons_zero, List.set_cons_succ]
    refine wpAnyH_done (by kernel_rfl) ?_ _
    obtain ⟨z0, z1, _, _⟩ := (blk_below hFb hBc).two
    have hBz := bcat2 hBx hBc
    go_wp2
    go_ret
    exact ⟨rfl, hBz⟩
end Go.Proofs.YtanbpjfdfnmjpaaDoor

namespace Go.Proofs.YtanbpjfdfnmjpaaDoor
open Go Go.RowKit

/-- A fault is put into its box: two other boxes stay. -/
theorem put_box {W w : World} {b p q : Nat} {x y x1 x2 y1 y2 : Value} {T1 T2 : TypeId} (h : Blk W b 28 [x, y]) (h1 : Blk W p T1 [x1, x2]) (h2 : Blk W q T2 [y1, y2]) (hB : Below w.heap.size w W) (hp : p < b) (hq : q < b) (hb : w.heap.size ≤ b) (c i : Int) :
    Blk ((W.setCell ⟨b, 0, none⟩ (.int .i64 c)).setCell ⟨b, 1, none⟩ (.int .i64 i)) b 28 [.int .i64 c, .int .i64 i] ∧ Blk ((W.setCell ⟨b, 0, none⟩ (.int .i64 c)).setCell ⟨b, 1, none⟩ (.int .i64 i)) p T1 [x1, x2] ∧ Blk ((W.setCell ⟨b, 0, none⟩ (.int .i64 c)).setCell ⟨b, 1, none⟩ (.int .i64 i)) q T2 [y1, y2] ∧ Below w.heap.size w ((W.setCell ⟨b, 0, none⟩ (.int .i64 c)).setCell ⟨b, 1, none⟩ (.int .i64 i)) := by
  obtain ⟨k1, k2⟩ := put2 h hB hb c i
  exact ⟨k1, (h1.other (by show p ≠ b; omega) _).other (by show p ≠ b; omega) _, (h2.other (by show q ≠ b; omega) _).other (by show q ≠ b; omega) _, k2⟩
set_option maxRecDepth 100000 in
set_option maxHeartbeats 8000000 in
theorem pdir_walk (N : Int) (v1 : Option Addr) (v2 v3 : Nat) (l1 : Option Addr) (l2 l3 : Nat) (m1 : Option Addr) (m2 m3 : Nat) (dc di sc si lc li : Int) (D CL T : Bool) (w : World)
    (GP LP MP : World → Value → Prop) (HGU : Hid (∀ W W' u, GP W u → Below W.heap.size W W' → GP W' u)) (HLU : Hid (∀ W W' u, LP W u → Below W.heap.size W W' → LP W' u))
    (HOG : Hid (∀ W, Below w.heap.size w W → Calls Tryd.prog 8 #[.agg #[.int .i64 N, .slice v1 v2 v3]] W fun x W' => ∃ u1 u2 u3, x = .returned (.agg #[.int .i64 N, .slice u1 u2 u3]) ∧ GP W' (.slice u1 u2 u3) ∧ Below W.heap.size W W'))
    (HOL : Hid (∀ W, Below w.heap.size w W → Calls Tryd.prog 20 #[.slice l1 l2 l3] W fun x W' => ∃ u1 u2 u3, x = .returned (.slice u1 u2 u3) ∧ LP W' (.slice u1 u2 u3) ∧ Below W.heap.size W W'))
    (HOM : Hid (∀ W, Below w.heap.size w W → Calls Tryd.prog 20 #[.slice m1 m2 m3] W fun x W' => ∃ u1 u2 u3, x = .returned (.slice u1 u2 u3) ∧ MP W' (.slice u1 u2 u3) ∧ Below W.heap.size W W'))
    (HDI : Hid (∀ W u a b, Below w.heap.size w W → GP W u → LP W a → MP W b → Calls Tryd.prog 19 #[.agg #[.int .i64 N, u], a, b] W fun x W' => x = .returned (.tuple #[.bool D, .agg #[.int .i64 dc, .int .i64 di]]) ∧ Below W.heap.size W W'))
    (HSF : Hid (∀ W, Below w.heap.size w W → Calls Tryd.prog 21 #[.agg #[.int .i64 N, .slice v1 v2 v3], .slice l1 l2 l3] W fun x W' => x = .returned (.agg #[.int .i64 sc, .int .i64 si]) ∧ Below W.heap.size W W'))
    (HLF : Hid (sc = 0 → ∀ W, Below w.heap.size w W → Calls Tryd.prog 22 #[.agg #[.int .i64 N, .slice v1 v2 v3], .slice m1 m2 m3] W fun x W' => x = .returned (.agg #[.int .i64 lc, .int .i64 li]) ∧ Below W.heap.size W W'))
    (HCL : Hid (sc = 0 → lc = 0 → ∀ W, Below w.heap.size w W → Calls Tryd.prog 23 #[.agg #[.int .i64 N, .slice v1 v2 v3], .slice m1 m2 m3] W fun x W' => x = .returned (.bool CL) ∧ Below W.heap.size W W'))
    (HFF : Hid (∀ W, Below w.heap.size w W → Calls Tryd.prog 11 #[.int .i64 7, .int .i64 0] W fun x W' => x = .returned (.agg #[.int .i64 7, .int .i64 0]) ∧ Below W.heap.size W W'))
    (HBE : Hid (∀ W, Below w.heap.size w W → Calls Tryd.prog 6 #[] W fun x W' => x = .returned (.bool true) ∧ Below W.heap.size W W'))
    (HTG : Hid (sc = 0 → lc = 0 → CL = true → ∀ W, Below w.heap.size w W → Calls Tryd.prog 24 #[.agg #[.int .i64 N, .slice v1 v2 v3], .slice l1 l2 l3, .slice m1 m2 m3] W fun x W' => x = .returned (.bool T) ∧ Below W.heap.size W W'))
    (HW : (sc ≠ 0 ∧ dc = sc ∧ di = si ∧ D = false) ∨ (sc = 0 ∧ lc ≠ 0 ∧ dc = lc ∧ di = li ∧ D = false) ∨ (sc = 0 ∧ lc = 0 ∧ CL = false ∧ dc = 7 ∧ di = 0 ∧ D = false) ∨ (sc = 0 ∧ lc = 0 ∧ CL = true ∧ dc = 0 ∧ di = li ∧ T = D)) :
    Calls Tryd.prog 4 #[.agg #[.int .i64 N, .slice v1 v2 v3], .slice l1 l2 l3, .slice m1 m2 m3] w fun x w' => x = .returned (.bool true) ∧ Below w.heap.size w w' := by
  obtain ⟨w0, hw0⟩ : ∃ w0, w0 = w.alloc (.cells #[.int .i64 N, .slice v1 v2 v3] 24) := ⟨_, rfl⟩
  have hB0 : Below w.heap.size w w0 := by rw [hw0]; exact balloc w _
  have hX0 : Blk w0 w.heap.size 24 [.int .i64 N, .slice v1 v2 v3] := by rw [hw0]; exact blk0 _ _
  rcases HW with ⟨hz, rfl, rfl, rfl⟩ | ⟨rfl, hz, rfl, rfl, rfl⟩ | ⟨rfl, rfl, rfl, rfl, rfl, rfl⟩ | ⟨rfl, rfl, rfl, rfl, rfl, rfl⟩
  · have hzb : ((dc : Int) == 0) = false := by simpa using hz
    clear hz
    go_enter Tryd.func4, Tryd.ntmps4
    go_wp2_with fail
    rw [← hw0]
    clear hw0
    obtain ⟨g0, g1, _, _⟩ := hX0.two
    go_wp2_with fail
    refine (HOG.out _ hB0).mono ?_
    rintro x1 W1 ⟨u1, u2, u3, rfl, hG1, hb1⟩
    have hB1 := bcat2 hB0 hb1
    go_wp2_with fail
    refine (HOL.out _ hB1).mono ?_
    rintro x2 W2 ⟨a1, a2, a3, rfl, hL2, hb2⟩
    have hB2 := bcat2 hB1 hb2
    have hG2 := HGU.out _ _ _ hG1 hb2
    clear hG1
    go_wp2_with fail
    refine (HOM.out _ hB2).mono ?_
    rintro x3 W3 ⟨c1, c2, c3, rfl, hM3, hb3⟩
    have hB3 := bcat2 hB2 hb3
    have hG3 := HGU.out _ _ _ hG2 hb3
    have hL3 := HLU.out _ _ _ hL2 hb3
    clear hG2 hL2
    go_wp2_with fail
    refine (HDI.out _ _ _ _ hB3 hG3 hL3 hM3).mono ?_
    rintro x4 W4 ⟨rfl, hb4⟩
    have hbz := bcat2 hb1 (bcat2 hb2 (bcat2 hb3 hb4))
    clear hG3 hL3 hM3 g0 g1 hb1 hb2 hb3 hb4 hB1 hB2 hB3
    obtain ⟨W5, hW5⟩ : ∃ W5, W5 = W4.alloc (.cells #[.int .i64 dc, .int .i64 di] 28) := ⟨_, rfl⟩
    have hb5 : Below w0.heap.size w0 W5 := by rw [hW5]; exact bcat2 hbz (balloc W4 _)
    have hF5 : Blk W5 W4.heap.size 28 [.int .i64 dc, .int .i64 di] := by rw [hW5]; exact blk0 _ _
    have hX5 := blk_below hX0 hb5
    obtain ⟨g0, g1, _, _⟩ := hX5.two
    rw [hW5] at g0 g1
    have hg4 : w.heap.size < W4.heap.size := by have := hbz.size; have := hX0.lt; omega
    go_wp2_with fail
    rw [← hW5]
    clear hW5
    have hB5 := bcat2 hB0 hb5
    have hfl := hF5.lt
    generalize W4.heap.size = fb at *
    clear hbz
    refine (HSF.out _ hB5).mono ?_
    rintro x6 W6 ⟨rfl, hb6⟩
    obtain ⟨W7, hW7⟩ : ∃ W7, W7 = W6.alloc (.cells #[.int .i64 dc, .int .i64 di] 28) := ⟨_, rfl⟩
    have hb7 : Below W5.heap.size W5 W7 := by rw [hW7]; exact bcat2 hb6 (balloc W6 _)
    have hR7 : Blk W7 W6.heap.size 28 [.int .i64 dc, .int .i64 di] := by rw [hW7]; exact blk0 _ _
    have hF7 := blk_below hF5 hb7
    have hX7 := blk_below hX5 hb7
    have hB7 := bcat2 hB5 hb7
    have hfw : fb < W6.heap.size := by have := hb6.size; omega
    have hgw : w.heap.size < W6.heap.size := by omega
    clear hb7 hF5 hX5 g0 g1
    obtain ⟨g0, g1, _, _⟩ := hX7.two
    obtain ⟨f0, f1, _, _⟩ := hF7.two
    obtain ⟨r0, r1, _, _⟩ := hR7.two
    rw [hW7] at g0 g1 f0 f1 r0 r1
    go_wp2_with fail
    rw [← hW7] at g0 g1 f0 f1 r0 r1
    rw [← hW7]
    clear hW7
    generalize W6.heap.size = wb at *
    refine (HBE.out _ hB7).mono ?_
    rintro x8 W8 ⟨rfl, hb8⟩
    have f0' := below_cell hb8 f0
    have f1' := below_cell hb8 f1
    have r0' := below_cell hb8 r0
    have r1' := below_cell hb8 r1
    clear f0 f1 r0 r1 g0 g1
    go_wp2
    go_ret
    exact ⟨by simp, bcat2 hB7 hb8⟩
  · replace HLF := hide (HLF.out rfl)
    have hzb : ((dc : Int) == 0) = false := by simpa using hz
    clear hz
    go_enter Tryd.func4, Tryd.ntmps4
    go_wp2_with fail
    rw [← hw0]
    clear hw0
    obtain ⟨g0, g1, _, _⟩ := hX0.two
    go_wp2_with fail
    refine (HOG.out _ hB0).mono ?_
    rintro x1 W1 ⟨u1, u2, u3, rfl, hG1, hb1⟩
    have hB1 := bcat2 hB0 hb1
    go_wp2_with fail
    refine (HOL.out _ hB1).mono ?_
    rintro x2 W2 ⟨a1, a2, a3, rfl, hL2, hb2⟩
    have hB2 := bcat2 hB1 hb2
    have hG2 := HGU.out _ _ _ hG1 hb2
    clear hG1
    go_wp2_with fail
    refine (HOM.out _ hB2).mono ?_
    rintro x3 W3 ⟨c1, c2, c3, rfl, hM3, hb3⟩
    have hB3 := bcat2 hB2 hb3
    have hG3 := HGU.out _ _ _ hG2 hb3
    have hL3 := HLU.out _ _ _ hL2 hb3
    clear hG2 hL2
    go_wp2_with fail
    refine (HDI.out _ _ _ _ hB3 hG3 hL3 hM3).mono ?_
    rintro x4 W4 ⟨rfl, hb4⟩
    have hbz := bcat2 hb1 (bcat2 hb2 (bcat2 hb3 hb4))
    clear hG3 hL3 hM3 g0 g1 hb1 hb2 hb3 hb4 hB1 hB2 hB3
    obtain ⟨W5, hW5⟩ : ∃ W5, W5 = W4.alloc (.cells #[.int .i64 dc, .int .i64 di] 28) := ⟨_, rfl⟩
    have hb5 : Below w0.heap.size w0 W5 := by rw [hW5]; exact bcat2 hbz (balloc W4 _)
    have hF5 : Blk W5 W4.heap.size 28 [.int .i64 dc, .int .i64 di] := by rw [hW5]; exact blk0 _ _
    have hX5 := blk_below hX0 hb5
    obtain ⟨g0, g1, _, _⟩ := hX5.two
    rw [hW5] at g0 g1
    have hg4 : w.heap.size < W4.heap.size := by have := hbz.size; have := hX0.lt; omega
    go_wp2_with fail
    rw [← hW5]
    clear hW5
    have hB5 := bcat2 hB0 hb5
    have hfl := hF5.lt
    generalize W4.heap.size = fb at *
    clear hbz
    refine (HSF.out _ hB5).mono ?_
    rintro x6 W6 ⟨rfl, hb6⟩
    obtain ⟨W7, hW7⟩ : ∃ W7, W7 = W6.alloc (.cells #[.int .i64 0, .int .i64 si] 28) := ⟨_, rfl⟩
    have hb7 : Below W5.heap.size W5 W7 := by rw [hW7]; exact bcat2 hb6 (balloc W6 _)
    have hR7 : Blk W7 W6.heap.size 28 [.int .i64 0, .int .i64 si] := by rw [hW7]; exact blk0 _ _
    have hF7 := blk_below hF5 hb7
    have hX7 := blk_below hX5 hb7
    have hB7 := bcat2 hB5 hb7
    have hfw : fb < W6.heap.size := by have := hb6.size; omega
    have hgw : w.heap.size < W6.heap.size := by omega
    clear hb7 hF5 hX5 g0 g1
    obtain ⟨g0, g1, _, _⟩ := hX7.two
    obtain ⟨f0, f1, _, _⟩ := hF7.two
    obtain ⟨r0, r1, _, _⟩ := hR7.two
    rw [hW7] at g0 g1 f0 f1 r0 r1
    go_wp2_with fail
    rw [← hW7] at g0 g1 f0 f1 r0 r1
    rw [← hW7]
    clear hW7
    generalize W6.heap.size = wb at *
    refine (HLF.out _ hB7).mono ?_
    rintro x8 W8 ⟨rfl, hb8⟩
    have hR8 := blk_below hR7 hb8
    have hF8 := blk_below hF7 hb8
    have hX8 := blk_below hX7 hb8
    have hB8 := bcat2 hB7 hb8
    clear g0 g1 f0 f1 r0 r1
    obtain ⟨y0, y1, fy0, fy1⟩ := hR8.two
    obtain ⟨hR9, hX9, hF9, hB9⟩ := put_box hR8 hX8 hF8 hB8 (by omega) (by omega) (by have := hB0.size; omega) dc di
    obtain ⟨g0, g1, _, _⟩ := hX9.two
    obtain ⟨f0, f1, _, _⟩ := hF9.two
    obtain ⟨r0, r1, _, _⟩ := hR9.two
    go_wp2_with fail
    clear g0 g1 f0 f1 r0 r1
    generalize (W8.setCell ⟨wb, 0, none⟩ (.int .i64 dc)).setCell ⟨wb, 1, none⟩ (.int .i64 di) = W9 at *
    clear y0 y1 fy0 fy1 hR8 hF8 hX8 hB8 hb8 hR7 hF7 hX7 hB7
    obtain ⟨g0, g1, _, _⟩ := hX9.two
    obtain ⟨f0, f1, _, _⟩ := hF9.two
    obtain ⟨r0, r1, _, _⟩ := hR9.two
    refine (HBE.out _ hB9).mono ?_
    rintro x10 W10 ⟨rfl, hb10⟩
    have f0' := below_cell hb10 f0
    have f1' := below_cell hb10 f1
    have r0' := below_cell hb10 r0
    have r1' := below_cell hb10 r1
    clear f0 f1 r0 r1 g0 g1
    go_wp2
    go_ret
    exact ⟨by simp, bcat2 hB9 hb10⟩
  · replace HLF := hide (HLF.out rfl)
    replace HCL := hide (HCL.out rfl rfl)
    go_enter Tryd.func4, Tryd.ntmps4
    go_wp2_with fail
    rw [← hw0]
    clear hw0
    obtain ⟨g0, g1, _, _⟩ := hX0.two
    go_wp2_with fail
    refine (HOG.out _ hB0).mono ?_
    rintro x1 W1 ⟨u1, u2, u3, rfl, hG1, hb1⟩
    have hB1 := bcat2 hB0 hb1
    go_wp2_with fail
    refine (HOL.out _ hB1).mono ?_
    rintro x2 W2 ⟨a1, a2, a3, rfl, hL2, hb2⟩
    have hB2 := bcat2 hB1 hb2
    have hG2 := HGU.out _ _ _ hG1 hb2
    clear hG1
    go_wp2_with fail
    refine (HOM.out _ hB2).mono ?_
    rintro x3 W3 ⟨c1, c2, c3, rfl, hM3, hb3⟩
    have hB3 := bcat2 hB2 hb3
    have hG3 := HGU.out _ _ _ hG2 hb3
    have hL3 := HLU.out _ _ _ hL2 hb3
    clear hG2 hL2
    go_wp2_with fail
    refine (HDI.out _ _ _ _ hB3 hG3 hL3 hM3).mono ?_
    rintro x4 W4 ⟨rfl, hb4⟩
    have hbz := bcat2 hb1 (bcat2 hb2 (bcat2 hb3 hb4))
    clear hG3 hL3 hM3 g0 g1 hb1 hb2 hb3 hb4 hB1 hB2 hB3
    obtain ⟨W5, hW5⟩ : ∃ W5, W5 = W4.alloc (.cells #[.int .i64 7, .int .i64 0] 28) := ⟨_, rfl⟩
    have hb5 : Below w0.heap.size w0 W5 := by rw [hW5]; exact bcat2 hbz (balloc W4 _)
    have hF5 : Blk W5 W4.heap.size 28 [.int .i64 7, .int .i64 0] := by rw [hW5]; exact blk0 _ _
    have hX5 := blk_below hX0 hb5
    obtain ⟨g0, g1, _, _⟩ := hX5.two
    rw [hW5] at g0 g1
    have hg4 : w.heap.size < W4.heap.size := by have := hbz.size; have := hX0.lt; omega
    go_wp2_with fail
    rw [← hW5]
    clear hW5
    have hB5 := bcat2 hB0 hb5
    have hfl := hF5.lt
    generalize W4.heap.size = fb at *
    clear hbz
    refine (HSF.out _ hB5).mono ?_
    rintro x6 W6 ⟨rfl, hb6⟩
    obtain ⟨W7, hW7⟩ : ∃ W7, W7 = W6.alloc (.cells #[.int .i64 0, .int .i64 si] 28) := ⟨_, rfl⟩
    have hb7 : Below W5.heap.size W5 W7 := by rw [hW7]; exact bcat2 hb6 (balloc W6 _)
    have hR7 : Blk W7 W6.heap.size 28 [.int .i64 0, .int .i64 si] := by rw [hW7]; exact blk0 _ _
    have hF7 := blk_below hF5 hb7
    have hX7 := blk_below hX5 hb7
    have hB7 := bcat2 hB5 hb7
    have hfw : fb < W6.heap.size := by have := hb6.size; omega
    have hgw : w.heap.size < W6.heap.size := by omega
    clear hb7 hF5 hX5 g0 g1
    obtain ⟨g0, g1, _, _⟩ := hX7.two
    obtain ⟨f0, f1, _, _⟩ := hF7.two
    obtain ⟨r0, r1, _, _⟩ := hR7.two
    rw [hW7] at g0 g1 f0 f1 r0 r1
    go_wp2_with fail
    rw [← hW7] at g0 g1 f0 f1 r0 r1
    rw [← hW7]
    clear hW7
    generalize W6.heap.size = wb at *
    refine (HLF.out _ hB7).mono ?_
    rintro x8 W8 ⟨rfl, hb8⟩
    have hR8 := blk_below hR7 hb8
    have hF8 := blk_below hF7 hb8
    have hX8 := blk_below hX7 hb8
    have hB8 := bcat2 hB7 hb8
    clear g0 g1 f0 f1 r0 r1
    obtain ⟨y0, y1, fy0, fy1⟩ := hR8.two
    obtain ⟨hR9, hX9, hF9, hB9⟩ := put_box hR8 hX8 hF8 hB8 (by omega) (by omega) (by have := hB0.size; omega) 0 li
    obtain ⟨g0, g1, _, _⟩ := hX9.two
    obtain ⟨f0, f1, _, _⟩ := hF9.two
    obtain ⟨r0, r1, _, _⟩ := hR9.two
    go_wp2_with fail
    clear g0 g1 f0 f1 r0 r1
    generalize (W8.setCell ⟨wb, 0, none⟩ (.int .i64 0)).setCell ⟨wb, 1, none⟩ (.int .i64 li) = W9 at *
    clear y0 y1 fy0 fy1 hR8 hF8 hX8 hB8 hb8 hR7 hF7 hX7 hB7
    obtain ⟨g0, g1, _, _⟩ := hX9.two
    obtain ⟨f0, f1, _, _⟩ := hF9.two
    obtain ⟨r0, r1, _, _⟩ := hR9.two
    refine (HCL.out _ hB9).mono ?_
    rintro x10 W10 ⟨rfl, hb10⟩
    have hR10 := blk_below hR9 hb10
    have hF10 := blk_below hF9 hb10
    have hX10 := blk_below hX9 hb10
    have hB10 := bcat2 hB9 hb10
    clear g0 g1 f0 f1 r0 r1 hR9 hF9 hX9 hB9 hb10
    obtain ⟨g0, g1, _, _⟩ := hX10.two
    obtain ⟨f0, f1, _, _⟩ := hF10.two
    obtain ⟨r0, r1, _, _⟩ := hR10.two
    go_wp2_with fail
    refine (HFF.out _ hB10).mono ?_
    rintro x11 W11 ⟨rfl, hb11⟩
    have hR11 := blk_below hR10 hb11
    have hF11 := blk_below hF10 hb11
    have hX11 := blk_below hX10 hb11
    have hB11 := bcat2 hB10 hb11
    clear g0 g1 f0 f1 r0 r1
    obtain ⟨y0, y1, fy0, fy1⟩ := hR11.two
    obtain ⟨hR9, hX9, hF9, hB9⟩ := put_box hR11 hX11 hF11 hB11 (by omega) (by omega) (by have := hB0.size; omega) 7 0
    obtain ⟨g0, g1, _, _⟩ := hX9.two
    obtain ⟨f0, f1, _, _⟩ := hF9.two
    obtain ⟨r0, r1, _, _⟩ := hR9.two
    go_wp2_with fail
    clear g0 g1 f0 f1 r0 r1
    generalize (W11.setCell ⟨wb, 0, none⟩ (.int .i64 7)).setCell ⟨wb, 1, none⟩ (.int .i64 0) = W9 at *
    clear y0 y1 fy0 fy1 hR11 hF11 hX11 hB11 hb11 hR10 hF10 hX10 hB10
    obtain ⟨g0, g1, _, _⟩ := hX9.two
    obtain ⟨f0, f1, _, _⟩ := hF9.two
    obtain ⟨r0, r1, _, _⟩ := hR9.two
    refine (HBE.out _ hB9).mono ?_
    rintro x12 W12 ⟨rfl, hb12⟩
    have f0' := below_cell hb12 f0
    have f1' := below_cell hb12 f1
    have r0' := below_cell hb12 r0
    have r1' := below_cell hb12 r1
    clear f0 f1 r0 r1 g0 g1
    go_wp2
    go_ret
    exact ⟨by simp, bcat2 hB9 hb12⟩
  · replace HLF := hide (HLF.out rfl)
    replace HCL := hide (HCL.out rfl rfl)
    replace HTG := hide (HTG.out rfl rfl rfl)
    go_enter Tryd.func4, Tryd.ntmps4
    go_wp2_with fail
    rw [← hw0]
    clear hw0
    obtain ⟨g0, g1, _, _⟩ := hX0.two
    go_wp2_with fail
    refine (HOG.out _ hB0).mono ?_
    rintro x1 W1 ⟨u1, u2, u3, rfl, hG1, hb1⟩
    have hB1 := bcat2 hB0 hb1
    go_wp2_with fail
    refine (HOL.out _ hB1).mono ?_
    rintro x2 W2 ⟨a1, a2, a3, rfl, hL2, hb2⟩
    have hB2 := bcat2 hB1 hb2
    have hG2 := HGU.out _ _ _ hG1 hb2
    clear hG1
    go_wp2_with fail
    refine (HOM.out _ hB2).mono ?_
    rintro x3 W3 ⟨c1, c2, c3, rfl, hM3, hb3⟩
    have hB3 := bcat2 hB2 hb3
    have hG3 := HGU.out _ _ _ hG2 hb3
    have hL3 := HLU.out _ _ _ hL2 hb3
    clear hG2 hL2
    go_wp2_with fail
    refine (HDI.out _ _ _ _ hB3 hG3 hL3 hM3).mono ?_
    rintro x4 W4 ⟨rfl, hb4⟩
    have hbz := bcat2 hb1 (bcat2 hb2 (bcat2 hb3 hb4))
    clear hG3 hL3 hM3 g0 g1 hb1 hb2 hb3 hb4 hB1 hB2 hB3
    obtain ⟨W5, hW5⟩ : ∃ W5, W5 = W4.alloc (.cells #[.int .i64 0, .int .i64 di] 28) := ⟨_, rfl⟩
    have hb5 : Below w0.heap.size w0 W5 := by rw [hW5]; exact bcat2 hbz (balloc W4 _)
    have hF5 : Blk W5 W4.heap.size 28 [.int .i64 0, .int .i64 di] := by rw [hW5]; exact blk0 _ _
    have hX5 := blk_below hX0 hb5
    obtain ⟨g0, g1, _, _⟩ := hX5.two
    rw [hW5] at g0 g1
    have hg4 : w.heap.size < W4.heap.size := by have := hbz.size; have := hX0.lt; omega
    go_wp2_with fail
    rw [← hW5]
    clear hW5
    have hB5 := bcat2 hB0 hb5
    have hfl := hF5.lt
    generalize W4.heap.size = fb at *
    clear hbz
    refine (HSF.out _ hB5).mono ?_
    rintro x6 W6 ⟨rfl, hb6⟩
    obtain ⟨W7, hW7⟩ : ∃ W7, W7 = W6.alloc (.cells #[.int .i64 0, .int .i64 si] 28) := ⟨_, rfl⟩
    have hb7 : Below W5.heap.size W5 W7 := by rw [hW7]; exact bcat2 hb6 (balloc W6 _)
    have hR7 : Blk W7 W6.heap.size 28 [.int .i64 0, .int .i64 si] := by rw [hW7]; exact blk0 _ _
    have hF7 := blk_below hF5 hb7
    have hX7 := blk_below hX5 hb7
    have hB7 := bcat2 hB5 hb7
    have hfw : fb < W6.heap.size := by have := hb6.size; omega
    have hgw : w.heap.size < W6.heap.size := by omega
    clear hb7 hF5 hX5 g0 g1
    obtain ⟨g0, g1, _, _⟩ := hX7.two
    obtain ⟨f0, f1, _, _⟩ := hF7.two
    obtain ⟨r0, r1, _, _⟩ := hR7.two
    rw [hW7] at g0 g1 f0 f1 r0 r1
    go_wp2_with fail
    rw [← hW7] at g0 g1 f0 f1 r0 r1
    rw [← hW7]
    clear hW7
    generalize W6.heap.size = wb at *
    refine (HLF.out _ hB7).mono ?_
    rintro x8 W8 ⟨rfl, hb8⟩
    have hR8 := blk_below hR7 hb8
    have hF8 := blk_below hF7 hb8
    have hX8 := blk_below hX7 hb8
    have hB8 := bcat2 hB7 hb8
    clear g0 g1 f0 f1 r0 r1
    obtain ⟨y0, y1, fy0, fy1⟩ := hR8.two
    obtain ⟨hR9, hX9, hF9, hB9⟩ := put_box hR8 hX8 hF8 hB8 (by omega) (by omega) (by have := hB0.size; omega) 0 di
    obtain ⟨g0, g1, _, _⟩ := hX9.two
    obtain ⟨f0, f1, _, _⟩ := hF9.two
    obtain ⟨r0, r1, _, _⟩ := hR9.two
    go_wp2_with fail
    clear g0 g1 f0 f1 r0 r1
    generalize (W8.setCell ⟨wb, 0, none⟩ (.int .i64 0)).setCell ⟨wb, 1, none⟩ (.int .i64 di) = W9 at *
    clear y0 y1 fy0 fy1 hR8 hF8 hX8 hB8 hb8 hR7 hF7 hX7 hB7
    obtain ⟨g0, g1, _, _⟩ := hX9.two
    obtain ⟨f0, f1, _, _⟩ := hF9.two
    obtain ⟨r0, r1, _, _⟩ := hR9.two
    refine (HCL.out _ hB9).mono ?_
    rintro x10 W10 ⟨rfl, hb10⟩
    have hR10 := blk_below hR9 hb10
    have hF10 := blk_below hF9 hb10
    have hX10 := blk_below hX9 hb10
    have hB10 := bcat2 hB9 hb10
    clear g0 g1 f0 f1 r0 r1 hR9 hF9 hX9 hB9 hb10
    obtain ⟨g0, g1, _, _⟩ := hX10.two
    obtain ⟨f0, f1, _, _⟩ := hF10.two
    obtain ⟨r0, r1, _, _⟩ := hR10.two
    go_wp2_with fail
    refine (HBE.out _ hB10).mono ?_
    rintro x12 W12 ⟨rfl, hb12⟩
    have f0' := below_cell hb12 f0
    have f1' := below_cell hb12 f1
    have r0' := below_cell hb12 r0
    have r1' := below_cell hb12 r1
    have g0' := below_cell hb12 g0
    have g1' := below_cell hb12 g1
    clear f0 f1 r0 r1 g0 g1
    go_wp2_with fail
    refine (HTG.out _ (bcat2 hB10 hb12)).mono ?_
    rintro x13 W13 ⟨rfl, hb13⟩
    go_wp2
    go_ret
    exact ⟨by simp, bcat2 hB10 (bcat2 hb12 hb13)⟩
end Go.Proofs.YtanbpjfdfnmjpaaDoor
