/- What products, conjugates, commutators and searches of package sub's own group answer. -/
import Derived.Test.YtmgengplfebmjaaDoorLst
import Derived.Test.YtmgengplfebmjaaDoorSmath
import Derived.Test.YtmgengplfebmjaaDoorSame
namespace Go.Proofs.YtmgengplfebmjaaDoor
open Go Go.RowKit

/-- The value of package sub's group: a table, its one, its inverses. -/
def gw (n : Nat) (v : Value) (e : Nat) (u : Value) : Value := .agg #[.int .i64 n, v, .int .i64 e, u]
/-- A group that lies in memory, with what is known of it. -/
structure GA (w : World) (n : Nat) (v : Value) (e : Nat) (u : Value) (zs : List Int) : Prop where
  grp : IsGrp n zs e
  mul : Sl w v zs
  inv : Sl w u (li ((List.range n).map (iv n zs e)))
theorem GA.below {w w' : World} {n e : Nat} {v u : Value} {zs : List Int} (h : GA w n v e u zs) (hb : Below w.heap.size w w') : GA w' n v e u zs := ⟨h.grp, h.mul.below hb, h.inv.below hb⟩
theorem GA.le {w : World} {n e : Nat} {v u : Value} {zs : List Int} (h : GA w n v e u zs) : n ≤ 60 := h.grp.tab.le
theorem blk4 {w : World} {T : TypeId} (a b c d : Value) : Blk (w.alloc (.cells #[a, b, c, d] T)) w.heap.size T [a, b, c, d] := World.alloc_heap_new w _
theorem or_bs (p q : Nat → Bool) {n : Nat} (hn : n ≤ 60) : bits BinOp.or IntKind.u64 (bs p n : Int) (bs q n : Int) = (bs (fun a => p a || q a) n : Int) := by
  rw [bits_or_u64_nat _ _ (bs_64 hn) (bs_64 hn), bs_or]
theorem and_bs (p q : Nat → Bool) {n : Nat} (hn : n ≤ 60) : bits BinOp.and IntKind.u64 (bs p n : Int) (bs q n : Int) = (bs (fun a => p a && q a) n : Int) := by
  rw [bits_and_u64_nat _ _ (bs_64 hn) (bs_64 hn), bs_and]

/-- A set of one thing. -/
theorem of_one (n b j : Nat) (w : World) (hn : n ≤ 60) (hj : j < n) (hc : w.cell? ⟨b, 0, none⟩ = some (.int .i64 j)) :
    Calls Tryd.prog 68 #[.slice (some ⟨b, 0, none⟩) 1 1] w fun e w' => e = .returned (.int .u64 (bs (fun a => decide (a = j)) n)) ∧ w' = w := by
  have := of_ok n (.slice (some ⟨b, 0, none⟩) 1 1) [j] w hn (by simp) ⟨some ⟨b, 0, none⟩, 1, b, 0, rfl, ⟨fun _ => rfl, fun k hk => by
    have : k = 0 := by simp [li] at hk; omega
    subst this
    exact hc⟩, World.block_lt_of_cell? w _ hc, by simp [li], by unfold maxLen; omega⟩ (fun x hx => by simp at hx; omega)
  simpa using this

set_option maxRecDepth 100000 in
set_option maxHeartbeats 1000000 in
theorem prd_ok (n : Nat) (v u : Value) (zs : List Int) (e a b : Nat) (w : World) (ht : IsTab n zs) (hv : Sl w v zs) (ha : a < n) (hb : b < n) :
    Calls Tryd.prog 99 #[.agg #[.int .i64 n, v, .int .i64 e, u], .int .i64 a, .int .i64 b] w fun x w' => x = .returned (.int .i64 (tm n zs a b)) ∧ Below w.heap.size w w' := by
  have hlt := place_lt ha hb
  have hle := ht.le
  have hlen := ht.len
  have hn2 : n * n ≤ 60 * 60 := Nat.mul_le_mul hle hle
  have hg := tm_get ht ha hb
  have han : a * n ≤ 60 * 60 := Nat.mul_le_mul (by omega) (by omega)
  have hB0 : Below w.heap.size w (w.alloc (.cells #[.int .i64 n, v, .int .i64 e, u] 67)) := balloc w _
  have N0 : Blk (w.alloc (.cells #[.int .i64 n, v, .int .i64 e, u] 67)) w.heap.size 67 [.int .i64 n, v, .int .i64 e, u] := blk4 _ _ _ _
  obtain ⟨x, cap, pb, po, rfl, hr, hp, hq3, hq4⟩ := hv.below hB0
  obtain rfl := hr.at_ (by omega)
  have hc := hr.cell (a * n + b) (by omega)
  rw [hg] at hc
  have c0 := N0.cell 0
  have c1 := N0.cell 1
  simp at c0 c1
  have hi : ((a * n + b : Nat) : Int) < (zs.length : Int) := by omega
  have hm : ((a : Int) * (n : Int)) = ((a * n : Nat) : Int) := by rw [Int.natCast_mul]
  have HLEN := hide hlen
  have HB0 := hide hB0
  generalize hk : a * n = k at *
  generalize tm n zs a b = r at *
  clear hlen hB0 hg hn2 hk
  go_enter Tryd.func99, Tryd.ntmps99
  go_wp2
  go_ret
  exact ⟨rfl, HB0.out⟩

/-- A group's box. -/
structure Box4 (W : World) (b n e : Nat) (v u : Value) : Prop where
  blk : Blk W b 67 [.int .i64 n, v, .int .i64 e, u]
theorem Box4.cells {W : World} {b n e : Nat} {v u : Value} (h : Box4 W b n e v u) : W.cell? ⟨b, 0, none⟩ = some (.int .i64 n) ∧ W.cell? ⟨b, 1, none⟩ = some v ∧ W.cell? ⟨b, 2, none⟩ = some (.int .i64 e) ∧ W.cell? ⟨b, 3, none⟩ = some u :=
  ⟨h.blk.cell 0, h.blk.cell 1, h.blk.cell 2, h.blk.cell 3⟩
theorem Box4.below {W W' : World} {b n e : Nat} {v u : Value} (h : Box4 W b n e v u) (hb : Below W.heap.size W W') : Box4 W' b n e v u := ⟨blk_below h.blk hb⟩
theorem Box4.new (w : World) (n e : Nat) (v u : Value) : Box4 (w.alloc (.cells #[.int .i64 n, v, .int .i64 e, u] 67)) w.heap.size n e v u := ⟨blk4 _ _ _ _⟩

theorem ivs_at {n e : Nat} {zs : List Int} {a : Nat} (ha : a < n) : (li ((List.range n).map (iv n zs e)))[a]?.getD 0 = (iv n zs e a : Int) := by
  simp [li, ha]
theorem ivs_len {n e : Nat} {zs : List Int} : (li ((List.range n).map (iv n zs e))).length = n := by simp [li]

set_option maxRecDepth 100000 in
set_option maxHeartbeats 2000000 in
theorem conj_ok (n : Nat) (v u : Value) (zs : List Int) (e x a : Nat) (w : World) (hG : GA w n v e u zs) (hx : x < n) (ha : a < n) :
    Calls Tryd.prog 78 #[.agg #[.int .i64 n, v, .int .i64 e, u], .int .i64 x, .int .i64 a] w fun y w' => y = .returned (.int .i64 (Fin.cj (tm n zs) (iv n zs e) x a)) ∧ Below w.heap.size w w' := by
  obtain ⟨hi, hi1, hi2, _⟩ := iv_spec hG.grp ha
  have heq : Fin.cj (tm n zs) (iv n zs e) x a = tm n zs (tm n zs (iv n zs e a) x) a := by
    unfold Fin.cj
    rw [hG.grp.ass _ _ _ hi hx ha]
  rw [heq]
  have hB0 : Below w.heap.size w (w.alloc (.cells #[.int .i64 n, v, .int .i64 e, u] 67)) := balloc w _
  have N0 := Box4.new w n e v u
  have hG0 := hG.below hB0
  obtain ⟨w0, hw0⟩ : ∃ w0, w0 = w.alloc (.cells #[.int .i64 n, v, .int .i64 e, u] 67) := ⟨_, rfl⟩
  rw [← hw0] at hB0 N0 hG0
  have ht := tm_lt hG.grp.tab hi hx
  have HP1 := hide (fun W (h : Below w0.heap.size w0 W) => prd_ok n v u zs e (iv n zs e a) x W hG.grp.tab (hG0.mul.below h) hi hx)
  have HP2 := hide (fun W (h : Below w0.heap.size w0 W) => prd_ok n v u zs e (tm n zs (iv n zs e a) x) a W hG.grp.tab (hG0.mul.below h) ht ha)
  obtain ⟨y, cap, pb, po, rfl, hr, hp, hq3, hq4⟩ := hG0.inv
  rw [ivs_len] at hq3
  have hiv := hr.cell a (by rw [ivs_len]; exact ha)
  rw [ivs_at ha] at hiv
  obtain rfl := hr.at_ (by rw [ivs_len]; omega)
  rw [ivs_len] at *
  clear hr hG hG0 hi1 hi2 heq
  generalize tm n zs (tm n zs (iv n zs e a) x) a = r at *
  generalize tm n zs (iv n zs e a) x = t at *
  generalize iv n zs e a = i at *
  have hai : (a : Int) < (n : Int) := by omega
  have hS : ∀ W, Below w0.heap.size w0 W → (Below w0.heap.size w0 W ∧ W.cell? ⟨w.heap.size, 0, none⟩ = some (.int .i64 n) ∧ W.cell? ⟨w.heap.size, 1, none⟩ = some v ∧ W.cell? ⟨w.heap.size, 2, none⟩ = some (.int .i64 e) ∧ W.cell? ⟨w.heap.size, 3, none⟩ = some (.slice (some ⟨pb, po, none⟩) n cap) ∧ W.cell? ⟨pb, po + a, none⟩ = some (.int .i64 i)) := fun W h => by
    obtain ⟨c0, c1, c2, c3⟩ := (N0.below h).cells
    exact ⟨h, c0, c1, c2, c3, below_cell h hiv⟩
  have hS0 := hS _ (bdrew (Below.refl _ w0))
  clear hiv N0
  go_enter Tryd.func78, Tryd.ntmps78
  go_wp2_with fail
  rw [← hw0]
  clear hw0
  go_region_held3 (fun W => Below w0.heap.size w0 W ∧ W.cell? ⟨w.heap.size, 0, none⟩ = some (.int .i64 n) ∧ W.cell? ⟨w.heap.size, 1, none⟩ = some v ∧ W.cell? ⟨w.heap.size, 2, none⟩ = some (.int .i64 e) ∧ W.cell? ⟨w.heap.size, 3, none⟩ = some (.slice (some ⟨pb, po, none⟩) n cap) ∧ W.cell? ⟨pb, po + a, none⟩ = some (.int .i64 i))
    (first | exact hS0 | assumption | exact hS _ (bcat2 (And.left ‹_›) hl1))
    (first
      | (go_at_call_of 99 (Value.int IntKind.i64 (i : Int)); refine (HP1.out _ (And.left ‹_›)).mono ?_; rintro e1 W1 ⟨rfl, hl1⟩)
      | (go_at_call_of 99 (Value.int IntKind.i64 (t : Int)); refine (HP2.out _ (And.left ‹_›)).mono ?_; rintro e2 W2 ⟨rfl, hl1⟩))
  all_goals (
    have hB9 := And.left ‹Below w0.heap.size w0 W2 ∧ _›
    go_wp2
    go_ret
    exact ⟨rfl, bcat hB0 hB9 hB0.size⟩)

set_option maxRecDepth 100000 in
set_option maxHeartbeats 1000000 in
theorem those_ok (n k : Nat) (v u : Value) (e : Nat) (caps : Array Value) (p : Nat → Bool) (w : World) (hn : n ≤ 60)
    (hcall : ∀ a W, Sem.run Tryd.prog (callFunc k (#[.int .i64 a] ++ caps)) W = .ok (.enter k (#[.int .i64 a] ++ caps)) W)
    (hp : ∀ (W : World) (a : Nat), Below w.heap.size w W → a < n → Calls Tryd.prog k (#[.int .i64 a] ++ caps) W fun e w' => e = .returned (.bool (p a)) ∧ Below W.heap.size W w') :
    Calls Tryd.prog 89 #[.agg #[.int .i64 n, v, .int .i64 e, u], .func (.func k) #[] caps] w fun x w' => x = .returned (.int .u64 (bs p n)) ∧ Below w.heap.size w w' := by
  have HP := hide hp
  clear hp
  have hB0 : Below w.heap.size w (w.alloc (.cells #[.int .i64 n, v, .int .i64 e, u] 67)) := balloc w _
  have N0 := Box4.new w n e v u
  obtain ⟨c0, c1, c2, c3⟩ := N0.cells
  go_enter Tryd.func89, Tryd.ntmps89
  go_wp2
  go_loopw [5, 10] (fun s i wr => ∃ j : Nat, j ≤ n ∧ i = .int .i64 j ∧ s = .int .u64 (bs (fun a => p a && decide (a < j)) n) ∧ Below w.heap.size w wr) (fun _ i _ => n - (intOf i).toNat)
  case atStart => exact ⟨0, Nat.zero_le _, rfl, by simp [bs_none], hB0⟩
  case round =>
    obtain ⟨j, hj, rfl, rfl, hB⟩ := hrel
    clear c0 c1 c2 c3
    by_cases hlt : j < n
    · go_wp2_with fail
      refine (HP.out wr j hB hlt).mono ?_
      rintro e1 w1 ⟨rfl, hb1⟩
      have hB1 := bcat hB hb1 hB.size
      cases hpj : p j with
      | true =>
        have HE := hide (show bs (fun a => (p a && decide (a < j)) || decide (a = j)) n = bs (fun a => p a && decide (a < j + 1)) n from bs_ext fun a _ => by
          by_cases h1 : a = j
          · subst h1; simp [hpj]
          · have : a < j + 1 ↔ a < j := by omega
            simp [h1, this])
        have hor := or_bs (fun a => p a && decide (a < j)) (fun a => decide (a = j)) hn
        rw [HE.out] at hor
        have hB2 := hB1.alloc hB1.size (.cells #[.int .i64 j] 3)
        go_wp2_with fail
        refine (of_one n w1.heap.size j _ hn hlt (cell_one_new _ _ _ 0 _ rfl)).mono ?_
        rintro e2 w2 ⟨rfl, rfl⟩
        go_wp2
        go_roundw
        case rel => exact ⟨j + 1, by omega, by go_num, rfl, hB2⟩
        case measure => simp [intOf]; omega
      | false =>
        have HE := hide (show bs (fun a => p a && decide (a < j)) n = bs (fun a => p a && decide (a < j + 1)) n from bs_ext fun a _ => by
          by_cases h1 : a = j
          · subst h1; simp [hpj]
          · have : a < j + 1 ↔ a < j := by omega
            simp [this])
        go_wp2
        go_roundw
        case rel => exact ⟨j + 1, by omega, by go_num, by rw [HE.out], hB1⟩
        case measure => simp [intOf]; omega
    · have hjn : j = n := by omega
      subst hjn
      have HE := hide (show bs (fun a => p a && decide (a < j)) j = bs p j from bs_ext fun a ha => by simp [ha])
      go_wp2
      go_ret
      exact ⟨by rw [← HE.out]; rfl, hB⟩
end Go.Proofs.YtmgengplfebmjaaDoor
