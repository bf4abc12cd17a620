/- Sets of numbers as bits of a number: or, and, the lowest one, all of them in order. No condition. General lemmas of this family: a block of cells written out, its cells, a store into it; make of a whole slice within a fence. No condition. What every walk of this family leans on: how a list and a table that came in are read, what stays where something is called. No condition. Tables as lists of numbers: products, the one, what is wrong with a table; plain functions, and what follows of them. No condition. What the product of two things, the question whether a number is a thing, and the search for the least number answer. What package set answers: sets as bits, of lists, asked, and as lists. Condition: the library's table of places lies as its text lays it. What a set's list is. Condition: the library's table of places lies as its text lays it. Finite groups on lists of numbers: powers, orders, counting, Lagrange's theorem. No condition. Subgroups of a finite group, as math: what is made by a set, products of two, normal ones. No condition. Subgroups as math, on: conjugates, normal ones, core, closure, normaliser, centre, commutators; greatest subgroups and what no set needs. No condition. Subgroups of a table that is a group: what is found by products closes up; inverses as a function. No condition. -/
import Derived.WalkKit
import Derived.Laws.Bits64b
import Derived.Lib.TrailingZeros
import Derived.RangeFuncNested
import Derived.OwnWalkIn
import Derived.Test.YtgejngpioldhpaaGreatDoorProg
import Derived.RangeFuncBox
import Derived.Maps.AppendAt
import Derived.Deep.QuietTactic
import Derived.BigQuiet
import Derived.Deep.RegionHeld3
import Derived.ArgAppend
import Derived.Shelf.Spec.TrailingZeros
import Derived.OwnWalk
namespace Go.Proofs.YtgejngpioldhpaaGreatDoor
open Go

/-- The number whose bit a is 1 just where a is below n and p says so. -/
def bs (p : Nat → Bool) : Nat → Nat
  | 0 => 0
  | k + 1 => 2 ^ k * (if p k then 1 else 0) + bs p k
theorem bs_lt (p : Nat → Bool) : ∀ n, bs p n < 2 ^ n
  | 0 => by simp [bs]
  | k + 1 => by
    have := bs_lt p k
    unfold bs
    rw [Nat.pow_succ]
    split <;> omega
theorem bs_bit (p : Nat → Bool) : ∀ n a, (bs p n).testBit a = (decide (a < n) && p a)
  | 0, a => by simp [bs]
  | k + 1, a => by
    unfold bs
    rw [Nat.testBit_two_pow_mul_add _ (bs_lt p k)]
    by_cases h : a < k
    · rw [if_pos h, bs_bit p k a]
      simp [h, Nat.lt_succ_of_lt h]
    · rw [if_neg h]
      by_cases e : a = k
      · subst e
        cases p a <;> simp
      · have : ∃ j, a - k = j + 1 := ⟨a - k - 1, by omega⟩
        obtain ⟨j, hj⟩ := this
        rw [hj, Nat.testBit_succ]
        have : ¬ a < k + 1 := by omega
        cases p k <;> simp [this]
theorem bs_64 {p : Nat → Bool} {n : Nat} (hn : n ≤ 60) : bs p n < 18446744073709551616 :=
  Nat.lt_of_lt_of_le (bs_lt p n) (Nat.le_trans (Nat.pow_le_pow_right (by omega) (Nat.le_trans hn (by omega : 60 ≤ 64))) (by decide))
theorem bs_ext {p q : Nat → Bool} {n : Nat} (h : ∀ a, a < n → p a = q a) : bs p n = bs q n := by
  apply Nat.eq_of_testBit_eq
  intro a
  rw [bs_bit, bs_bit]
  by_cases ha : a < n
  · simp [ha, h a ha]
  · simp [ha]
theorem bs_inj {p q : Nat → Bool} {n : Nat} (h : bs p n = bs q n) : ∀ a, a < n → p a = q a := fun a ha => by
  have := congrArg (fun x => Nat.testBit x a) h
  simp only [bs_bit, ha, decide_true, Bool.true_and] at this
  exact this
theorem bs_or (p q : Nat → Bool) (n : Nat) : bs p n ||| bs q n = bs (fun a => p a || q a) n := by
  apply Nat.eq_of_testBit_eq
  intro a
  rw [Nat.testBit_or, bs_bit, bs_bit, bs_bit]
  cases decide (a < n) <;> simp
theorem bs_and (p q : Nat → Bool) (n : Nat) : bs p n &&& bs q n = bs (fun a => p a && q a) n := by
  apply Nat.eq_of_testBit_eq
  intro a
  rw [Nat.testBit_and, bs_bit, bs_bit, bs_bit]
  cases decide (a < n) <;> simp
theorem bs_one {n a : Nat} (ha : a < n) : bs (fun b => decide (b = a)) n = 2 ^ a := by
  apply Nat.eq_of_testBit_eq
  intro b
  rw [bs_bit, Nat.testBit_two_pow]
  by_cases e : b = a
  · subst e; simp [ha]
  · simp [e, Ne.symm e]
theorem bs_none (n : Nat) : bs (fun _ => false) n = 0 := by
  apply Nat.eq_of_testBit_eq
  intro b
  rw [bs_bit]; simp
theorem bs_zero {p : Nat → Bool} {n : Nat} (h : bs p n = 0) : ∀ a, a < n → p a = false := by
  rw [← bs_none n] at h
  exact bs_inj h
/-- One bit asked. -/
theorem bs_has (p : Nat → Bool) {n a : Nat} (ha : a < n) : (bs p n / 2 ^ a) % 2 = if p a then 1 else 0 := by
  have := bs_bit p n a
  rw [Nat.testBit_eq_decide_div_mod_eq] at this
  simp only [ha, decide_true, Bool.true_and] at this
  cases hp : p a
  · rw [hp] at this
    simp only [decide_eq_false_iff_not] at this
    have : bs p n / 2 ^ a % 2 < 2 := Nat.mod_lt _ (by omega)
    simp; omega
  · rw [hp] at this
    simpa using this

/-- The lowest bit, and what is left without it. -/
theorem low_bit {p : Nat → Bool} {n : Nat} (hn : n ≤ 60) (h0 : bs p n ≠ 0) : ∃ k, k < n ∧ p k = true ∧ (∀ t, t < k → p t = false) ∧ Lib.ctz 64 (bs p n) = k ∧ bs p n &&& (bs p n - 1) = bs (fun a => p a && decide (k < a)) n := by
  obtain ⟨m, hm, hk⟩ := Lib.ctzFrom_spec 64 (bs p n) (by omega) (bs_64 hn)
  have hc : Lib.ctz 64 (bs p n) = Lib.ctzFrom 64 (bs p n) := by unfold Lib.ctz; rw [if_neg h0]
  generalize Lib.ctzFrom 64 (bs p n) = k at hm hk hc
  have hpos : 0 < 2 ^ k := Nat.two_pow_pos k
  have b1 : ∀ j, (bs p n).testBit j = if j < k then false else (2 * m + 1).testBit (j - k) := fun j => by
    have := Nat.testBit_two_pow_mul_add (2 * m + 1) hpos j
    rw [Nat.add_zero, ← hm] at this
    rw [this]; simp
  have b2 : ∀ j, (bs p n - 1).testBit j = if j < k then (2 ^ k - 1).testBit j else (2 * m).testBit (j - k) := fun j => by
    have := Nat.testBit_two_pow_mul_add (2 * m) (show 2 ^ k - 1 < 2 ^ k by omega) j
    rw [← this]
    congr 1
    rw [hm, Nat.mul_add, Nat.mul_one]; omega
  have hkb : (bs p n).testBit k = true := by rw [b1]; simp
  rw [bs_bit] at hkb
  simp only [Bool.and_eq_true, decide_eq_true_eq] at hkb
  refine ⟨k, hkb.1, hkb.2, fun t ht => ?_, hc, ?_⟩
  · have := b1 t
    rw [bs_bit, if_pos ht] at this
    have htn : t < n := by omega
    simpa [htn] using this
  · apply Nat.eq_of_testBit_eq
    intro j
    rw [Nat.testBit_and, b2, bs_bit (fun a => p a && decide (k < a))]
    by_cases h1 : j < k
    · have e1 := b1 j
      rw [if_pos h1] at e1
      have : ¬ k < j := by omega
      rw [e1]; simp [this]
    · rw [if_neg h1]
      by_cases h2 : j = k
      · subst h2; simp
      · have hj : k < j := by omega
        obtain ⟨i, hi⟩ : ∃ i, j - k = i + 1 := ⟨j - k - 1, by omega⟩
        have e1 := b1 j
        rw [if_neg h1, hi, Nat.testBit_succ, show (2 * m + 1) / 2 = m by omega] at e1
        rw [hi, Nat.testBit_succ, show (2 * m) / 2 = m by omega, e1]
        rw [bs_bit] at e1
        rw [← e1]
        simp only [hj, decide_true, Bool.and_true]
        cases p j <;> cases decide (j < n) <;> rfl
/-- All of them in order: up to the lowest that is left. -/
theorem range_low {p : Nat → Bool} {j k : Nat} (hjk : j ≤ k) (hp : p k = true) (hno : ∀ t, t < k → (p t && decide (j ≤ t)) = false) : (List.range (k + 1)).filter p = (List.range j).filter p ++ [k] := by
  rw [List.range_succ, List.filter_append]
  congr 1
  · obtain ⟨d, rfl⟩ : ∃ d, k = j + d := ⟨k - j, by omega⟩
    rw [List.range_add, List.filter_append]
    have : ((List.range d).map fun x => j + x).filter p = [] := by
      rw [List.filter_eq_nil_iff]
      intro a ha
      obtain ⟨x, hx, rfl⟩ := List.mem_map.1 ha
      have hx := List.mem_range.1 hx
      have := hno (j + x) (by omega)
      simpa using this
    rw [this, List.append_nil]
  · simp [hp]
theorem range_rest {p : Nat → Bool} {j n : Nat} (hjn : j ≤ n) (hno : ∀ t, t < n → (p t && decide (j ≤ t)) = false) : (List.range n).filter p = (List.range j).filter p := by
  obtain ⟨d, rfl⟩ : ∃ d, n = j + d := ⟨n - j, by omega⟩
  rw [List.range_add, List.filter_append]
  have : ((List.range d).map fun x => j + x).filter p = [] := by
    rw [List.filter_eq_nil_iff]
    intro a ha
    obtain ⟨x, hx, rfl⟩ := List.mem_map.1 ha
    have hx := List.mem_range.1 hx
    have := hno (j + x) (by omega)
    simpa using this
  rw [this, List.append_nil]
end Go.Proofs.YtgejngpioldhpaaGreatDoor

namespace Go.Proofs.YtgejngpioldhpaaGreatDoor
open Go Go.RowKit

/-- A fact kept from the walk, and given back. -/
theorem hide {p : Prop} (h : p) : Hid p := h
theorem unhide {p : Prop} (h : Hid p) : p := h

/-- Block s holds just the cells vs, of the type e, none frozen. -/
def Blk (W : World) (s : Nat) (e : TypeId) (vs : List Value) : Prop := W.heap[s]? = some (.cells vs.toArray e (0, 0))

theorem Blk.lt {W : World} {s : Nat} {e : TypeId} {vs : List Value} (h : Blk W s e vs) : s < W.heap.size := (Array.getElem?_eq_some_iff.1 h).1
theorem Blk.of_eq {W W' : World} {s : Nat} {e : TypeId} {vs : List Value} (h : Blk W s e vs) (hb : W'.heap[s]? = W.heap[s]?) : Blk W' s e vs := hb.trans h
theorem Blk.cell {W : World} {s : Nat} {e : TypeId} {vs : List Value} (h : Blk W s e vs) (y : Nat) : W.cell? ⟨s, y, none⟩ = vs[y]? := by
  simp [World.cell?, show W.heap[s]? = _ from h]
theorem Blk.frozen {W : World} {s : Nat} {e : TypeId} {vs : List Value} (h : Blk W s e vs) (y : Nat) : W.frozen? ⟨s, y, none⟩ = false := by
  simp [World.frozen?, show W.heap[s]? = _ from h]
theorem Blk.set {W : World} {s : Nat} {e : TypeId} {vs : List Value} (h : Blk W s e vs) (y : Nat) (v : Value) : Blk (W.setCell ⟨s, y, none⟩ v) s e (vs.set y v) := by
  obtain ⟨hlt, hk⟩ := Array.getElem?_eq_some_iff.1 h
  show (W.heap.modify s _)[s]? = _
  rw [Array.getElem?_eq_getElem (by rw [Array.size_modify]; exact hlt), Array.getElem_modify_self, hk]
  simp
theorem Blk.other {W : World} {s : Nat} {e : TypeId} {vs : List Value} (h : Blk W s e vs) {p : Addr} (hp : s ≠ p.block) (v : Value) : Blk (W.setCell p v) s e vs :=
  h.of_eq (Below.heap_setCell W p v s hp)
theorem Blk.alloc {W : World} {s : Nat} {e : TypeId} {vs : List Value} (h : Blk W s e vs) (o : Obj) : Blk (W.alloc o) s e vs := h.of_eq (Below.heap_alloc W o s h.lt)
theorem Blk.of_owns {W : World} {base : Nat} {e : TypeId} {g n : Nat} {xs : List Value} (h : W.ownsRow base e 1 (.slice (some ⟨g, 0, none⟩) n n) n xs) : Blk W g e xs := by
  rcases h.2 with ⟨hv, _⟩ | ⟨g', cap, cur, hv, _, hh, _, _, hs, ht⟩
  · cases hv
  · cases hv
    have : cur = xs.toArray := by
      rw [← ht, List.take_of_length_le (by simp [hs])]
    rw [this] at hh
    exact hh

/-- Bools in a block. -/
theorem Blk.bool {W : World} {s : Nat} {e : TypeId} {bs : List Bool} (h : Blk W s e (bs.map Value.bool)) {y : Nat} (hy : y < bs.length) : W.cell? ⟨s, y, none⟩ = some (.bool (bs[y]?.getD false)) := by
  rw [h.cell]; simp [hy]
theorem Blk.setBool {W : World} {s : Nat} {e : TypeId} {bs : List Bool} (h : Blk W s e (bs.map Value.bool)) (y : Nat) (b : Bool) : Blk (W.setCell ⟨s, y, none⟩ (.bool b)) s e ((bs.set y b).map Value.bool) := by
  have := h.set y (.bool b)
  rwa [← List.map_set] at this
/-- Ints in a block. -/
theorem Blk.int {W : World} {s : Nat} {e : TypeId} {zs : List Int} (h : Blk W s e (zs.map (Value.int .i64))) {y : Nat} (hy : y < zs.length) : W.cell? ⟨s, y, none⟩ = some (.int .i64 (zs[y]?.getD 0)) := by
  rw [h.cell]; simp [hy]
theorem Blk.setInt {W : World} {s : Nat} {e : TypeId} {zs : List Int} (h : Blk W s e (zs.map (Value.int .i64))) (y : Nat) (x : Int) : Blk (W.setCell ⟨s, y, none⟩ (.int .i64 x)) s e ((zs.set y x).map (Value.int .i64)) := by
  have := h.set y (.int .i64 x)
  rwa [← List.map_set] at this

theorem made_rep (z : Value) (n : Nat) : (madeCells #[z] n).toList = List.replicate n z := by
  apply List.ext_getElem
  · simp [madeCells]
  · intro i h1 h2
    simp [madeCells, Nat.mod_one]

theorem wpListIn_make_full {F : Fence} {n : Nat} {P : Program} (w : World) {ops : Array Oper} {rest : List Oper} {o : Oper} {a : Act} {Q : Exit → Act → World → Prop}
    (hg : o.guard = none) (l c : Operand) (t : TypeId) (hop : o.op = Op.makeSlice t l c)
    (base : Nat) (e : TypeId) (i : TypeInfo) (z : Value) (size : Nat) (h1 : P.underlying t = some (.slice e)) (h2 : P.info? e = some i) (h3 : i.zero = some z) (h4 : i.size = size)
    (kl kc : IntKind) (L C : Int) (m : Nat) (hl : a.eval l = .int kl L) (hc : a.eval c = .int kc C) (hL : L = (m : Int)) (hC : C = (m : Int)) (b2 : i.bytes * m ≤ 281474976710656) (b3 : m ≤ maxLen) (b4 : base ≤ w.heap.size)
    (hK : ∀ w', w'.ownsRow base e size (.slice (some ⟨w.heap.size, 0, none⟩) m m) m (madeCells z.cells (m * size)).toList → w.grownBy w' none → wpListIn F n P ops Q rest (a.put o.dst (.slice (some ⟨w.heap.size, 0, none⟩) m m)) w') :
    wpListIn F n P ops Q (o :: rest) a w := by
  refine wpListIn_plain hg fun K hK' => ?_
  obtain ⟨w', hrun, r1, r2⟩ := run_make_full (P := P) w base t e i z size h1 h2 h3 h4 kl kc m b2 b3 b4
  subst hL
  subst hC
  unfold Oper.wpIn
  refine ⟨?_, ?_⟩
  · simp [Oper.about, hop]
  · rw [Oper.semAt_plain F _ _ (by rw [hop]; intro c hc'; cases hc')]
    simp [execOp, hop, hl, hc, hrun, Result.andThen]
    exact hK' _ _ (hK w' r1 r2)

/-- How long the slice in a slot is: for a loop's measure. -/
def lenOf : Value → Nat
  | .slice _ n _ => n
  | _ => 0
theorem lenOf_own {w : World} {base : Nat} {e : TypeId} {v : Value} {n : Nat} {xs : List Value} (h : w.ownsRow base e 1 v n xs) : lenOf v = n := by
  rcases h.2 with ⟨rfl, h0⟩ | ⟨g, cap, cur, rfl, _⟩
  · simp [lenOf, h0]
  · rfl
theorem owns_mono {w : World} {base base' : Nat} {e : TypeId} {v : Value} {n : Nat} {xs : List Value} (h : w.ownsRow base e 1 v n xs) (hb : base' ≤ base) : w.ownsRow base' e 1 v n xs := by
  refine ⟨h.1, ?_⟩
  rcases h.2 with h0 | ⟨g, cap, cur, hv, hg, r⟩
  · exact .inl h0
  · exact .inr ⟨g, cap, cur, hv, Nat.le_trans hb hg, r⟩
theorem owns_ge {w : World} {base : Nat} {e : TypeId} {v : Value} {n : Nat} {xs : List Value} (h : w.ownsRow base e 1 v n xs) : ∀ j, v.ownBlock = some j → base ≤ j := by
  intro j hj
  rcases h.2 with ⟨rfl, _⟩ | ⟨g, cap, cur, rfl, hg, _⟩
  · simp [Value.ownBlock] at hj
  · simp [Value.ownBlock] at hj; omega
theorem gb_refl (A : World) (row : Option Nat) : A.grownBy A row := ⟨rfl, rfl, rfl, Nat.le_refl _, fun _ _ _ => rfl⟩
theorem gb_trans {A B C : World} {s : Nat} {row : Option Nat} (h : A.grownBy B (some s)) (k : B.grownBy C row) (hr : ∀ j, row = some j → j = s ∨ A.heap.size ≤ j) : A.grownBy C (some s) :=
  ⟨k.os.trans h.os, k.tape.trans h.tape, k.output.trans h.output, Nat.le_trans h.size k.size, fun b hb hs => by
    refine (k.block b (Nat.lt_of_lt_of_le hb h.size) (fun e => ?_)).trans (h.block b hb hs)
    rcases hr b e.symm with rfl | h1
    · exact hs rfl
    · omega⟩
theorem gb_set (A : World) (b y : Nat) (v : Value) : A.grownBy (A.setCell ⟨b, y, none⟩ v) (some b) :=
  ⟨rfl, rfl, rfl, (KeepsWalks.setCell A _ v).size, fun k _ hk => Below.heap_setCell _ _ _ k (fun e => hk (by rw [e]))⟩
theorem size_set (A : World) (p : Addr) (v : Value) : (A.setCell p v).heap.size = A.heap.size := by simp [World.setCell]
/-- A block that no step of 'grownBy' has turned. -/
theorem Blk.grown {W W' : World} {row : Option Nat} {s : Nat} {e : TypeId} {vs : List Value} (h : Blk W s e vs) (hg : W.grownBy W' row) (hne : some s ≠ row) : Blk W' s e vs := h.of_eq (hg.block s h.lt hne)

end Go.Proofs.YtgejngpioldhpaaGreatDoor

namespace Go.Proofs.YtgejngpioldhpaaGreatDoor
open Go Go.RowKit

/-- A slice value whose elements, as many as zs, are zs: they lie in block pb from po on. -/
structure Reads (w : World) (a : Option Addr) (pb po : Nat) (zs : List Int) : Prop where
  at_ : 0 < zs.length → a = some ⟨pb, po, none⟩
  cell : ∀ j, j < zs.length → w.cell? ⟨pb, po + j, none⟩ = some (.int .i64 (zs[j]?.getD 0))

theorem Reads.of_eq {w w' : World} {a : Option Addr} {pb po : Nat} {zs : List Int} (h : Reads w a pb po zs) (hb : w'.heap[pb]? = w.heap[pb]?) : Reads w' a pb po zs :=
  ⟨h.at_, fun j hj => (World.cell?_of_block (a := ⟨pb, po + j, none⟩) hb).trans (h.cell j hj)⟩
theorem Reads.below {B : Nat} {w w' : World} {a : Option Addr} {pb po : Nat} {zs : List Int} (h : Reads w a pb po zs) (hb : Below B w w') (hp : pb < B) : Reads w' a pb po zs := h.of_eq (hb.block pb hp)
theorem Reads.lt {w : World} {a : Option Addr} {pb po : Nat} {zs : List Int} (h : Reads w a pb po zs) (h0 : 0 < zs.length) : pb < w.heap.size :=
  World.block_lt_of_cell? w ⟨pb, po + 0, none⟩ (h.cell 0 h0)

/-- A slice of ints that reads as zs. -/
def Sl (w : World) (v : Value) (zs : List Int) : Prop := ∃ a cap pb po, v = .slice a zs.length cap ∧ Reads w a pb po zs ∧ pb < w.heap.size ∧ zs.length ≤ cap ∧ cap ≤ maxLen
theorem Sl.below {w w' : World} {v : Value} {zs : List Int} (h : Sl w v zs) (hb : Below w.heap.size w w') : Sl w' v zs := by
  obtain ⟨a, cap, pb, po, hv, hr, hp, h1, h2⟩ := h
  exact ⟨a, cap, pb, po, hv, hr.below hb hp, Nat.lt_of_lt_of_le hp hb.size, h1, h2⟩
theorem bdrewN {B : Nat} {a w : World} (h : Below B a w) (k : Nat) : Below B a (w.drewN k) := ⟨h.os, h.tape, h.output, h.size, h.block⟩
theorem bcat {B : Nat} {a b c : World} (h : Below B a b) (k : Below b.heap.size b c) (hB : B ≤ b.heap.size) : Below B a c := h.trans (k.mono hB)

theorem blk0 {w : World} {T : TypeId} (x y : Value) : Blk (w.alloc (.cells #[x, y] T)) w.heap.size T [x, y] := World.alloc_heap_new w _

/-- The end of a function whose result is a fault that lies in a block. -/
theorem Blk.two {W : World} {B : Nat} {T : TypeId} {x y : Value} (h : Blk W B T [x, y]) : W.cell? ⟨B, 0, none⟩ = some x ∧ W.cell? ⟨B, 1, none⟩ = some y ∧ W.frozen? ⟨B, 0, none⟩ = false ∧ W.frozen? ⟨B, 1, none⟩ = false :=
  ⟨h.cell 0, h.cell 1, h.frozen 0, h.frozen 1⟩

theorem setCell_self {W : World} {b o : Nat} {c : Array Value} {T : TypeId} {fz : Nat × Nat} {v : Value} (h : W.heap[b]? = some (.cells c T fz)) (hc : c.setIfInBounds o v = c) : W.setCell ⟨b, o, none⟩ v = W := by
  unfold World.setCell
  have e : ∀ (f : Obj → Obj), f (.cells c T fz) = .cells c T fz → W.heap.modify b f = W.heap := fun f hf => by
    apply Array.ext
    · simp
    · intro i h1 h2
      rw [Array.getElem_modify]
      split
      · rename_i e
        subst e
        have : W.heap[b] = .cells c T fz := by
          obtain ⟨_, h3⟩ := Array.getElem?_eq_some_iff.1 h
          exact h3
        rw [this, hf]
      · rfl
  rw [e _ (by simp [hc])]
theorem Blk.self {W : World} {b : Nat} {T : TypeId} {x y : Value} (h : Blk W b T [x, y]) : W.setCell ⟨b, 0, none⟩ x = W ∧ W.setCell ⟨b, 1, none⟩ y = W :=
  ⟨setCell_self h (by simp), setCell_self h (by simp)⟩

/-- A block, with all that the walk asks of it: what its two cells hold, and that storing the same again turns nothing. -/
structure Two (W : World) (b : Nat) : Prop where
  blk : Blk W b 27 [.int .i64 0, .int .i64 0]
  c0 : W.cell? ⟨b, 0, none⟩ = some (.int .i64 0)
  c1 : W.cell? ⟨b, 1, none⟩ = some (.int .i64 0)
  f0 : W.frozen? ⟨b, 0, none⟩ = false
  f1 : W.frozen? ⟨b, 1, none⟩ = false
  s0 : W.setCell ⟨b, 0, none⟩ (.int .i64 0) = W
  s1 : W.setCell ⟨b, 1, none⟩ (.int .i64 0) = W
theorem Two.mk' {W : World} {b : Nat} (h : Blk W b 27 [.int .i64 0, .int .i64 0]) : Two W b := ⟨h, h.cell 0, h.cell 1, h.frozen 0, h.frozen 1, h.self.1, h.self.2⟩
theorem Two.below {W W' : World} {b : Nat} (h : Two W b) (hb : Below W.heap.size W W') : Two W' b := Two.mk' (h.blk.of_eq (hb.block _ h.blk.lt))
theorem Two.alloc {W : World} {b : Nat} (h : Two W b) (o : Obj) : Two (W.alloc o) b := Two.mk' (h.blk.alloc o)
theorem Two.new (W : World) : Two (W.alloc (.cells #[.int .i64 0, .int .i64 0] 27)) W.heap.size := Two.mk' (blk0 _ _)
theorem field27 (c i : Int) (w : World) : (Instr.field 27 (.agg #[.int .i64 c, .int .i64 i]) 0).run Tryz.prog w = .ok (.int .i64 c) w := by kernel_rfl
theorem balloc (W : World) (o : Obj) : Below W.heap.size W (W.alloc o) := (Below.refl _ W).alloc (Nat.le_refl _) o

theorem bcat2 {a b c : World} (h : Below a.heap.size a b) (k : Below b.heap.size b c) : Below a.heap.size a c := h.trans (k.mono h.size)
theorem below_cell {a b : World} (h : Below a.heap.size a b) {p : Addr} {v : Value} (hc : a.cell? p = some v) : b.cell? p = some v := by
  have hl := World.block_lt_of_cell? a p hc
  rw [← hc]; simp [World.cell?, h.block _ hl]

theorem bdrew {B : Nat} {a w : World} (h : Below B a w) : Below B a w.drew := ⟨h.os, h.tape, h.output, h.size, h.block⟩
/-- A variable that lies in a cell of its own. -/
theorem Boxed.below {W W' : World} {b : Nat} {t : TypeId} {v : Value} (h : Boxed W b t v) (hb : Below W.heap.size W W') : Boxed W' b t v := (hb.block _ h.lt).trans h

theorem Sl.nil {w : World} (h0 : 0 < w.heap.size) : Sl w (.slice none 0 0) [] := ⟨none, 0, 0, 0, rfl, ⟨by simp, by simp⟩, h0, by simp, by unfold maxLen; omega⟩
theorem info3b : (Tryz.prog.info? 3).map (fun i => (i.zero, i.size, i.bytes)) = some (some (.int .i64 0), 1, 8) := by kernel_rfl
theorem under22b : Tryz.prog.underlying 22 = some (.slice 3) := by kernel_rfl
theorem Sl.of_blk {w : World} {g n : Nat} {zs : List Int} (h : Blk w g 3 (zs.map (Value.int .i64))) (hn : n = zs.length) (hl : zs.length ≤ 1000000) : Sl w (.slice (some ⟨g, 0, none⟩) n n) zs := by
  subst hn
  exact ⟨some ⟨g, 0, none⟩, zs.length, g, 0, rfl, ⟨fun _ => rfl, fun j hj => by rw [Nat.zero_add]; exact h.int hj⟩, h.lt, Nat.le_refl _, by unfold maxLen; omega⟩

theorem Sl.of_own {w : World} {base : Nat} {v : Value} {zs : List Int} (h : w.ownsRow base 3 1 v zs.length (zs.map (Value.int .i64))) (h0 : 0 < w.heap.size) : Sl w v zs := by
  rcases h.2 with ⟨rfl, hz⟩ | ⟨g, cap, cur, rfl, _, hh, h1, h2, _⟩
  · have : zs = [] := List.length_eq_zero_iff.1 hz
    subst this
    exact ⟨none, 0, 0, 0, rfl, ⟨by simp, by simp⟩, h0, by simp, by unfold maxLen; omega⟩
  · refine ⟨some ⟨g, 0, none⟩, cap, g, 0, rfl, ⟨fun _ => rfl, fun j hj => ?_⟩, (Array.getElem?_eq_some_iff.1 hh).1, h1, h2⟩
    have h3 := h.cells (g := g) rfl j (.int .i64 (zs[j]?.getD 0)) (by simp [hj])
    rw [show (⟨g, 0, none⟩ : Addr).add j = ⟨g, j, none⟩ by unfold Addr.add; split <;> simp_all] at h3
    rw [Nat.zero_add]; exact h3

end Go.Proofs.YtgejngpioldhpaaGreatDoor

namespace Go.Proofs.YtgejngpioldhpaaGreatDoor

/-- The least number below n of which p is so, or -1. -/
def least (n : Nat) (p : Nat → Bool) : Int := match (List.range n).find? p with | some a => (a : Int) | none => -1
theorem least_none {n : Nat} {p : Nat → Bool} (h : ∀ t, t < n → p t = false) : least n p = -1 := by
  unfold least
  rw [List.find?_eq_none.2 (fun x hx => by simp [h x (List.mem_range.1 hx)])]
theorem least_at {n : Nat} {p : Nat → Bool} {k : Nat} (hk : k < n) (hp : p k = true) (hb : ∀ t, t < k → p t = false) : least n p = (k : Int) := by
  unfold least
  have : (List.range n).find? p = some k := by
    rw [List.find?_range_eq_some]
    exact ⟨hp, List.mem_range.2 hk, fun j hj => by simp [hb j hj]⟩
  rw [this]
theorem least_cases (n : Nat) (p : Nat → Bool) : (∃ k, k < n ∧ p k = true ∧ (∀ t, t < k → p t = false) ∧ least n p = (k : Int)) ∨ ((∀ t, t < n → p t = false) ∧ least n p = -1) := by
  cases h : (List.range n).find? p with
  | none =>
    rw [List.find?_eq_none] at h
    have : ∀ t, t < n → p t = false := fun t ht => by have := h t (List.mem_range.2 ht); simpa using this
    exact .inr ⟨this, least_none this⟩
  | some k =>
    rw [List.find?_range_eq_some] at h
    have hb : ∀ t, t < k → p t = false := fun t ht => by have := h.2.2 t ht; simpa using this
    exact .inl ⟨k, List.mem_range.1 h.2.1, h.1, hb, least_at (List.mem_range.1 h.2.1) h.1 hb⟩
theorem least_neg {n : Nat} {p : Nat → Bool} : least n p = -1 ↔ ∀ t, t < n → p t = false := by
  rcases least_cases n p with ⟨k, hk, hp, _, e⟩ | ⟨h, e⟩
  · rw [e]
    constructor
    · intro h; omega
    · intro h; rw [h k hk] at hp; cases hp
  · exact ⟨fun _ => h, fun _ => e⟩
theorem least_congr {n : Nat} {p q : Nat → Bool} (h : ∀ t, t < n → p t = q t) : least n p = least n q := by
  rcases least_cases n p with ⟨k, hk, hp, hb, e⟩ | ⟨hp, e⟩
  · rw [e, least_at hk (by rw [← h k hk]; exact hp) (fun t ht => by rw [← h t (by omega)]; exact hb t ht)]
  · rw [e, least_none (fun t ht => by rw [← h t ht]; exact hp t ht)]

/-- A list that is a table of n things. -/
structure IsTab (n : Nat) (zs : List Int) : Prop where
  pos : 1 ≤ n
  le : n ≤ 60
  len : zs.length = n * n
  rng : ∀ i, i < n * n → 0 ≤ zs[i]?.getD 0 ∧ zs[i]?.getD 0 < n
/-- The product of two things. -/
def tm (n : Nat) (zs : List Int) (a b : Nat) : Nat := (zs[a * n + b]?.getD 0).toNat
theorem place_lt {n a b : Nat} (ha : a < n) (hb : b < n) : a * n + b < n * n := by
  have : (a + 1) * n ≤ n * n := Nat.mul_le_mul_right n ha
  rw [Nat.add_mul] at this; omega
theorem tm_get {n : Nat} {zs : List Int} (h : IsTab n zs) {a b : Nat} (ha : a < n) (hb : b < n) : zs[a * n + b]?.getD 0 = (tm n zs a b : Int) := by
  have := h.rng _ (place_lt ha hb)
  unfold tm; omega
theorem tm_lt {n : Nat} {zs : List Int} (h : IsTab n zs) {a b : Nat} (ha : a < n) (hb : b < n) : tm n zs a b < n := by
  have := h.rng _ (place_lt ha hb)
  unfold tm; omega

/-- Is e the one? -/
def oneB (n : Nat) (zs : List Int) (e : Nat) : Bool := decide (least n (fun a => tm n zs e a != a || tm n zs a e != a) = -1)
theorem oneB_iff {n : Nat} {zs : List Int} {e : Nat} : oneB n zs e = true ↔ ∀ a, a < n → tm n zs e a = a ∧ tm n zs a e = a := by
  unfold oneB
  rw [decide_eq_true_eq, least_neg]
  exact ⟨fun h a ha => by have := h a ha; simpa using this, fun h a ha => by simpa using h a ha⟩
/-- The one, or -1. -/
def one (n : Nat) (zs : List Int) : Int := least n (oneB n zs)
/-- Is (a b) c always a (b c)? -/
def assB (n : Nat) (zs : List Int) (a : Nat) : Bool := (List.range n).all fun b => (List.range n).all fun c => tm n zs (tm n zs a b) c == tm n zs a (tm n zs b c)
theorem assB_iff {n : Nat} {zs : List Int} {a : Nat} : assB n zs a = true ↔ ∀ b c, b < n → c < n → tm n zs (tm n zs a b) c = tm n zs a (tm n zs b c) := by
  unfold assB
  simp only [List.all_eq_true, List.mem_range, beq_iff_eq]
  exact ⟨fun h b c hb hc => h b hb c hc, fun h b hb c hc => h b c hb hc⟩
/-- The least thing whose product with a, a first, is e; or -1. -/
def invL (n : Nat) (zs : List Int) (e : Int) (a : Nat) : Int := least n (fun b => decide ((tm n zs a b : Int) = e))

/-- What is wrong with a list as a table, alone. -/
def efault (N : Int) (zs : List Int) : Int × Int :=
  if N < 1 ∨ 60 < N then (2, 0) else if (zs.length : Int) ≠ N * N then (8, 0)
  else if least zs.length (fun i => decide (zs[i]?.getD 0 < 0 ∨ N ≤ zs[i]?.getD 0)) ≠ -1 then (3, least zs.length (fun i => decide (zs[i]?.getD 0 < 0 ∨ N ≤ zs[i]?.getD 0))) else (0, 0)
/-- What is wrong with a table as a group. -/
def gfault (N : Int) (zs : List Int) : Int × Int :=
  if (efault N zs).1 ≠ 0 then efault N zs
  else if one N.toNat zs = -1 then (6, 0)
  else if least N.toNat (fun a => !assB N.toNat zs a) ≠ -1 then (7, least N.toNat (fun a => !assB N.toNat zs a))
  else if least N.toNat (fun a => decide (invL N.toNat zs (one N.toNat zs) a = -1)) ≠ -1 then (4, least N.toNat (fun a => decide (invL N.toNat zs (one N.toNat zs) a = -1)))
  else (0, 0)

theorem efault_tab {N : Int} {zs : List Int} (h : (efault N zs).1 = 0) : ∃ n : Nat, N = n ∧ IsTab n zs ∧ efault N zs = (0, 0) := by
  unfold efault at h ⊢
  by_cases h1 : N < 1 ∨ 60 < N
  · rw [if_pos h1] at h; cases h
  · rw [if_neg h1] at h ⊢
    by_cases h2 : (zs.length : Int) ≠ N * N
    · rw [if_pos h2] at h; cases h
    · rw [if_neg h2] at h ⊢
      by_cases h3 : least zs.length (fun i => decide (zs[i]?.getD 0 < 0 ∨ N ≤ zs[i]?.getD 0)) ≠ -1
      · rw [if_pos h3] at h; cases h
      · rw [if_neg h3]
        have h3 : least zs.length (fun i => decide (zs[i]?.getD 0 < 0 ∨ N ≤ zs[i]?.getD 0)) = -1 := Decidable.not_not.1 h3
        have h2 : (zs.length : Int) = N * N := Decidable.not_not.1 h2
        obtain ⟨n, rfl⟩ : ∃ n : Nat, N = n := ⟨N.toNat, by omega⟩
        have h2 : zs.length = n * n := by rw [← Int.natCast_mul] at h2; omega
        refine ⟨n, rfl, ⟨by omega, by omega, h2, fun i hi => ?_⟩, rfl⟩
        have := least_neg.1 h3 i (by omega)
        simp only [decide_eq_false_iff_not] at this
        omega
theorem efault_of_tab {n : Nat} {zs : List Int} (h : IsTab n zs) : efault n zs = (0, 0) := by
  have h1 := h.pos
  have h2 := h.le
  have h3 := h.len
  unfold efault
  rw [if_neg (by omega), if_neg (by rw [h3, Int.natCast_mul]; simp), if_neg]
  rw [Decidable.not_not, least_neg]
  intro i hi
  have := h.rng i (by omega)
  simp only [decide_eq_false_iff_not]; omega

/-- A group: a table with a one, whose products group, and each of whose things has an inverse. -/
structure IsGrp (n : Nat) (zs : List Int) (e : Nat) : Prop where
  tab : IsTab n zs
  elt : e < n
  one : one n zs = (e : Int)
  left : ∀ a, a < n → tm n zs e a = a
  right : ∀ a, a < n → tm n zs a e = a
  ass : ∀ a b c, a < n → b < n → c < n → tm n zs (tm n zs a b) c = tm n zs a (tm n zs b c)
  inv : ∀ a, a < n → ∃ b, b < n ∧ tm n zs a b = e

theorem gfault_grp {N : Int} {zs : List Int} (h : (gfault N zs).1 = 0) : ∃ n e : Nat, N = n ∧ IsGrp n zs e ∧ gfault N zs = (0, 0) := by
  unfold gfault at h ⊢
  by_cases h1 : (efault N zs).1 ≠ 0
  · rw [if_pos h1] at h; exact absurd h h1
  · rw [if_neg h1] at h ⊢
    obtain ⟨n, rfl, ht, _⟩ := efault_tab (Decidable.not_not.1 h1)
    rw [Int.toNat_natCast] at h ⊢
    by_cases h2 : one n zs = -1
    · rw [if_pos h2] at h; cases h
    · rw [if_neg h2] at h ⊢
      by_cases h3 : least n (fun a => !assB n zs a) ≠ -1
      · rw [if_pos h3] at h; cases h
      · rw [if_neg h3] at h ⊢
        by_cases h4 : least n (fun a => decide (invL n zs (one n zs) a = -1)) ≠ -1
        · rw [if_pos h4] at h; cases h
        · rw [if_neg h4]
          have h3 := least_neg.1 (Decidable.not_not.1 h3)
          have h4 := least_neg.1 (Decidable.not_not.1 h4)
          rcases least_cases n (oneB n zs) with ⟨e, he, hp, _, ee⟩ | ⟨_, ee⟩
          · have hone : one n zs = (e : Int) := ee
            have ho := oneB_iff.1 hp
            refine ⟨n, e, rfl, ⟨ht, he, hone, fun a ha => (ho a ha).1, fun a ha => (ho a ha).2, fun a b c ha hb hc => ?_, fun a ha => ?_⟩, rfl⟩
            · have := h3 a ha
              simp only [Bool.not_eq_false'] at this
              exact assB_iff.1 this b c hb hc
            · have := h4 a ha
              rw [decide_eq_false_iff_not, hone] at this
              unfold invL at this
              rcases least_cases n (fun b => decide ((tm n zs a b : Int) = (e : Int))) with ⟨b, hb, hpb, _, _⟩ | ⟨_, ee2⟩
              · simp only [decide_eq_true_eq] at hpb
                exact ⟨b, hb, by omega⟩
              · exact absurd ee2 this
          · exact absurd ee h2
theorem gfault_of_grp {n e : Nat} {zs : List Int} (h : IsGrp n zs e) : gfault n zs = (0, 0) := by
  unfold gfault
  rw [efault_of_tab h.tab, if_neg (by simp), Int.toNat_natCast, h.one, if_neg (by omega), if_neg, if_neg]
  · rw [Decidable.not_not, least_neg]
    intro a ha
    rw [decide_eq_false_iff_not]
    unfold invL
    rw [least_neg]
    intro h2
    obtain ⟨b, hb, hab⟩ := h.inv a ha
    have := h2 b hb
    simp [hab] at this
  · rw [Decidable.not_not, least_neg]
    intro a ha
    simp only [Bool.not_eq_false']
    exact assB_iff.2 (fun b c hb hc => h.ass a b c ha hb hc)

theorem nodup_len : ∀ (l m : List Nat), l.Nodup → (∀ z, z ∈ l → z ∈ m) → l.length ≤ m.length
  | [], _, _, _ => Nat.zero_le _
  | a :: l, m, hn, hs => by
    rw [List.nodup_cons] at hn
    have ha := hs a (by simp)
    have h1 := nodup_len l (m.erase a) hn.2 (fun z hz => by
      rw [List.mem_erase_of_ne (fun e => hn.1 (by rw [← e]; exact hz))]
      exact hs z (by simp [hz]))
    rw [List.length_erase_of_mem ha] at h1
    have := List.length_pos_of_mem ha
    simp; omega
theorem map_nodup {f : Nat → Nat} : ∀ {l : List Nat}, l.Nodup → (∀ x y, x ∈ l → y ∈ l → f x = f y → x = y) → (l.map f).Nodup
  | [], _, _ => by simp
  | a :: l, hn, hf => by
    rw [List.nodup_cons] at hn
    rw [List.map_cons, List.nodup_cons]
    refine ⟨fun hm => ?_, map_nodup hn.2 (fun x y hx hy => hf x y (by simp [hx]) (by simp [hy]))⟩
    obtain ⟨y, hy, e⟩ := List.mem_map.1 hm
    have := hf y a (by simp [hy]) (by simp) e
    rw [this] at hy
    exact hn.1 hy
/-- What is different goes to what is different: then all are met. -/
theorem meets {n : Nat} {f : Nat → Nat} (hl : ∀ x, x < n → f x < n) (hi : ∀ x y, x < n → y < n → f x = f y → x = y) {y : Nat} (hy : y < n) : ∃ x, x < n ∧ f x = y := by
  rcases Classical.em (∃ x, x < n ∧ f x = y) with h | h
  · exact h
  · exfalso
    have h1 : (y :: (List.range n).map f).Nodup := by
      rw [List.nodup_cons]
      refine ⟨fun hm => ?_, map_nodup List.nodup_range (fun a b ha hb => hi a b (List.mem_range.1 ha) (List.mem_range.1 hb))⟩
      obtain ⟨x, hx, e⟩ := List.mem_map.1 hm
      exact h ⟨x, List.mem_range.1 hx, e⟩
    have h2 := nodup_len _ (List.range n) h1 (fun z hz => by
      rcases List.mem_cons.1 hz with rfl | hz
      · exact List.mem_range.2 hy
      · obtain ⟨x, hx, rfl⟩ := List.mem_map.1 hz
        exact List.mem_range.2 (hl x (List.mem_range.1 hx)))
    simp at h2
    omega
/-- In a finite table whose products group and that has a one, what is an inverse on one side is so on the other. -/
theorem inv_both {n e : Nat} {zs : List Int} (ht : IsTab n zs) (he : e < n) (hl : ∀ a, a < n → tm n zs e a = a) (hr : ∀ a, a < n → tm n zs a e = a)
    (hass : ∀ a b c, a < n → b < n → c < n → tm n zs (tm n zs a b) c = tm n zs a (tm n zs b c)) {a b : Nat} (ha : a < n) (hb : b < n) (hab : tm n zs a b = e) : tm n zs b a = e := by
  obtain ⟨c, hc, hca⟩ := meets (n := n) (f := fun x => tm n zs x a) (fun x hx => tm_lt ht hx ha) (fun x y hx hy hxy => by
    have h1 : tm n zs (tm n zs x a) b = tm n zs (tm n zs y a) b := congrArg (fun z => tm n zs z b) hxy
    rw [hass x a b hx ha hb, hass y a b hy ha hb, hab, hr x hx, hr y hy] at h1
    exact h1) he
  have h2 : c = b := by
    have h3 := hass c a b hc ha hb
    have hca' : tm n zs c a = e := hca
    rw [hca', hab, hl b hb, hr c hc] at h3
    exact h3.symm
  rw [← h2]; exact hca
end Go.Proofs.YtgejngpioldhpaaGreatDoor

namespace Go.Proofs.YtgejngpioldhpaaGreatDoor
open Go Go.RowKit

/-- A table's value: how many things, and the list. -/
def gv (N : Int) (v : Value) : Value := .agg #[.int .i64 N, v]
/-- A table that lies in a block of its own. -/
abbrev BoxG (w : World) (b : Nat) (N : Int) (v : Value) : Prop := Blk w b 24 [.int .i64 N, v]
theorem blk_below {W W' : World} {s : Nat} {e : TypeId} {vs : List Value} (h : Blk W s e vs) (hb : Below W.heap.size W W') : Blk W' s e vs := h.of_eq (hb.block _ h.lt)

set_option maxRecDepth 100000 in
set_option maxHeartbeats 1000000 in
theorem product_ok (n : Nat) (v : Value) (zs : List Int) (a b : Nat) (w : World) (ht : IsTab n zs) (hv : Sl w v zs) (ha : a < n) (hb : b < n) :
    Calls Tryz.prog 103 #[.agg #[.int .i64 n, v], .int .i64 a, .int .i64 b] w fun e w' => e = .returned (.int .i64 (tm n zs a b)) ∧ Below w.heap.size w w' := by
  have hlt := place_lt ha hb
  have hle := ht.le
  have hlen := ht.len
  have hn2 : n * n ≤ 60 * 60 := Nat.mul_le_mul hle hle
  have hg := tm_get ht ha hb
  have han : a * n ≤ 60 * 60 := Nat.mul_le_mul (by omega) (by omega)
  have hB0 : Below w.heap.size w (w.alloc (.cells #[.int .i64 n, v] 24)) := balloc w _
  have N0 : Blk (w.alloc (.cells #[.int .i64 n, v] 24)) w.heap.size 24 [.int .i64 n, v] := blk0 _ _
  obtain ⟨x, cap, pb, po, rfl, hr, hp, hq3, hq4⟩ := hv.below hB0
  obtain rfl := hr.at_ (by omega)
  have hc := hr.cell (a * n + b) (by omega)
  rw [hg] at hc
  obtain ⟨c0, c1, _, _⟩ := N0.two
  have hi : ((a * n + b : Nat) : Int) < (zs.length : Int) := by omega
  have hm : ((a : Int) * (n : Int)) = ((a * n : Nat) : Int) := by rw [Int.natCast_mul]
  have HLEN := hide hlen
  have HB0 := hide hB0
  generalize hk : a * n = k at *
  generalize tm n zs a b = r at *
  clear hlen hB0 hg hn2 hk
  go_enter Tryz.func103, Tryz.ntmps103
  go_wp2
  go_ret
  exact ⟨rfl, HB0.out⟩
set_option maxRecDepth 100000 in
set_option maxHeartbeats 1000000 in
theorem M_ok (n : Nat) (v : Value) (zs : List Int) (a b : Nat) (w : World) (ht : IsTab n zs) (hv : Sl w v zs) (ha : a < n) (hb : b < n) :
    Calls Tryz.prog 42 #[.agg #[.int .i64 n, v], .int .i64 a, .int .i64 b] w fun e w' => e = .returned (.int .i64 (tm n zs a b)) ∧ Below w.heap.size w w' := by
  have hlt := place_lt ha hb
  have hle := ht.le
  have hlen := ht.len
  have hn2 : n * n ≤ 60 * 60 := Nat.mul_le_mul hle hle
  have hg := tm_get ht ha hb
  have han : a * n ≤ 60 * 60 := Nat.mul_le_mul (by omega) (by omega)
  have hB0 : Below w.heap.size w (w.alloc (.cells #[.int .i64 n, v] 24)) := balloc w _
  have N0 : Blk (w.alloc (.cells #[.int .i64 n, v] 24)) w.heap.size 24 [.int .i64 n, v] := blk0 _ _
  obtain ⟨x, cap, pb, po, rfl, hr, hp, hq3, hq4⟩ := hv.below hB0
  obtain rfl := hr.at_ (by omega)
  have hc := hr.cell (a * n + b) (by omega)
  rw [hg] at hc
  obtain ⟨c0, c1, _, _⟩ := N0.two
  have hi : ((a * n + b : Nat) : Int) < (zs.length : Int) := by omega
  have hm : ((a : Int) * (n : Int)) = ((a * n : Nat) : Int) := by rw [Int.natCast_mul]
  have HLEN := hide hlen
  have HB0 := hide hB0
  generalize hk : a * n = k at *
  generalize tm n zs a b = r at *
  clear hlen hB0 hg hn2 hk
  go_enter Tryz.func42, Tryz.ntmps42
  go_wp2
  go_ret
  exact ⟨rfl, HB0.out⟩

set_option maxRecDepth 100000 in
set_option maxHeartbeats 1000000 in
theorem isThing_any (N a : Int) (v : Value) (w : World) :
    Calls Tryz.prog 100 #[.agg #[.int .i64 N, v], .int .i64 a] w fun e w' => e = .returned (.bool (decide (0 ≤ a ∧ a < N))) ∧ Below w.heap.size w w' := by
  have hB0 : Below w.heap.size w (w.alloc (.cells #[.int .i64 N, v] 24)) := balloc w _
  have N0 : Blk (w.alloc (.cells #[.int .i64 N, v] 24)) w.heap.size 24 [.int .i64 N, v] := blk0 _ _
  obtain ⟨c0, c1, _, _⟩ := N0.two
  by_cases h1 : 0 ≤ a
  · by_cases h2 : a < N
    · go_enter Tryz.func100, Tryz.ntmps100
      go_wp2
      go_ret
      exact ⟨by simp [h1, h2], hB0⟩
    · go_enter Tryz.func100, Tryz.ntmps100
      go_wp2
      go_ret
      exact ⟨by simp [h2], hB0⟩
  · go_enter Tryz.func100, Tryz.ntmps100
    go_wp2
    go_ret
    exact ⟨by simp; omega, hB0⟩

set_option maxRecDepth 100000 in
set_option maxHeartbeats 1000000 in
theorem least_any (n k : Nat) (caps : Array Value) (p : Nat → Bool) (w : World) (hn : n ≤ 1000000)
    (hcall : ∀ a W, Sem.run Tryz.prog (callFunc k (#[.int .i64 a] ++ caps)) W = .ok (.enter k (#[.int .i64 a] ++ caps)) W)
    (hp : ∀ (W : World) (a : Nat), Below w.heap.size w W → a < n → Calls Tryz.prog k (#[.int .i64 a] ++ caps) W fun e w' => e = .returned (.bool (p a)) ∧ Below W.heap.size W w') :
    Calls Tryz.prog 82 #[.int .i64 n, .func (.func k) #[] caps] w fun e w' => e = .returned (.int .i64 (least n p)) ∧ Below w.heap.size w w' := by
  have HP := hide hp
  clear hp
  go_enter Tryz.func82, Tryz.ntmps82
  go_wp2
  go_loopw [7] (fun i wr => ∃ j : Nat, j ≤ n ∧ i = .int .i64 j ∧ (∀ t, t < j → p t = false) ∧ Below w.heap.size w wr) (fun i _ => n - (intOf i).toNat)
  case atStart => exact ⟨0, Nat.zero_le _, rfl, fun t ht => by omega, Below.refl _ _⟩
  case round =>
    obtain ⟨j, hj, rfl, hno, hB⟩ := hrel
    have HN := hide hno
    clear hno
    by_cases hlt : j < n
    · go_wp2_with fail
      refine (HP.out wr j hB hlt).mono ?_
      rintro e w1 ⟨rfl, hb1⟩
      have hB1 := bcat hB hb1 hB.size
      cases hpj : p j with
      | true =>
        go_wp2
        go_ret
        exact ⟨by rw [least_at hlt hpj HN.out]; rfl, hB1⟩
      | false =>
        go_wp2
        go_roundw
        case rel => exact ⟨j + 1, by omega, by go_num, fun t ht => by
          by_cases e : t = j
          · rw [e]; exact hpj
          · exact HN.out t (by omega), hB1⟩
        case measure => simp [intOf]; omega
    · have hjn : j = n := by omega
      subst hjn
      go_wp2
      go_ret
      exact ⟨by rw [least_none HN.out]; rfl, hB⟩
end Go.Proofs.YtgejngpioldhpaaGreatDoor

namespace Go.Proofs.YtgejngpioldhpaaGreatDoor
open Go Go.RowKit

/-- Numbers as ints. -/
def li (xs : List Nat) : List Int := xs.map fun (x : Nat) => (x : Int)
theorem li_len (xs : List Nat) : (li xs).length = xs.length := by simp [li]
theorem li_get {xs : List Nat} {k : Nat} (hk : k < xs.length) : (li xs)[k]?.getD 0 = (xs[k] : Int) := by simp [li, hk]
theorem or_one {p : Nat → Bool} {n x : Nat} (hn : n ≤ 60) (hx : x < n) : bits BinOp.or IntKind.u64 (bs p n : Int) (IntKind.u64.wrap (2 ^ x)) = (bs (fun a => p a || decide (a = x)) n : Int) := by
  have h1 : IntKind.u64.wrap ((2 : Int) ^ x) = ((2 ^ x : Nat) : Int) := by
    have : 2 ^ x < 18446744073709551616 := by rw [← bs_one hx]; exact bs_64 hn
    rw [IntKind.wrap_u64]
    have e : ((2 : Int) ^ x) = ((2 ^ x : Nat) : Int) := by simp
    rw [e]
    generalize 2 ^ x = y at this
    omega
  rw [h1, ← bs_one hx, bits_or_u64_nat _ _ (bs_64 hn) (bs_64 hn), bs_or]

set_option maxRecDepth 100000 in
set_option maxHeartbeats 1000000 in
theorem of_ok (n : Nat) (v : Value) (xs : List Nat) (w : World) (hn : n ≤ 60) (hm : xs.length ≤ 60) (hv : Sl w v (li xs)) (hx : ∀ x, x ∈ xs → x < n) :
    Calls Tryz.prog 26 #[v] w fun e w' => e = .returned (.int .u64 (bs (fun a => decide (a ∈ xs)) n)) ∧ w' = w := by
  obtain ⟨a, cap, pb, po, rfl, hr, hp, hq3, hq4⟩ := hv
  rw [li_len] at hq3
  have hc : ∀ k, (hk : k < xs.length) → w.cell? ⟨pb, po + k, none⟩ = some (.int .i64 (xs[k] : Int)) := fun k hk => by
    have := hr.cell k (by rw [li_len]; exact hk)
    rwa [li_get hk] at this
  have ha : 0 < xs.length → a = some ⟨pb, po, none⟩ := fun h => hr.at_ (by rw [li_len]; exact h)
  rw [li_len]
  have HC := hide hc
  have HX := hide hx
  have HA := hide ha
  clear hr hc hx ha
  go_enter Tryz.func26, Tryz.ntmps26
  go_wp2
  go_loopw [3, 8] (fun s i wr => ∃ k : Nat, k ≤ xs.length ∧ i = .int .i64 k ∧ s = .int .u64 (bs (fun a => decide (a ∈ xs.take k)) n) ∧ wr = w) (fun _ i _ => xs.length - (intOf i).toNat)
  case atStart => exact ⟨0, Nat.zero_le _, rfl, by simp [bs_none], rfl⟩
  case round =>
    obtain ⟨k, hk, rfl, rfl, rfl⟩ := hrel
    by_cases hlt : k < xs.length
    · obtain rfl := HA.out (by omega)
      have hck := HC.out k hlt
      have hxk : xs[k] < n := HX.out _ (List.getElem_mem hlt)
      have hor := or_one (p := fun a => decide (a ∈ xs.take k)) hn hxk
      have he : (fun a => decide (a ∈ xs.take k) || decide (a = xs[k])) = fun a => decide (a ∈ xs.take (k + 1)) := by
        funext a
        simp only [List.take_succ_eq_append_getElem hlt, List.mem_append, List.mem_singleton, Bool.decide_or]
      rw [he] at hor
      generalize xs[k] = x at *
      have hx0 : (0 : Int) ≤ (x : Int) := by omega
      have hx1 : (x : Int) ≤ 64 := by omega
      clear he
      go_wp2_with (simp only [hor])
      go_roundw
      case rel => exact ⟨k + 1, by omega, by go_num, rfl, trivial⟩
      case measure => simp [intOf]; omega
    · have : k = xs.length := by omega
      subst this
      rw [List.take_length]
      go_wp2
      go_ret
      exact ⟨rfl, rfl⟩

set_option maxRecDepth 100000 in
set_option maxHeartbeats 1000000 in
theorem has_ok (n a : Nat) (p : Nat → Bool) (w : World) (hn : n ≤ 60) (ha : a < n) :
    Calls Tryz.prog 78 #[.int .u64 (bs p n), .int .i64 a] w fun e w' => e = .returned (.bool (p a)) ∧ w' = w := by
  have h0 : (0 : Int) ≤ (a : Int) := by omega
  have h1 : (a : Int) ≤ 64 := by omega
  have h2 : bits BinOp.and IntKind.u64 ((bs p n : Int) / 2 ^ a) 1 = (if p a then 1 else 0 : Int) := by
    have e : ((bs p n : Int) / 2 ^ a) = ((bs p n / 2 ^ a : Nat) : Int) := by simp
    have hlt : bs p n / 2 ^ a < 18446744073709551616 := Nat.lt_of_le_of_lt (Nat.div_le_self _ _) (bs_64 hn)
    have := bits_and_u64_nat (bs p n / 2 ^ a) 1 hlt (by omega)
    rw [e]
    refine this.trans ?_
    rw [Nat.and_one_is_mod, bs_has p ha]
    cases p a <;> rfl
  cases hpa : p a with
  | true =>
    rw [hpa] at h2
    go_enter Tryz.func78, Tryz.ntmps78
    go_wp2_with (simp only [h2])
    go_ret
    exact ⟨rfl, rfl⟩
  | false =>
    rw [hpa] at h2
    go_enter Tryz.func78, Tryz.ntmps78
    go_wp2_with (simp only [h2])
    go_ret
    exact ⟨rfl, rfl⟩

theorem and127 (x : Int) : ∃ k : Nat, k ≤ 127 ∧ bits BinOp.and IntKind.i64 x 127 = (k : Int) := by
  refine ⟨(BitVec.ofInt 64 x &&& BitVec.ofInt 64 127).toNat, ?_, ?_⟩
  · rw [BitVec.toNat_and]; exact Nat.and_le_right
  · have h : (BitVec.ofInt 64 x &&& BitVec.ofInt 64 127).toNat ≤ 127 := by rw [BitVec.toNat_and]; exact Nat.and_le_right
    show IntKind.i64.wrap ((BitVec.ofInt 64 x &&& BitVec.ofInt 64 127).toNat : Int) = _
    rw [IntKind.wrap_i64]
    omega
set_option maxRecDepth 100000 in
set_option maxHeartbeats 1000000 in
theorem ones_raw (x : Int) (w : World) :
    Calls Tryz.prog 107 #[.int .u64 x] w fun e w' => (∃ y : Int, e = .returned (.int .i64 (bits BinOp.and IntKind.i64 y 127))) ∧ w' = w := by
  go_enter Tryz.func107, Tryz.ntmps107
  go_wp2
  go_ret
  exact ⟨⟨_, rfl⟩, rfl⟩
theorem ones_ok (x : Int) (w : World) :
    Calls Tryz.prog 107 #[.int .u64 x] w fun e w' => (∃ k : Nat, k ≤ 127 ∧ e = .returned (.int .i64 k)) ∧ w' = w := by
  refine (ones_raw x w).mono ?_
  rintro e w' ⟨⟨y, rfl⟩, rfl⟩
  obtain ⟨k, hk, he⟩ := and127 y
  exact ⟨⟨k, hk, by rw [he]⟩, rfl⟩
/-- How many things a set has: some number. -/
theorem len_ok (x : Int) (w : World) :
    Calls Tryz.prog 94 #[.int .u64 x] w fun e w' => (∃ k : Nat, k ≤ 127 ∧ e = .returned (.int .i64 k)) ∧ w' = w := by
  go_enter Tryz.func94, Tryz.ntmps94
  go_wp2_with fail
  refine (ones_ok _ w).mono ?_
  rintro e w1 ⟨⟨c, hc, rfl⟩, rfl⟩
  go_wp2
  go_ret
  exact ⟨⟨c, hc, rfl⟩, rfl⟩
end Go.Proofs.YtgejngpioldhpaaGreatDoor

namespace Go.Proofs
open Go.Shelf
def Tryz.lays29_ren : Go.Shelf.Ren := ⟨fun | 29 => 95 | n => n, fun | 22 => 54 | 25 => 112 | 54 => 115 | n => n, fun | 1 => 0 | n => n⟩
theorem Tryz.lays29 : Go.Proofs.Lays7.n29 Tryz.prog Tryz.lays29_ren := {
  mixed := by kernel_rfl
  f29 := Tryz.func95.trans (congrArg some (by kernel_rfl))
  t0 := by kernel_rfl
  a0 := fun _ => by kernel_rfl
  z0 := fun _ => by kernel_rfl
  v0 := fun _ => by kernel_rfl
  i0 := by kernel_rfl
  t3 := by kernel_rfl
  a3 := fun _ => by kernel_rfl
  z3 := fun _ => by kernel_rfl
  v3 := fun _ => by kernel_rfl
  i3 := by kernel_rfl
  t4 := by kernel_rfl
  a4 := fun _ => by kernel_rfl
  z4 := fun _ => by kernel_rfl
  v4 := fun _ => by kernel_rfl
  i4 := by kernel_rfl
  t5 := by kernel_rfl
  a5 := fun _ => by kernel_rfl
  z5 := fun _ => by kernel_rfl
  v5 := fun _ => by kernel_rfl
  i5 := by kernel_rfl
  t22 := by kernel_rfl
  a22 := fun _ => by kernel_rfl
  z22 := fun _ => by kernel_rfl
  v22 := fun _ => by kernel_rfl
  i22 := by kernel_rfl
  t25 := by kernel_rfl
  a25 := fun _ => by kernel_rfl
  z25 := fun _ => by kernel_rfl
  v25 := fun _ => by kernel_rfl
  i25 := by kernel_rfl
  t54 := by kernel_rfl
  a54 := fun _ => by kernel_rfl
  z54 := fun _ => by kernel_rfl
  g1 := by kernel_rfl }
end Go.Proofs
namespace Go.Proofs.YtgejngpioldhpaaGreatDoor
open Go Go.RowKit

/-- The library's table of places, as its text lays it. -/
def Tab (w : World) : Prop := TabAt 0 Lib.deBruijn64tab w
theorem Tab.below {w w' : World} (h : Tab w) (hb : Below w.heap.size w w') : Tab w' := fun j hj => below_cell hb (h j hj)
theorem Tab.lt {w : World} (h : Tab w) : 0 < w.heap.size := World.block_lt_of_cell? w ⟨0, 0, none⟩ (h 0 (by decide))
theorem Tab.of {w w' : World} (h : Tab w) (hb : w'.heap[0]? = w.heap[0]?) : Tab w' := fun j hj => (World.cell?_of_block (a := ⟨0, j, none⟩) hb).trans (h j hj)

theorem tz_ok (x : Nat) (w : World) (hx : x < 18446744073709551616) (hT : Tab w) :
    Calls Tryz.prog 95 #[.int .u64 x] w fun e w' => e = .returned (.int .i64 (Lib.ctz 64 x)) ∧ w' = w :=
  Any7.bits_TrailingZeros64 Tryz.lays29 x hx w (fun _ => hT)

/-- A slice of ints that reads as zs, and lies in a block from base on. -/
def SlF (base : Nat) (w : World) (v : Value) (zs : List Int) : Prop := ∃ a cap pb po, v = .slice a zs.length cap ∧ Reads w a pb po zs ∧ pb < w.heap.size ∧ zs.length ≤ cap ∧ cap ≤ maxLen ∧ base ≤ pb
theorem SlF.sl {base : Nat} {w : World} {v : Value} {zs : List Int} (h : SlF base w v zs) : Sl w v zs := by
  obtain ⟨a, cap, pb, po, h1, h2, h3, h4, h5, _⟩ := h
  exact ⟨a, cap, pb, po, h1, h2, h3, h4, h5⟩
theorem SlF.keep {base : Nat} {w w' : World} {v : Value} {zs : List Int} (h : SlF base w v zs) (hk : ∀ b, base ≤ b → b < w.heap.size → w'.heap[b]? = w.heap[b]?) (hs : w.heap.size ≤ w'.heap.size) : SlF base w' v zs := by
  obtain ⟨a, cap, pb, po, h1, h2, h3, h4, h5, h6⟩ := h
  exact ⟨a, cap, pb, po, h1, h2.of_eq (hk pb h6 h3), by omega, h4, h5, h6⟩
theorem SlF.below {base : Nat} {w w' : World} {v : Value} {zs : List Int} (h : SlF base w v zs) (hb : Below w.heap.size w w') : SlF base w' v zs := h.keep (fun b _ h2 => hb.block b h2) hb.size
theorem SlF.mono {base base' : Nat} {w : World} {v : Value} {zs : List Int} (h : SlF base w v zs) (hb : base' ≤ base) : SlF base' w v zs := by
  obtain ⟨a, cap, pb, po, h1, h2, h3, h4, h5, h6⟩ := h
  exact ⟨a, cap, pb, po, h1, h2, h3, h4, h5, by omega⟩
theorem SlF.of_own {w : World} {base : Nat} {g len cap : Nat} {zs : List Int} (hl : len = zs.length) (h : w.ownsRow base 3 1 (.slice (some ⟨g, 0, none⟩) len cap) len (zs.map (Value.int .i64))) : SlF base w (.slice (some ⟨g, 0, none⟩) len cap) zs := by
  subst hl
  rcases h.2 with ⟨hv, _⟩ | ⟨g', cap', cur, hv, hge, hh, h1, h2, _⟩
  · cases hv
  · cases hv
    refine ⟨some ⟨g, 0, none⟩, cap, g, 0, rfl, ⟨fun _ => rfl, fun j hj => ?_⟩, (Array.getElem?_eq_some_iff.1 hh).1, h1, h2, hge⟩
    have h3 := h.cells (g := g) rfl j (.int .i64 (zs[j]?.getD 0)) (by simp [hj])
    rw [show (⟨g, 0, none⟩ : Addr).add j = ⟨g, j, none⟩ by unfold Addr.add; split <;> simp_all] at h3
    rw [Nat.zero_add]; exact h3
/-- A slice of ints that a function has made, and lengthens. -/
def Row (w : World) (base : Nat) (v : Value) (zs : List Int) : Prop := w.ownsRow base 3 1 v zs.length (zs.map (Value.int .i64))

/-- What a set has, in order. -/
def lst (n : Nat) (p : Nat → Bool) : List Nat := (List.range n).filter p
theorem mem_lst {n : Nat} {p : Nat → Bool} {a : Nat} : a ∈ lst n p ↔ a < n ∧ p a = true := by simp [lst]
theorem lst_len (n : Nat) (p : Nat → Bool) : (lst n p).length ≤ n := Nat.le_trans (List.length_filter_le _ _) (by simp)

set_option maxRecDepth 100000 in
set_option maxHeartbeats 2000000 in
theorem list_ok (n : Nat) (p : Nat → Bool) (w : World) (hn : n ≤ 60) (hT : Tab w) :
    Calls Tryz.prog 70 #[.int .u64 (bs p n)] w fun e w' => ∃ r, e = .returned r ∧ SlF w.heap.size w' r (li (lst n p)) ∧ Below w.heap.size w w' := by
  obtain ⟨i0, hi, hz0, hz1, hz2⟩ := info_parts info3b
  have HT := hide hT
  clear hT
  go_enter Tryz.func70, Tryz.ntmps70
  go_wp2_with fail
  refine (len_ok _ w).mono ?_
  rintro e w1 ⟨⟨c, hc, rfl⟩, rfl⟩
  go_wp2_with (first
    | (at_make; refine wpList_make_own _ rfl _ _ 22 rfl w1.heap.size 3 i0 (.int .i64 0) 1 under22b hi hz0 hz1 _ _ _ c rfl rfl rfl (by rw [hz2]; omega) (by unfold maxLen; omega) (Nat.le_refl _) ?_))
  intro w2 hown hg
  have hB2 : Below w1.heap.size w1 w2 := (Below.refl _ w1).grown hg (Nat.le_refl _) (by simp)
  have hs2 : w1.heap.size < w2.heap.size := by
    rcases hown.2 with ⟨hv, _⟩ | ⟨g', cap', cur, hv, hge, hh, _⟩
    · cases hv
    · cases hv; exact (Array.getElem?_eq_some_iff.1 hh).1
  clear hg
  go_wp2
  go_loopw [3, 4] (fun v s wr => ∃ j : Nat, ∃ g len cap : Nat, j ≤ n ∧ s = .int .u64 (bs (fun a => p a && decide (j ≤ a)) n) ∧ v = .slice (some ⟨g, 0, none⟩) len cap ∧ len = (lst j p).length ∧ wr.ownsRow w1.heap.size 3 1 (.slice (some ⟨g, 0, none⟩) len cap) len ((li (lst j p)).map (Value.int .i64)) ∧ Below w1.heap.size w1 wr) (fun _ s _ => (intOf s).toNat)
  case atStart => exact ⟨0, w1.heap.size, 0, c, Nat.zero_le _, by simp, rfl, rfl, hown, hB2⟩
  case round =>
    obtain ⟨j, g, len, cap, hj, rfl, rfl, hlen, hown, hB⟩ := hrel
    have hBs := hB.size
    have hlj := lst_len j p
    by_cases h0 : bs (fun a => p a && decide (j ≤ a)) n = 0
    · have hz := bs_zero h0
      have HE : Hid (lst n p = lst j p) := range_rest hj hz
      have h0i : ((bs (fun a => p a && decide (j ≤ a)) n : Nat) : Int) = 0 := by omega
      have HO := hide (SlF.of_own (by rw [li_len]; exact hlen) hown)
      clear hown hlen
      rw [h0i]
      go_wp2
      go_ret
      exact ⟨_, rfl, by rw [HE.out]; exact HO.out, hB⟩
    · obtain ⟨k, hkn, hpk, hno, hctz, hand⟩ := low_bit hn h0
      simp only [Bool.and_eq_true, decide_eq_true_eq] at hpk
      have hrl : lst (k + 1) p = lst j p ++ [k] := range_low hpk.2 hpk.1 hno
      have hbe : bs (fun a => (p a && decide (j ≤ a)) && decide (k < a)) n = bs (fun a => p a && decide (k + 1 ≤ a)) n := bs_ext fun a _ => by
        by_cases hka : k < a
        · have h1 : j ≤ a := by omega
          have h2 : k + 1 ≤ a := by omega
          simp [hka, h1, h2]
        · have h2 : ¬ k + 1 ≤ a := by omega
          simp [hka, h2]
      rw [hbe] at hand
      have hTx := tz_ok (bs (fun a => p a && decide (j ≤ a)) n) wr (bs_64 hn) (HT.out.below hB)
      rw [hctz] at hTx
      have hlt1 : bs (fun a => p a && decide (j ≤ a)) n < 18446744073709551616 := bs_64 hn
      have hless : bs (fun a => p a && decide (k + 1 ≤ a)) n < bs (fun a => p a && decide (j ≤ a)) n := by
        rw [← hand]
        have := Nat.and_le_right (n := bs (fun a => p a && decide (j ≤ a)) n) (m := bs (fun a => p a && decide (j ≤ a)) n - 1)
        omega
      generalize hX : bs (fun a => p a && decide (j ≤ a)) n = X at *
      generalize hY : bs (fun a => p a && decide (k + 1 ≤ a)) n = Y at *
      have hsub : IntKind.u64.wrap ((X : Int) - 1) = ((X - 1 : Nat) : Int) := by rw [IntKind.wrap_u64]; omega
      have hb : bits BinOp.and IntKind.u64 (X : Int) ((X - 1 : Nat) : Int) = (Y : Int) := by
        rw [bits_and_u64_nat X (X - 1) hlt1 (by omega), hand]
      have hX0 : ¬ (X : Int) = 0 := by omega
      have HTX := hide hTx
      have HRL := hide hrl
      have HLEN := hide hlen
      have HY := hide hY
      clear hTx hrl hlen hno hctz hand hbe hX hY
      have hown2 := hown
      go_wp2_with fail
      refine HTX.out.mono ?_
      rintro e w3 ⟨rfl, rfl⟩
      go_wp2_with (first
        | (at_builtin; refine wpList_append_own _ rfl _ _ 22 rfl w1.heap.size 3 i0 (.int .i64 0) 1 8 under22b hi hz0 hz1 hz2 rfl (by decide) _ _ _ rfl (World.ownsRow.alloc hown2 _) ⟨w3.heap.size, 0, none⟩ 1 1 [.int .i64 k] rfl rfl ?c1 ?c2 ?c3 ?c4 ?c5 ?_))
      case c1 => exact cell_one_new _ _ _
      case c2 => simp [Value.oneCell']
      case c3 => unfold maxLen; have := HLEN.out; omega
      case c4 => have := HLEN.out; omega
      case c5 => simp; omega
      intro v' w4 hown' hgrow _
      obtain ⟨g', cap', rfl⟩ := ownsRow_succ hown'
      have hB4 : Below w1.heap.size w1 w4 := (hB.alloc hBs _).grown hgrow (by simp; omega) (fun j e => owns_ge hown2 j e)
      have hown5 : w4.ownsRow w1.heap.size 3 1 (.slice (some ⟨g', 0, none⟩) (len + 1) cap') (len + 1) ((li (lst (k + 1) p)).map (Value.int .i64)) := by
        rw [HRL.out]; simpa [li] using hown'
      have HL2 := hide (show len + 1 = (lst (k + 1) p).length by rw [HRL.out, HLEN.out, List.length_append]; rfl)
      clear hown' hgrow hown2 hown
      go_wp2_with (simp only [hb])
      go_roundw
      case rel => exact ⟨k + 1, g', len + 1, cap', hkn, (by rw [HY.out]), rfl, HL2.out, hown5, hB4⟩
      case measure => simp [intOf]; omega
end Go.Proofs.YtgejngpioldhpaaGreatDoor

namespace Go.Proofs.YtgejngpioldhpaaGreatDoor.Fin

/-- A finite group on a list. -/
structure Fg (l : List Nat) (m : Nat → Nat → Nat) (e : Nat) : Prop where
  nd : l.Nodup
  one : e ∈ l
  cl : ∀ a b, a ∈ l → b ∈ l → m a b ∈ l
  ass : ∀ a b c, a ∈ l → b ∈ l → c ∈ l → m (m a b) c = m a (m b c)
  left : ∀ a, a ∈ l → m e a = a
  right : ∀ a, a ∈ l → m a e = a
  inv : ∀ a, a ∈ l → ∃ b, b ∈ l ∧ m a b = e ∧ m b a = e

theorem Fg.pos {l : List Nat} {m : Nat → Nat → Nat} {e : Nat} (h : Fg l m e) : 0 < l.length := List.length_pos_of_mem h.one
theorem Fg.can {l : List Nat} {m : Nat → Nat → Nat} {e : Nat} (h : Fg l m e) {x y z : Nat} (hx : x ∈ l) (hy : y ∈ l) (hz : z ∈ l) (he : m x y = m x z) : y = z := by
  obtain ⟨b, hb, _, hbx⟩ := h.inv x hx
  have h1 : m b (m x y) = m b (m x z) := by rw [he]
  rwa [← h.ass b x y hb hx hy, ← h.ass b x z hb hx hz, hbx, h.left y hy, h.left z hz] at h1
theorem Fg.canR {l : List Nat} {m : Nat → Nat → Nat} {e : Nat} (h : Fg l m e) {x y z : Nat} (hx : x ∈ l) (hy : y ∈ l) (hz : z ∈ l) (he : m y x = m z x) : y = z := by
  obtain ⟨b, hb, hxb, _⟩ := h.inv x hx
  have h1 : m (m y x) b = m (m z x) b := by rw [he]
  rwa [h.ass y x b hy hx hb, h.ass z x b hz hx hb, hxb, h.right y hy, h.right z hz] at h1

/-- Powers. -/
def po (m : Nat → Nat → Nat) (e a : Nat) : Nat → Nat
  | 0 => e
  | k + 1 => m (po m e a k) a
variable {l : List Nat} {m : Nat → Nat → Nat} {e : Nat}
theorem po_mem (h : Fg l m e) {a : Nat} (ha : a ∈ l) : ∀ k, po m e a k ∈ l
  | 0 => h.one
  | k + 1 => h.cl _ _ (po_mem h ha k) ha
theorem po_one (h : Fg l m e) {a : Nat} (ha : a ∈ l) : po m e a 1 = a := h.left a ha
theorem po_add (h : Fg l m e) {a : Nat} (ha : a ∈ l) (i : Nat) : ∀ j, po m e a (i + j) = m (po m e a i) (po m e a j)
  | 0 => (h.right _ (po_mem h ha i)).symm
  | j + 1 => by
    show m (po m e a (i + j)) a = m (po m e a i) (m (po m e a j) a)
    rw [po_add h ha i j, h.ass _ _ _ (po_mem h ha i) (po_mem h ha j) ha]
theorem po_mul (h : Fg l m e) {a : Nat} (ha : a ∈ l) (i : Nat) : ∀ j, po m e (po m e a i) j = po m e a (i * j)
  | 0 => rfl
  | j + 1 => by
    show m (po m e (po m e a i) j) (po m e a i) = _
    rw [po_mul h ha i j, Nat.mul_succ, po_add h ha]
theorem po_e (h : Fg l m e) : ∀ k, po m e e k = e
  | 0 => rfl
  | k + 1 => by show m (po m e e k) e = e; rw [po_e h k, h.right e h.one]
theorem po_com (h : Fg l m e) {a b : Nat} (ha : a ∈ l) (hb : b ∈ l) (hab : m a b = m b a) : ∀ k, m (po m e a k) b = m b (po m e a k)
  | 0 => by show m e b = m b e; rw [h.left b hb, h.right b hb]
  | k + 1 => by
    show m (m (po m e a k) a) b = m b (m (po m e a k) a)
    rw [h.ass _ _ _ (po_mem h ha k) ha hb, hab, ← h.ass _ _ _ (po_mem h ha k) hb ha, po_com h ha hb hab k, h.ass _ _ _ hb (po_mem h ha k) ha]
theorem po_prod (h : Fg l m e) {a b : Nat} (ha : a ∈ l) (hb : b ∈ l) (hab : m a b = m b a) : ∀ k, po m e (m a b) k = m (po m e a k) (po m e b k)
  | 0 => (h.left e h.one).symm
  | k + 1 => by
    have pa := po_mem h ha k
    have pb := po_mem h hb k
    show m (po m e (m a b) k) (m a b) = m (m (po m e a k) a) (m (po m e b k) b)
    have q := po_com h hb ha hab.symm k
    rw [po_prod h ha hb hab k, h.ass _ _ _ pa pb (h.cl _ _ ha hb), ← h.ass _ _ _ pb ha hb, q, h.ass _ _ _ ha pb hb, ← h.ass _ _ _ pa ha (h.cl _ _ pb hb)]
theorem po_pow_com (h : Fg l m e) {a : Nat} (ha : a ∈ l) (i j : Nat) : m (po m e a i) (po m e a j) = m (po m e a j) (po m e a i) := by
  rw [← po_add h ha, ← po_add h ha, Nat.add_comm]
/-- What stands at a conjugate. -/
theorem po_conj (h : Fg l m e) {g a b : Nat} (hg : g ∈ l) (ha : a ∈ l) (hb : b ∈ l) (hab : m g a = m b g) : ∀ k, m g (po m e a k) = m (po m e b k) g
  | 0 => by show m g e = m e g; rw [h.left g hg, h.right g hg]
  | k + 1 => by
    show m g (m (po m e a k) a) = m (m (po m e b k) b) g
    rw [← h.ass _ _ _ hg (po_mem h ha k) ha, po_conj h hg ha hb hab k, h.ass _ _ _ (po_mem h hb k) hg ha, hab, ← h.ass _ _ _ (po_mem h hb k) hb hg]

/-- Counting. -/
theorem bij_len {l1 l2 : List Nat} (f : Nat → Nat) (h1 : l1.Nodup) (h2 : l2.Nodup) (hf : ∀ x, x ∈ l1 → f x ∈ l2) (hi : ∀ x y, x ∈ l1 → y ∈ l1 → f x = f y → x = y) (hs : ∀ y, y ∈ l2 → ∃ x, x ∈ l1 ∧ f x = y) : l1.length = l2.length := by
  apply Nat.le_antisymm
  · have := nodup_len (l1.map f) l2 (map_nodup h1 hi) (fun z hz => by
      obtain ⟨x, hx, rfl⟩ := List.mem_map.1 hz
      exact hf x hx)
    simpa using this
  · have := nodup_len l2 (l1.map f) h2 (fun z hz => by
      obtain ⟨x, hx, rfl⟩ := hs z hz
      exact List.mem_map.2 ⟨x, hx, rfl⟩)
    simpa using this
theorem split_len (p : Nat → Bool) : ∀ l : List Nat, l.length = (l.filter p).length + (l.filter (fun y => !p y)).length
  | [] => rfl
  | a :: l => by
    have := split_len p l
    cases h : p a <;> simp [h] <;> omega
theorem filter_eq {l : List Nat} {p q : Nat → Bool} (h : ∀ x, x ∈ l → p x = q x) : l.filter p = l.filter q := List.filter_congr h
/-- Where each class has a multiple of d, so has the whole. -/
theorem part_dvd (d : Nat) (R : Nat → Nat → Bool) : ∀ (k : Nat) (l : List Nat), l.length ≤ k → (∀ x, x ∈ l → R x x = true) → (∀ x y z, x ∈ l → y ∈ l → z ∈ l → R x y = true → R x z = R y z) → (∀ x, x ∈ l → d ∣ (l.filter (R x)).length) → d ∣ l.length
  | 0, l, hl, _, _, _ => by
    have : l = [] := List.length_eq_zero_iff.1 (by omega)
    subst this; exact ⟨0, rfl⟩
  | k + 1, [], _, _, _, _ => ⟨0, rfl⟩
  | k + 1, x :: t, hl, hr, ht, hd => by
    have hx : x ∈ x :: t := by simp
    rw [split_len (R x) (x :: t)]
    refine Nat.dvd_add (hd x hx) (part_dvd d R k _ ?_ ?_ ?_ ?_)
    · rw [List.filter_cons, if_neg (by simp [hr x hx])]
      have := List.length_filter_le (fun y => !R x y) t
      simp at hl; omega
    · intro y hy
      exact hr y ((List.mem_filter.1 hy).1)
    · intro a b c ha hb hc
      exact ht a b c ((List.mem_filter.1 ha).1) ((List.mem_filter.1 hb).1) ((List.mem_filter.1 hc).1)
    · intro y hy
      obtain ⟨hy1, hy2⟩ := List.mem_filter.1 hy
      rw [List.filter_filter, filter_eq (q := R y)]
      · exact hd y hy1
      · intro z hz
        cases hyz : R y z with
        | false => simp
        | true =>
          have : R x z = false := by
            cases hxz : R x z with
            | false => rfl
            | true =>
              have e1 := ht x z y hx hz hy1 hxz
              have e2 := ht y z y hy1 hz hy1 hyz
              rw [hr y hy1] at e2
              rw [← e2] at e1
              simp [e1] at hy2
          simp [this]
/-- Where each fibre has f things. -/
theorem fib_len (φ : Nat → Nat) (f : Nat) : ∀ (K A : List Nat), K.Nodup → (∀ x, x ∈ A → φ x ∈ K) → (∀ k, k ∈ K → (A.filter (fun x => decide (φ x = k))).length = f) → A.length = K.length * f
  | [], A, _, hm, _ => by
    have : A = [] := List.eq_nil_iff_forall_not_mem.2 (fun x hx => by simpa using hm x hx)
    subst this; simp
  | k :: K, A, hn, hm, hf => by
    rw [List.nodup_cons] at hn
    have h1 := fib_len φ f K (A.filter (fun y => !decide (φ y = k))) hn.2 (fun x hx => by
      obtain ⟨hx1, hx2⟩ := List.mem_filter.1 hx
      simp at hx2
      have := hm x hx1
      simp [hx2] at this
      exact this) (fun j hj => by
        rw [List.filter_filter, filter_eq (q := fun x => decide (φ x = j))]
        · exact hf j (by simp [hj])
        · intro x _
          by_cases e : φ x = j
          · have : ¬ j = k := fun h => hn.1 (by rw [← h]; exact hj)
            simp [e, this]
          · simp [e])
    rw [split_len (fun y => decide (φ y = k)) A, hf k (by simp), h1, List.length_cons, Nat.add_mul]
    omega

/-- The least of what there is. -/
theorem least_pos {P : Nat → Prop} : ∀ k, 0 < k → P k → ∃ d, 0 < d ∧ P d ∧ ∀ i, 0 < i → i < d → ¬ P i := by
  intro k
  induction k using Nat.strongRecOn with
  | _ k ih =>
    intro hk hP
    rcases Classical.em (∃ i, 0 < i ∧ i < k ∧ P i) with ⟨i, hi, hl, hp⟩ | h
    · exact ih i hl hi hp
    · exact ⟨k, hk, hP, fun i hi hl hp => h ⟨i, hi, hl, hp⟩⟩
theorem po_back (h : Fg l m e) {a : Nat} (ha : a ∈ l) {i j : Nat} (hij : i ≤ j) (he : po m e a i = po m e a j) : po m e a (j - i) = e := by
  have h1 : po m e a j = m (po m e a i) (po m e a (j - i)) := by rw [← po_add h ha]; congr 1; omega
  rw [← he] at h1
  have h2 : m (po m e a i) e = m (po m e a i) (po m e a (j - i)) := by rw [h.right _ (po_mem h ha i)]; exact h1
  exact (h.can (po_mem h ha i) h.one (po_mem h ha _) h2).symm
/-- A thing's order: powers are the one just at its multiples. -/
theorem order (h : Fg l m e) {a : Nat} (ha : a ∈ l) : ∃ d, 0 < d ∧ ∀ i, po m e a i = e ↔ d ∣ i := by
  have : ∃ k, 0 < k ∧ po m e a k = e := by
    rcases Classical.em (∃ i j, i < j ∧ j < l.length + 1 ∧ po m e a i = po m e a j) with ⟨i, j, hij, _, he⟩ | hno
    · exact ⟨j - i, by omega, po_back h ha (by omega) he⟩
    · exfalso
      have h1 := nodup_len ((List.range (l.length + 1)).map (po m e a)) l (map_nodup List.nodup_range (fun x y hx hy hxy => by
        rw [List.mem_range] at hx hy
        rcases Nat.lt_trichotomy x y with hl | hl | hl
        · exact absurd ⟨x, y, hl, hy, hxy⟩ hno
        · exact hl
        · exact absurd ⟨y, x, hl, hx, hxy.symm⟩ hno)) (fun z hz => by
          obtain ⟨i, _, rfl⟩ := List.mem_map.1 hz
          exact po_mem h ha i)
      simp at h1
      omega
  obtain ⟨k, hk, hke⟩ := this
  obtain ⟨d, hd, hde, hmin⟩ := least_pos (P := fun k => po m e a k = e) k hk hke
  refine ⟨d, hd, fun i => ⟨fun hi => ?_, fun ⟨q, hq⟩ => ?_⟩⟩
  · rcases Nat.eq_zero_or_pos (i % d) with h0 | h0
    · exact Nat.dvd_of_mod_eq_zero h0
    · exfalso
      refine hmin (i % d) h0 (Nat.mod_lt _ hd) ?_
      have h1 : po m e a i = m (po m e a (d * (i / d))) (po m e a (i % d)) := by rw [← po_add h ha]; congr 1; exact (Nat.div_add_mod i d).symm
      rw [hi, ← po_mul h ha, hde, po_e h, h.left _ (po_mem h ha _)] at h1
      exact h1.symm
  · rw [hq, ← po_mul h ha, hde, po_e h]

/-- A subgroup. -/
theorem sub_fg (h : Fg l m e) {c : List Nat} (hn : c.Nodup) (hs : ∀ x, x ∈ c → x ∈ l) (h1 : e ∈ c) (hc : ∀ a b, a ∈ c → b ∈ c → m a b ∈ c) : Fg c m e := by
  refine ⟨hn, h1, hc, fun a b d ha hb hd => h.ass a b d (hs a ha) (hs b hb) (hs d hd), fun a ha => h.left a (hs a ha), fun a ha => h.right a (hs a ha), fun a ha => ?_⟩
  obtain ⟨d, hd, ho⟩ := order h (hs a ha)
  have hp : ∀ k, po m e a k ∈ c := fun k => by
    induction k with
    | zero => exact h1
    | succ k ih => exact hc _ _ ih ha
  have hd1 : po m e a d = e := (ho d).2 ⟨1, by simp⟩
  refine ⟨po m e a (d - 1), hp _, ?_, ?_⟩
  · rw [← po_one h (hs a ha), po_mul h (hs a ha), ← po_add h (hs a ha), show 1 + 1 * (d - 1) = d by omega]; exact hd1
  · have : m (po m e a (d - 1)) a = po m e a d := by rw [show d = (d - 1) + 1 by omega]; rfl
    rw [this]; exact hd1
/-- Lagrange. -/
theorem lagr (h : Fg l m e) {c : List Nat} (hg : Fg c m e) (hs : ∀ x, x ∈ c → x ∈ l) : c.length ∣ l.length := by
  have hR : ∀ x y, x ∈ l → ((c.any fun k => decide (m x k = y)) = true ↔ ∃ k, k ∈ c ∧ m x k = y) := fun x y _ => by simp
  have hsym : ∀ x y, x ∈ l → y ∈ l → (∃ k, k ∈ c ∧ m x k = y) → ∃ k, k ∈ c ∧ m y k = x := fun x y hx _ ⟨k, hk, e1⟩ => by
    obtain ⟨b, hb, hkb, _⟩ := hg.inv k hk
    exact ⟨b, hb, by rw [← e1, h.ass _ _ _ hx (hs k hk) (hs b hb), hkb, h.right x hx]⟩
  have htr : ∀ x y z, x ∈ l → (∃ k, k ∈ c ∧ m x k = y) → (∃ k, k ∈ c ∧ m y k = z) → ∃ k, k ∈ c ∧ m x k = z := fun x y z hx ⟨k, hk, e1⟩ ⟨j, hj, e2⟩ =>
    ⟨m k j, hg.cl _ _ hk hj, by rw [← h.ass _ _ _ hx (hs k hk) (hs j hj), e1, e2]⟩
  refine part_dvd _ (fun x y => c.any fun k => decide (m x k = y)) l.length l (Nat.le_refl _) (fun x hx => ?_) (fun x y z hx hy hz hxy => ?_) (fun x hx => ?_)
  · rw [hR x x hx]; exact ⟨e, hg.one, h.right x hx⟩
  · rw [hR x y hx] at hxy
    rw [Bool.eq_iff_iff, hR x z hx, hR y z hy]
    exact ⟨fun hz1 => htr y x z hy (hsym x y hx hy hxy) hz1, fun hz1 => htr x y z hx hxy hz1⟩
  · have := bij_len (l1 := c) (l2 := l.filter fun y => c.any fun k => decide (m x k = y)) (m x) hg.nd (h.nd.filter _) (fun k hk => List.mem_filter.2 ⟨h.cl _ _ hx (hs k hk), (hR x _ hx).2 ⟨k, hk, rfl⟩⟩) (fun a b ha hb hab => h.can hx (hs a ha) (hs b hb) hab) (fun y hy => by
      obtain ⟨_, h2⟩ := List.mem_filter.1 hy
      exact (hR x y hx).1 h2)
    exact ⟨1, by rw [← this]; simp⟩
/-- The powers of a thing. -/
theorem cyc_fg (h : Fg l m e) {a d : Nat} (ha : a ∈ l) (hd : 0 < d) (ho : ∀ i, po m e a i = e ↔ d ∣ i) : Fg ((List.range d).map (po m e a)) m e ∧ ∀ x, x ∈ (List.range d).map (po m e a) → x ∈ l := by
  have hsub : ∀ x, x ∈ (List.range d).map (po m e a) → x ∈ l := fun x hx => by
    obtain ⟨i, _, rfl⟩ := List.mem_map.1 hx
    exact po_mem h ha i
  have hall : ∀ i, po m e a i ∈ (List.range d).map (po m e a) := fun i => by
    refine List.mem_map.2 ⟨i % d, List.mem_range.2 (Nat.mod_lt _ hd), ?_⟩
    have h1 : po m e a i = m (po m e a (d * (i / d))) (po m e a (i % d)) := by rw [← po_add h ha]; congr 1; exact (Nat.div_add_mod i d).symm
    rw [(ho _).2 ⟨i / d, rfl⟩, h.left _ (po_mem h ha _)] at h1
    exact h1.symm
  refine ⟨sub_fg h (map_nodup List.nodup_range (fun i j hi hj hij => ?_)) hsub (hall 0) (fun x y hx hy => ?_), hsub⟩
  · rw [List.mem_range] at hi hj
    have key : ∀ i j, i < d → j < d → i ≤ j → po m e a i = po m e a j → i = j := fun i j hi hj hle he => by
      have h1 := (ho _).1 (po_back h ha hle he)
      rcases Nat.eq_zero_or_pos (j - i) with h0 | h0
      · omega
      · have := Nat.le_of_dvd h0 h1
        omega
    rcases Nat.le_total i j with hl | hl
    · exact key i j hi hj hl hij
    · exact (key j i hj hi hl hij.symm).symm
  · obtain ⟨i, _, rfl⟩ := List.mem_map.1 hx
    obtain ⟨j, _, rfl⟩ := List.mem_map.1 hy
    rw [← po_add h ha]
    exact hall _
theorem ord_dvd_len (h : Fg l m e) {a d : Nat} (ha : a ∈ l) (hd : 0 < d) (ho : ∀ i, po m e a i = e ↔ d ∣ i) : d ∣ l.length := by
  obtain ⟨h1, h2⟩ := cyc_fg h ha hd ho
  have := lagr h h1 h2
  simpa using this
theorem po_len (h : Fg l m e) {a : Nat} (ha : a ∈ l) : po m e a l.length = e := by
  obtain ⟨d, hd, ho⟩ := order h ha
  exact (ho _).2 (ord_dvd_len h ha hd ho)
/-- How many things are, n times, the one. -/
def cnt (l : List Nat) (m : Nat → Nat → Nat) (e n : Nat) : Nat := (l.filter fun x => decide (po m e x n = e)).length
theorem cnt_gcd (h : Fg l m e) (n : Nat) : cnt l m e n = cnt l m e (Nat.gcd n l.length) := by
  unfold cnt
  rw [filter_eq]
  intro x hx
  obtain ⟨d, hd, ho⟩ := order h hx
  have h1 := ord_dvd_len h hx hd ho
  rw [Bool.eq_iff_iff, decide_eq_true_eq, decide_eq_true_eq, ho, ho]
  exact ⟨fun h2 => Nat.dvd_gcd h2 h1, fun h2 => Nat.dvd_trans h2 (Nat.gcd_dvd_left _ _)⟩
end Go.Proofs.YtgejngpioldhpaaGreatDoor.Fin

namespace Go.Proofs.YtgejngpioldhpaaGreatDoor.Fin
variable {l : List Nat} {m : Nat → Nat → Nat} {e : Nat}

/-- A subgroup, as a test of things. -/
structure Sg (l : List Nat) (m : Nat → Nat → Nat) (e : Nat) (P : Nat → Prop) : Prop where
  one : P e
  mul : ∀ a b, a ∈ l → b ∈ l → P a → P b → P (m a b)
theorem Sg.pow (h : Fg l m e) {P : Nat → Prop} (S : Sg l m e P) {a : Nat} (ha : a ∈ l) (hp : P a) : ∀ k, P (po m e a k)
  | 0 => S.one
  | k + 1 => S.mul _ _ (po_mem h ha k) ha (Sg.pow h S ha hp k) hp
/-- Inverses come by themselves. -/
theorem Sg.inv (h : Fg l m e) {P : Nat → Prop} (S : Sg l m e P) {a b : Nat} (ha : a ∈ l) (hb : b ∈ l) (hab : m a b = e) (hp : P a) : P b := by
  obtain ⟨d, hd, ho⟩ := order h ha
  have h1 : po m e a d = e := (ho d).2 (Nat.dvd_refl d)
  have h2 : m a (po m e a (d - 1)) = e := by
    have : po m e a d = m (po m e a 1) (po m e a (d - 1)) := by rw [← po_add h ha]; congr 1; omega
    rw [po_one h ha] at this
    rw [← this]; exact h1
  have h3 : b = po m e a (d - 1) := h.can ha hb (po_mem h ha _) (by rw [hab, h2])
  rw [h3]; exact S.pow h ha hp _
/-- What a set makes: what is in each subgroup that has it. -/
def Gen (l : List Nat) (m : Nat → Nat → Nat) (e : Nat) (X : Nat → Prop) (a : Nat) : Prop := ∀ P : Nat → Prop, Sg l m e P → (∀ x, x ∈ l → X x → P x) → P a
theorem Gen.sg (X : Nat → Prop) : Sg l m e (Gen l m e X) := ⟨fun _ S _ => S.one, fun a b ha hb h1 h2 P S hx => S.mul a b ha hb (h1 P S hx) (h2 P S hx)⟩
theorem Gen.base {X : Nat → Prop} {x : Nat} (hx : x ∈ l) (h : X x) : Gen l m e X x := fun _ _ hP => hP x hx h
theorem Gen.least {X P : Nat → Prop} (S : Sg l m e P) (hP : ∀ x, x ∈ l → X x → P x) {a : Nat} (h : Gen l m e X a) : P a := h P S hP
theorem Gen.mono {X Y : Nat → Prop} (hXY : ∀ x, x ∈ l → X x → Y x) {a : Nat} (h : Gen l m e X a) : Gen l m e Y a := fun P S hP => h P S (fun x hx hX => hP x hx (hXY x hx hX))
/-- A subgroup's things, as a group. -/
theorem sg_fg (h : Fg l m e) {p : Nat → Bool} (S : Sg l m e (fun a => p a = true)) : Fg (l.filter p) m e := by
  refine sub_fg h (h.nd.filter _) (fun x hx => (List.mem_filter.1 hx).1) (List.mem_filter.2 ⟨h.one, S.one⟩) (fun a b ha hb => ?_)
  obtain ⟨ha1, ha2⟩ := List.mem_filter.1 ha
  obtain ⟨hb1, hb2⟩ := List.mem_filter.1 hb
  exact List.mem_filter.2 ⟨h.cl _ _ ha1 hb1, S.mul a b ha1 hb1 ha2 hb2⟩
theorem sg_dvd (h : Fg l m e) {p : Nat → Bool} (S : Sg l m e (fun a => p a = true)) : (l.filter p).length ∣ l.length :=
  lagr h (sg_fg h S) (fun _ hx => (List.mem_filter.1 hx).1)
theorem Sg.both {P Q : Nat → Prop} (S : Sg l m e P) (T : Sg l m e Q) : Sg l m e (fun a => P a ∧ Q a) :=
  ⟨⟨S.one, T.one⟩, fun a b ha hb h1 h2 => ⟨S.mul a b ha hb h1.1 h2.1, T.mul a b ha hb h1.2 h2.2⟩⟩

/-- Numbers of pairs. -/
theorem pair_code {N x y : Nat} (hy : y < N) : (x * N + y) / N = x ∧ (x * N + y) % N = y := by
  have hN : 0 < N := by omega
  constructor
  · rw [Nat.mul_comm, Nat.mul_add_div hN, Nat.div_eq_of_lt hy, Nat.add_zero]
  · rw [Nat.mul_comm, Nat.mul_add_mod, Nat.mod_eq_of_lt hy]
theorem filter_mem_len {l A : List Nat} (hl : l.Nodup) (hA : A.Nodup) (hs : ∀ x, x ∈ A → x ∈ l) (q : Nat → Bool) (hq : ∀ x, x ∈ l → (q x = true ↔ x ∈ A)) : (l.filter q).length = A.length :=
  bij_len (fun x => x) (hl.filter _) hA (fun x hx => (hq x (List.mem_filter.1 hx).1).1 (List.mem_filter.1 hx).2) (fun _ _ _ _ h => h) (fun y hy => ⟨y, List.mem_filter.2 ⟨hs y hy, (hq y (hs y hy)).2 hy⟩, rfl⟩)
/-- THE PRODUCT FORMULA: the products of two subgroups, times what both have, are the products of how many they have. -/
theorem prod_formula (h : Fg l m e) {N : Nat} (hN : ∀ x, x ∈ l → x < N) {p q : Nat → Bool} (S : Sg l m e (fun a => p a = true)) (T : Sg l m e (fun a => q a = true)) (r : Nat → Bool)
    (hr : ∀ x, x ∈ l → (r x = true ↔ ∃ a b, a ∈ l ∧ b ∈ l ∧ p a = true ∧ q b = true ∧ m a b = x)) :
    (l.filter r).length * (l.filter (fun a => p a && q a)).length = (l.filter p).length * (l.filter q).length := by
  have nd1 : (l.filter r).Nodup := h.nd.filter _
  have nd2 : (l.filter p).Nodup := h.nd.filter _
  -- pairs (x, a) with a of the first, and x of the product a b
  have key1 := fib_len (fun c => c / N) (l.filter (fun a => p a && q a)).length (l.filter r) ((List.range (N * N)).filter fun c => decide (c / N ∈ l) && (decide (c % N ∈ l) && (p (c % N) && l.any fun b => q b && decide (m (c % N) b = c / N)))) nd1
    (fun c hc => by
      obtain ⟨_, h2⟩ := List.mem_filter.1 hc
      simp only [Bool.and_eq_true, decide_eq_true_eq, List.any_eq_true] at h2
      obtain ⟨h3, h4, h5, b, hb, h6, h7⟩ := h2
      exact List.mem_filter.2 ⟨h3, (hr _ h3).2 ⟨_, b, h4, hb, h5, h6, h7⟩⟩)
    (fun x hx => by
      obtain ⟨hx1, hx2⟩ := List.mem_filter.1 hx
      obtain ⟨a0, b0, ha0, hb0, hpa, hqb, hab⟩ := (hr x hx1).1 hx2
      have hxN := hN x hx1
      symm
      refine bij_len (fun c => x * N + m a0 c) (h.nd.filter _) (((List.nodup_range).filter _).filter _) (fun c hc => ?_) (fun c d hc hd hcd => ?_) (fun y hy => ?_)
      · obtain ⟨hc1, hc2⟩ := List.mem_filter.1 hc
        simp only [Bool.and_eq_true] at hc2
        have hm := h.cl _ _ ha0 hc1
        obtain ⟨e1, e2⟩ := pair_code (x := x) (hN _ hm)
        obtain ⟨ci, hci, hcc, hcc'⟩ := h.inv c hc1
        refine List.mem_filter.2 ⟨List.mem_filter.2 ⟨List.mem_range.2 ?_, ?_⟩, ?_⟩
        · have h8 : (x + 1) * N ≤ N * N := Nat.mul_le_mul_right N hxN
          have h9 := hN _ hm
          rw [Nat.add_mul] at h8; omega
        · simp only [Bool.and_eq_true, decide_eq_true_eq, List.any_eq_true]
          rw [e1, e2]
          refine ⟨hx1, hm, S.mul a0 c ha0 hc1 hpa hc2.1, m ci b0, h.cl _ _ hci hb0, T.mul ci b0 hci hb0 (T.inv h hc1 hci hcc hc2.2) hqb, ?_⟩
          rw [h.ass _ _ _ ha0 hc1 (h.cl _ _ hci hb0), ← h.ass _ _ _ hc1 hci hb0, hcc, h.left b0 hb0, hab]
        · rw [decide_eq_true_eq]; exact e1
      · obtain ⟨hc1, _⟩ := List.mem_filter.1 hc
        obtain ⟨hd1, _⟩ := List.mem_filter.1 hd
        exact h.can ha0 hc1 hd1 (Nat.add_left_cancel hcd)
      · obtain ⟨hy1, hy2⟩ := List.mem_filter.1 hy
        obtain ⟨_, hy3⟩ := List.mem_filter.1 hy1
        rw [decide_eq_true_eq] at hy2
        simp only [Bool.and_eq_true, decide_eq_true_eq, List.any_eq_true] at hy3
        rw [hy2] at hy3
        obtain ⟨_, h4, h5, b, hb, h6, h7⟩ := hy3
        obtain ⟨ai, hai, haa, haa'⟩ := h.inv a0 ha0
        obtain ⟨bi, hbi, hbb, _⟩ := h.inv b hb
        have h10 : m ai (y % N) = m b0 bi := by
          have : m (y % N) b = m a0 b0 := by rw [h7, hab]
          have h11 : m ai (m (m (y % N) b) bi) = m ai (m (m a0 b0) bi) := by rw [this]
          rw [h.ass _ _ _ h4 hb hbi, hbb, h.right _ h4, h.ass _ _ _ ha0 hb0 hbi, ← h.ass _ _ _ hai ha0 (h.cl _ _ hb0 hbi), haa', h.left _ (h.cl _ _ hb0 hbi)] at h11
          exact h11
        refine ⟨m ai (y % N), List.mem_filter.2 ⟨h.cl _ _ hai h4, ?_⟩, ?_⟩
        · simp only [Bool.and_eq_true]
          exact ⟨S.mul ai _ hai h4 (S.inv h ha0 hai haa hpa) h5, by rw [h10]; exact T.mul b0 bi hb0 hbi hqb (T.inv h hb hbi hbb h6)⟩
        · show x * N + m a0 (m ai (y % N)) = y
          rw [← h.ass _ _ _ ha0 hai h4, haa, h.left _ h4, ← hy2, Nat.mul_comm]
          exact Nat.div_add_mod y N)
  have key2 := fib_len (fun c => c % N) (l.filter q).length (l.filter p) ((List.range (N * N)).filter fun c => decide (c / N ∈ l) && (decide (c % N ∈ l) && (p (c % N) && l.any fun b => q b && decide (m (c % N) b = c / N)))) nd2
    (fun c hc => by
      obtain ⟨_, h2⟩ := List.mem_filter.1 hc
      simp only [Bool.and_eq_true, decide_eq_true_eq, List.any_eq_true] at h2
      exact List.mem_filter.2 ⟨h2.2.1, h2.2.2.1⟩)
    (fun a ha => by
      obtain ⟨ha1, ha2⟩ := List.mem_filter.1 ha
      symm
      refine bij_len (fun b => m a b * N + a) (h.nd.filter _) (((List.nodup_range).filter _).filter _) (fun b hb => ?_) (fun b d hb hd hbd => ?_) (fun y hy => ?_)
      · obtain ⟨hb1, hb2⟩ := List.mem_filter.1 hb
        have hm := h.cl _ _ ha1 hb1
        obtain ⟨e1, e2⟩ := pair_code (x := m a b) (hN _ ha1)
        refine List.mem_filter.2 ⟨List.mem_filter.2 ⟨List.mem_range.2 ?_, ?_⟩, ?_⟩
        · have h8 : (m a b + 1) * N ≤ N * N := Nat.mul_le_mul_right N (hN _ hm)
          have h9 := hN _ ha1
          rw [Nat.add_mul] at h8; omega
        · simp only [Bool.and_eq_true, decide_eq_true_eq, List.any_eq_true]
          rw [e1, e2]
          exact ⟨hm, ha1, ha2, b, hb1, hb2, rfl⟩
        · rw [decide_eq_true_eq]; exact e2
      · obtain ⟨hb1, _⟩ := List.mem_filter.1 hb
        obtain ⟨hd1, _⟩ := List.mem_filter.1 hd
        have h1 := (pair_code (x := m a b) (hN _ ha1)).1
        have h2 := (pair_code (x := m a d) (hN _ ha1)).1
        have hbd' : m a b * N + a = m a d * N + a := hbd
        rw [hbd'] at h1
        exact h.can ha1 hb1 hd1 (by rw [← h1, h2])
      · obtain ⟨hy1, hy2⟩ := List.mem_filter.1 hy
        obtain ⟨_, hy3⟩ := List.mem_filter.1 hy1
        rw [decide_eq_true_eq] at hy2
        simp only [Bool.and_eq_true, decide_eq_true_eq, List.any_eq_true] at hy3
        rw [hy2] at hy3
        obtain ⟨_, _, _, b, hb, h6, h7⟩ := hy3
        refine ⟨b, List.mem_filter.2 ⟨hb, h6⟩, ?_⟩
        show m a b * N + a = y
        rw [h7, ← hy2, Nat.mul_comm]
        exact Nat.div_add_mod y N)
  rw [← key1, ← key2]
end Go.Proofs.YtgejngpioldhpaaGreatDoor.Fin

namespace Go.Proofs.YtgejngpioldhpaaGreatDoor.Fin
variable {l : List Nat} {m : Nat → Nat → Nat} {e : Nat} {iv : Nat → Nat}

/-- A function that gives inverses. -/
def Iv (l : List Nat) (m : Nat → Nat → Nat) (e : Nat) (iv : Nat → Nat) : Prop := ∀ a, a ∈ l → iv a ∈ l ∧ m a (iv a) = e ∧ m (iv a) a = e
/-- x conjugated by a. -/
def cj (m : Nat → Nat → Nat) (iv : Nat → Nat) (x a : Nat) : Nat := m (iv a) (m x a)
theorem cj_mem (h : Fg l m e) (V : Iv l m e iv) {x a : Nat} (hx : x ∈ l) (ha : a ∈ l) : cj m iv x a ∈ l := h.cl _ _ (V a ha).1 (h.cl _ _ hx ha)
/-- a times the conjugate is x times a. -/
theorem cj_eq (h : Fg l m e) (V : Iv l m e iv) {x a : Nat} (hx : x ∈ l) (ha : a ∈ l) : m a (cj m iv x a) = m x a := by
  obtain ⟨hi, h1, _⟩ := V a ha
  unfold cj
  rw [← h.ass _ _ _ ha hi (h.cl _ _ hx ha), h1, h.left _ (h.cl _ _ hx ha)]
theorem cj_unique (h : Fg l m e) (V : Iv l m e iv) {x y a : Nat} (hx : x ∈ l) (hy : y ∈ l) (ha : a ∈ l) (hc : m a y = m x a) : cj m iv x a = y :=
  h.can ha (cj_mem h V hx ha) hy (by rw [cj_eq h V hx ha, hc])
theorem cj_mul (h : Fg l m e) (V : Iv l m e iv) {x y a : Nat} (hx : x ∈ l) (hy : y ∈ l) (ha : a ∈ l) : cj m iv (m x y) a = m (cj m iv x a) (cj m iv y a) := by
  have hcx := cj_mem h V hx ha
  have hcy := cj_mem h V hy ha
  refine cj_unique h V (h.cl _ _ hx hy) (h.cl _ _ hcx hcy) ha ?_
  rw [← h.ass _ _ _ ha hcx hcy, cj_eq h V hx ha, h.ass _ _ _ hx ha hcy, cj_eq h V hy ha, ← h.ass _ _ _ hx hy ha]
theorem cj_one (h : Fg l m e) (V : Iv l m e iv) {a : Nat} (ha : a ∈ l) : cj m iv e a = e := cj_unique h V h.one h.one ha (by rw [h.left a ha, h.right a ha])
theorem cj_id (h : Fg l m e) (V : Iv l m e iv) {x : Nat} (hx : x ∈ l) : cj m iv x e = x := cj_unique h V hx hx h.one (by rw [h.left x hx, h.right x hx])
theorem cj_cj (h : Fg l m e) (V : Iv l m e iv) {x a b : Nat} (hx : x ∈ l) (ha : a ∈ l) (hb : b ∈ l) : cj m iv (cj m iv x a) b = cj m iv x (m a b) := by
  have hc := cj_mem h V hx ha
  have hm := h.cl _ _ ha hb
  have hcm := cj_mem h V hx hm
  refine cj_unique h V hc hcm hb ?_
  apply h.can ha (h.cl _ _ hb hcm) (h.cl _ _ hc hb)
  rw [← h.ass _ _ _ ha hb hcm, cj_eq h V hx hm, ← h.ass _ _ _ ha hc hb, cj_eq h V hx ha, h.ass _ _ _ hx ha hb]
theorem cj_back (h : Fg l m e) (V : Iv l m e iv) {x a : Nat} (hx : x ∈ l) (ha : a ∈ l) : cj m iv (cj m iv x a) (iv a) = x ∧ cj m iv (cj m iv x (iv a)) a = x := by
  obtain ⟨hi, h1, h2⟩ := V a ha
  constructor
  · rw [cj_cj h V hx ha hi, h1, cj_id h V hx]
  · rw [cj_cj h V hx hi ha, h2, cj_id h V hx]
/-- Normal: it stays, whatever it is conjugated by. -/
def Nm (l : List Nat) (m : Nat → Nat → Nat) (iv : Nat → Nat) (P : Nat → Prop) : Prop := ∀ x a, x ∈ l → a ∈ l → P x → P (cj m iv x a)

/-- The core. -/
def Core (l : List Nat) (m : Nat → Nat → Nat) (iv : Nat → Nat) (P : Nat → Prop) (y : Nat) : Prop := ∀ a, a ∈ l → P (cj m iv y a)
theorem core_sg (h : Fg l m e) (V : Iv l m e iv) {P : Nat → Prop} (S : Sg l m e P) : Sg l m e (Core l m iv P) :=
  ⟨fun a ha => by rw [cj_one h V ha]; exact S.one, fun x y hx hy h1 h2 a ha => by rw [cj_mul h V hx hy ha]; exact S.mul _ _ (cj_mem h V hx ha) (cj_mem h V hy ha) (h1 a ha) (h2 a ha)⟩
theorem core_nm (h : Fg l m e) (V : Iv l m e iv) {P : Nat → Prop} : Nm l m iv (Core l m iv P) := fun x a hx ha hc b hb => by rw [cj_cj h V hx ha hb]; exact hc _ (h.cl _ _ ha hb)
theorem core_in (h : Fg l m e) (V : Iv l m e iv) {P : Nat → Prop} {x : Nat} (hx : x ∈ l) (hc : Core l m iv P x) : P x := by have := hc e h.one; rwa [cj_id h V hx] at this
theorem core_all {P : Nat → Prop} (hN : Nm l m iv P) {x : Nat} (hx : x ∈ l) (hp : P x) : Core l m iv P x := fun a ha => hN x a hx ha hp

/-- The closure: what all conjugates make. -/
def Conj (l : List Nat) (m : Nat → Nat → Nat) (iv : Nat → Nat) (X : Nat → Prop) (y : Nat) : Prop := ∃ x a, x ∈ l ∧ a ∈ l ∧ X x ∧ cj m iv x a = y
theorem gen_nm (h : Fg l m e) (V : Iv l m e iv) {X : Nat → Prop} (hX : Nm l m iv X) : Nm l m iv (Gen l m e X) := by
  intro x a hx ha hg
  have S : Sg l m e (fun y => y ∈ l → Gen l m e X (cj m iv y a)) := by
    refine ⟨fun _ => by rw [cj_one h V ha]; exact (Gen.sg X).one, fun u v hu hv h1 h2 _ => ?_⟩
    rw [cj_mul h V hu hv ha]
    exact (Gen.sg X).mul _ _ (cj_mem h V hu ha) (cj_mem h V hv ha) (h1 hu) (h2 hv)
  exact Gen.least S (fun y hy hXy _ => Gen.base (cj_mem h V hy ha) (hX y a hy ha hXy)) hg hx
theorem conj_nm (h : Fg l m e) (V : Iv l m e iv) {X : Nat → Prop} : Nm l m iv (Conj l m iv X) := by
  rintro y b _ hb ⟨x, a, hx, ha, hX, rfl⟩
  exact ⟨x, m a b, hx, h.cl _ _ ha hb, hX, (cj_cj h V hx ha hb).symm⟩
theorem clos_nm (h : Fg l m e) (V : Iv l m e iv) {X : Nat → Prop} : Nm l m iv (Gen l m e (Conj l m iv X)) := gen_nm h V (conj_nm h V)
theorem clos_has (h : Fg l m e) (V : Iv l m e iv) {X : Nat → Prop} {x : Nat} (hx : x ∈ l) (hX : X x) : Gen l m e (Conj l m iv X) x := Gen.base hx ⟨x, e, hx, h.one, hX, cj_id h V hx⟩
theorem clos_least {X P : Nat → Prop} (S : Sg l m e P) (hN : Nm l m iv P) (hP : ∀ x, x ∈ l → X x → P x) {a : Nat} (hc : Gen l m e (Conj l m iv X) a) : P a :=
  Gen.least S (fun y _ ⟨x, b, hx, hb, hX, hy⟩ => by rw [← hy]; exact hN x b hx hb (hP x hx hX)) hc

/-- The normaliser: by which a set, conjugated, is itself. -/
def Nor (l : List Nat) (m : Nat → Nat → Nat) (iv : Nat → Nat) (P : Nat → Prop) (a : Nat) : Prop := ∀ y, y ∈ l → ((∃ x, x ∈ l ∧ P x ∧ cj m iv x a = y) ↔ P y)
theorem nor_of (h : Fg l m e) (V : Iv l m e iv) {P : Nat → Prop} {a : Nat} (ha : a ∈ l) (h1 : ∀ x, x ∈ l → P x → P (cj m iv x a)) (h2 : ∀ x, x ∈ l → P x → P (cj m iv x (iv a))) : Nor l m iv P a := fun y hy =>
  ⟨fun ⟨x, hx, hp, hc⟩ => by rw [← hc]; exact h1 x hx hp, fun hp => ⟨cj m iv y (iv a), cj_mem h V hy (V a ha).1, h2 y hy hp, (cj_back h V hy ha).2⟩⟩
theorem nor_sub (h : Fg l m e) (V : Iv l m e iv) {P : Nat → Prop} (S : Sg l m e P) {a : Nat} (ha : a ∈ l) (hp : P a) : Nor l m iv P a := by
  obtain ⟨hi, h1, h2⟩ := V a ha
  have hpi : P (iv a) := S.inv h ha hi h1 hp
  obtain ⟨hii, h3, _⟩ := V (iv a) hi
  have hpii : P (iv (iv a)) := S.inv h hi hii h3 hpi
  exact nor_of h V ha (fun x hx hx' => S.mul _ _ hi (h.cl _ _ hx ha) hpi (S.mul _ _ hx ha hx' hp)) (fun x hx hx' => S.mul _ _ hii (h.cl _ _ hx hi) hpii (S.mul _ _ hx hi hx' hpi))
theorem nor_all (h : Fg l m e) (V : Iv l m e iv) {P : Nat → Prop} : (∀ a, a ∈ l → Nor l m iv P a) ↔ Nm l m iv P :=
  ⟨fun hn x a hx ha hp => (hn a ha _ (cj_mem h V hx ha)).1 ⟨x, hx, hp, rfl⟩, fun hn a ha => nor_of h V ha (fun x hx hp => hn x a hx ha hp) (fun x hx hp => hn x (iv a) hx (V a ha).1 hp)⟩

/-- The centre. -/
def Cen' (l : List Nat) (m : Nat → Nat → Nat) (a : Nat) : Prop := ∀ x, x ∈ l → m a x = m x a
theorem cen_sg (h : Fg l m e) : Sg l m e (Cen' l m) :=
  ⟨fun x hx => by rw [h.left x hx, h.right x hx], fun a b ha hb h1 h2 x hx => by rw [h.ass _ _ _ ha hb hx, h2 x hx, ← h.ass _ _ _ ha hx hb, h1 x hx, h.ass _ _ _ hx ha hb]⟩
theorem cen_cj (h : Fg l m e) (V : Iv l m e iv) {z a : Nat} (hz : z ∈ l) (ha : a ∈ l) (hc : Cen' l m z) : cj m iv z a = z := cj_unique h V hz hz ha (hc a ha).symm
theorem cen_nm (h : Fg l m e) (V : Iv l m e iv) : Nm l m iv (Cen' l m) := fun z a hz ha hc => by rw [cen_cj h V hz ha hc]; exact hc
theorem cen_nor (h : Fg l m e) (V : Iv l m e iv) {P : Nat → Prop} {z : Nat} (hz : z ∈ l) (hc : Cen' l m z) : Nor l m iv P z := by
  have hf : ∀ x, x ∈ l → cj m iv x z = x := fun x hx => cj_unique h V hx hx hz (hc x hx)
  exact fun y _ => ⟨fun ⟨x, hx, hp, hxy⟩ => by rw [hf x hx] at hxy; rw [← hxy]; exact hp, fun hp => ⟨y, ‹y ∈ l›, hp, hf y ‹y ∈ l›⟩⟩

/-- Commutators. -/
def cm (m : Nat → Nat → Nat) (iv : Nat → Nat) (a b : Nat) : Nat := m (m (iv a) (iv b)) (m a b)
theorem cm_mem (h : Fg l m e) (V : Iv l m e iv) {a b : Nat} (ha : a ∈ l) (hb : b ∈ l) : cm m iv a b ∈ l := h.cl _ _ (h.cl _ _ (V a ha).1 (V b hb).1) (h.cl _ _ ha hb)
theorem cm_eq (h : Fg l m e) (V : Iv l m e iv) {a b : Nat} (ha : a ∈ l) (hb : b ∈ l) : m (m b a) (cm m iv a b) = m a b := by
  obtain ⟨hi, h1, _⟩ := V a ha
  obtain ⟨hj, h2, _⟩ := V b hb
  unfold cm
  rw [← h.ass _ _ _ (h.cl _ _ hb ha) (h.cl _ _ hi hj) (h.cl _ _ ha hb), h.ass _ _ _ hb ha (h.cl _ _ hi hj), ← h.ass _ _ _ ha hi hj, h1, h.left _ hj, h2, h.left _ (h.cl _ _ ha hb)]
theorem cm_one (h : Fg l m e) (V : Iv l m e iv) {a b : Nat} (ha : a ∈ l) (hb : b ∈ l) : cm m iv a b = e ↔ m a b = m b a := by
  have h1 := cm_eq h V ha hb
  constructor
  · intro h2
    rw [h2, h.right _ (h.cl _ _ hb ha)] at h1
    exact h1.symm
  · intro h2
    exact h.can (h.cl _ _ hb ha) (cm_mem h V ha hb) h.one (by rw [h1, h.right _ (h.cl _ _ hb ha), h2])
theorem cm_cj (h : Fg l m e) (V : Iv l m e iv) {a b c : Nat} (ha : a ∈ l) (hb : b ∈ l) (hc : c ∈ l) : cj m iv (cm m iv a b) c = cm m iv (cj m iv a c) (cj m iv b c) := by
  have hac := cj_mem h V ha hc
  have hbc := cj_mem h V hb hc
  apply h.can (h.cl _ _ hbc hac) (cj_mem h V (cm_mem h V ha hb) hc) (cm_mem h V hac hbc)
  rw [cm_eq h V hac hbc, ← cj_mul h V hb ha hc, ← cj_mul h V (h.cl _ _ hb ha) (cm_mem h V ha hb) hc, cm_eq h V ha hb, cj_mul h V ha hb hc]
def Cms (l : List Nat) (m : Nat → Nat → Nat) (iv : Nat → Nat) (y : Nat) : Prop := ∃ a b, a ∈ l ∧ b ∈ l ∧ cm m iv a b = y
theorem cms_nm (h : Fg l m e) (V : Iv l m e iv) : Nm l m iv (Cms l m iv) := by
  rintro y c _ hc ⟨a, b, ha, hb, rfl⟩
  exact ⟨_, _, cj_mem h V ha hc, cj_mem h V hb hc, (cm_cj h V ha hb hc).symm⟩
theorem der_nm (h : Fg l m e) (V : Iv l m e iv) : Nm l m iv (Gen l m e (Cms l m iv)) := gen_nm h V (cms_nm h V)
theorem der_one (h : Fg l m e) (V : Iv l m e iv) : (∀ a, a ∈ l → Gen l m e (Cms l m iv) a → a = e) ↔ ∀ a b, a ∈ l → b ∈ l → m a b = m b a := by
  constructor
  · intro h1 a b ha hb
    exact (cm_one h V ha hb).1 (h1 _ (cm_mem h V ha hb) (Gen.base (cm_mem h V ha hb) ⟨a, b, ha, hb, rfl⟩))
  · intro h1 a _ hg
    exact Gen.least (P := fun a => a = e) ⟨rfl, fun a b _ _ h2 h3 => by rw [h2, h3, h.left e h.one]⟩ (fun x _ ⟨a, b, ha, hb, hx⟩ => by rw [← hx]; exact (cm_one h V ha hb).2 (h1 a b ha hb)) hg

/-- A test for what is so. -/
theorem test_of (P : Nat → Prop) : ∃ q : Nat → Bool, ∀ a, q a = true ↔ P a := ⟨fun a => @decide (P a) (Classical.propDecidable _), fun a => by simp⟩
/-- A subgroup that is not all lies in a greatest such one. -/
structure Mx (l : List Nat) (m : Nat → Nat → Nat) (e : Nat) (M : Nat → Prop) : Prop where
  sg : Sg l m e M
  less : ∃ x, x ∈ l ∧ ¬ M x
  top : ∀ P : Nat → Prop, Sg l m e P → (∀ x, x ∈ l → M x → P x) → (∃ x, x ∈ l ∧ P x ∧ ¬ M x) → ∀ x, x ∈ l → P x
theorem mx_over (h : Fg l m e) : ∀ (k : Nat) (p : Nat → Bool), Sg l m e (fun a => p a = true) → (∃ x, x ∈ l ∧ ¬ p x = true) → l.length - (l.filter p).length ≤ k → ∃ M : Nat → Prop, Mx l m e M ∧ ∀ x, x ∈ l → p x = true → M x
  | 0, p, _, ⟨x, hx, hn⟩, hk => by
    exfalso
    have h1 : (l.filter p).length < l.length := List.length_filter_lt_length_iff_exists.2 ⟨x, hx, hn⟩
    omega
  | k + 1, p, S, hl, hk => by
    rcases Classical.em (∃ P : Nat → Prop, Sg l m e P ∧ (∀ x, x ∈ l → p x = true → P x) ∧ (∃ x, x ∈ l ∧ P x ∧ ¬ p x = true) ∧ ∃ x, x ∈ l ∧ ¬ P x) with ⟨P, SP, h1, ⟨y, hy, hy1, hy2⟩, hz⟩ | hno
    · obtain ⟨q, hq⟩ := test_of P
      have Sq : Sg l m e (fun a => q a = true) := ⟨(hq e).2 SP.one, fun a b ha hb h3 h4 => (hq _).2 (SP.mul a b ha hb ((hq a).1 h3) ((hq b).1 h4))⟩
      have hlt : (l.filter p).length < (l.filter q).length := by
        have e1 : l.filter p = (l.filter q).filter p := by
          rw [List.filter_filter]
          apply filter_eq
          intro x hx
          cases hpx : p x with
          | false => simp
          | true => simp [(hq x).2 (h1 x hx hpx)]
        rw [e1]
        exact List.length_filter_lt_length_iff_exists.2 ⟨y, List.mem_filter.2 ⟨hy, (hq y).2 hy1⟩, hy2⟩
      obtain ⟨M, hM, hin⟩ := mx_over h k q Sq (by obtain ⟨x, hx, hx2⟩ := hz; exact ⟨x, hx, fun h5 => hx2 ((hq x).1 h5)⟩) (by
        have := List.length_filter_le q l
        omega)
      exact ⟨M, hM, fun x hx hpx => hin x hx ((hq x).2 (h1 x hx hpx))⟩
    · refine ⟨fun a => p a = true, ⟨S, hl, fun P SP h1 h2 x hx => ?_⟩, fun _ _ hp => hp⟩
      rcases Classical.em (P x) with h3 | h3
      · exact h3
      · exact absurd ⟨P, SP, h1, h2, x, hx, h3⟩ hno
/-- What is in all greatest subgroups. -/
def Frat (l : List Nat) (m : Nat → Nat → Nat) (e : Nat) (x : Nat) : Prop := ∀ M : Nat → Prop, Mx l m e M → M x
theorem frat_sg : Sg l m e (Frat l m e) := ⟨fun _ hM => hM.sg.one, fun a b ha hb h1 h2 M hM => hM.sg.mul a b ha hb (h1 M hM) (h2 M hM)⟩
/-- FRATTINI: what is in it can be left away. -/
theorem frat_needless (h : Fg l m e) {X : Nat → Prop} (hX : ∀ a, a ∈ l → Gen l m e X a) : ∀ a, a ∈ l → Gen l m e (fun x => X x ∧ ¬ Frat l m e x) a := by
  intro a ha
  rcases Classical.em (∃ x, x ∈ l ∧ ¬ Gen l m e (fun x => X x ∧ ¬ Frat l m e x) x) with ⟨x, hx, hn⟩ | hno
  · exfalso
    obtain ⟨q, hq⟩ := test_of (Gen l m e (fun x => X x ∧ ¬ Frat l m e x))
    have G := Gen.sg (l := l) (m := m) (e := e) (fun x => X x ∧ ¬ Frat l m e x)
    obtain ⟨M, hM, hin⟩ := mx_over h l.length q ⟨(hq e).2 G.one, fun a b ha hb h3 h4 => (hq _).2 (G.mul a b ha hb ((hq a).1 h3) ((hq b).1 h4))⟩ ⟨x, hx, fun h5 => hn ((hq x).1 h5)⟩ (by omega)
    obtain ⟨y, hy, hy2⟩ := hM.less
    apply hy2
    refine Gen.least hM.sg (fun z hz hXz => ?_) (hX y hy)
    rcases Classical.em (Frat l m e z) with h6 | h6
    · exact h6 M hM
    · exact hin z hz ((hq z).2 (Gen.base hz ⟨hXz, h6⟩))
  · rcases Classical.em (Gen l m e (fun x => X x ∧ ¬ Frat l m e x) a) with h1 | h1
    · exact h1
    · exact absurd ⟨a, ha, h1⟩ hno
/-- In it is what with no subgroup that is not all makes all. -/
theorem frat_iff (h : Fg l m e) {x : Nat} (hx : x ∈ l) : Frat l m e x ↔ ∀ p : Nat → Bool, Sg l m e (fun a => p a = true) → (∃ y, y ∈ l ∧ ¬ p y = true) → ∃ z, z ∈ l ∧ ¬ Gen l m e (fun a => p a = true ∨ a = x) z := by
  constructor
  · intro hf p S hl
    obtain ⟨M, hM, hin⟩ := mx_over h l.length p S hl (by omega)
    obtain ⟨z, hz, hz2⟩ := hM.less
    refine ⟨z, hz, fun hg => hz2 (Gen.least hM.sg (fun y hy hp => ?_) hg)⟩
    rcases hp with hp | rfl
    · exact hin y hy hp
    · exact hf M hM
  · intro hp M hM
    rcases Classical.em (M x) with h1 | h1
    · exact h1
    · exfalso
      obtain ⟨q, hq⟩ := test_of M
      obtain ⟨y, hy, hy2⟩ := hM.less
      obtain ⟨z, hz, hz2⟩ := hp q ⟨(hq e).2 hM.sg.one, fun a b ha hb h3 h4 => (hq _).2 (hM.sg.mul a b ha hb ((hq a).1 h3) ((hq b).1 h4))⟩ ⟨y, hy, fun h5 => hy2 ((hq y).1 h5)⟩
      apply hz2
      refine hM.top (Gen l m e (fun a => q a = true ∨ a = x)) (Gen.sg _) (fun u hu hMu => Gen.base hu (.inl ((hq u).2 hMu))) ⟨x, hx, Gen.base hx (.inr rfl), h1⟩ z hz
end Go.Proofs.YtgejngpioldhpaaGreatDoor.Fin

namespace Go.Proofs.YtgejngpioldhpaaGreatDoor
open _root_.Go.Proofs.YtgejngpioldhpaaGreatDoor.Fin

/-- A group, as a finite group on its numbers. -/
theorem grp_fg {n e : Nat} {zs : List Int} (g : IsGrp n zs e) : Fg (List.range n) (tm n zs) e where
  nd := List.nodup_range
  one := List.mem_range.2 g.elt
  cl := fun a b ha hb => List.mem_range.2 (tm_lt g.tab (List.mem_range.1 ha) (List.mem_range.1 hb))
  ass := fun a b c ha hb hc => g.ass a b c (List.mem_range.1 ha) (List.mem_range.1 hb) (List.mem_range.1 hc)
  left := fun a ha => g.left a (List.mem_range.1 ha)
  right := fun a ha => g.right a (List.mem_range.1 ha)
  inv := fun a ha => by
    obtain ⟨b, hb, hab⟩ := g.inv a (List.mem_range.1 ha)
    exact ⟨b, List.mem_range.2 hb, hab, inv_both g.tab g.elt g.left g.right g.ass (List.mem_range.1 ha) hb hab⟩
/-- What is closed under products with the makers, and has the one, has all that they make. -/
theorem closed_gen {l : List Nat} {m : Nat → Nat → Nat} {e : Nat} (h : Fg l m e) {X P : Nat → Prop} (he : P e) (hcl : ∀ y x, y ∈ l → x ∈ l → P y → X x → P (m y x)) {a : Nat} (ha : a ∈ l) (hg : Gen l m e X a) : P a := by
  have S : Sg l m e (fun x => x ∈ l → ∀ y, y ∈ l → P y → P (m y x)) :=
    ⟨fun _ y hy hp => by rw [h.right y hy]; exact hp, fun a b ha hb h1 h2 _ y hy hp => by
      rw [← h.ass y a b hy ha hb]; exact h2 hb _ (h.cl _ _ hy ha) (h1 ha y hy hp)⟩
  have := hg _ S (fun x hx hX _ y hy hp => hcl y x hy hx hp hX) ha e h.one he
  rwa [h.left a ha] at this
/-- A set that is a subgroup is all that it makes. -/
theorem gen_self {l : List Nat} {m : Nat → Nat → Nat} {e : Nat} {P : Nat → Prop} (S : Sg l m e P) {a : Nat} (h : Gen l m e P a) : P a := h P S (fun _ _ hp => hp)

/-- The inverse of a thing. -/
def iv (n : Nat) (zs : List Int) (e : Nat) (a : Nat) : Nat := (invL n zs e a).toNat
theorem iv_spec {n e : Nat} {zs : List Int} (g : IsGrp n zs e) {a : Nat} (ha : a < n) : iv n zs e a < n ∧ tm n zs a (iv n zs e a) = e ∧ tm n zs (iv n zs e a) a = e ∧ invL n zs e a = (iv n zs e a : Int) := by
  obtain ⟨b, hb, hab⟩ := g.inv a ha
  unfold iv invL
  rcases least_cases n (fun b => decide ((tm n zs a b : Int) = (e : Int))) with ⟨k, hk, hp, _, he⟩ | ⟨hno, _⟩
  · rw [he, Int.toNat_natCast]
    have hp' : tm n zs a k = e := by simp at hp; omega
    exact ⟨hk, hp', inv_both g.tab g.elt g.left g.right g.ass ha hk hp', rfl⟩
  · have := hno b hb
    simp [hab] at this
theorem grp_iv {n e : Nat} {zs : List Int} (g : IsGrp n zs e) : Iv (List.range n) (tm n zs) e (iv n zs e) := fun a ha => by
  obtain ⟨h1, h2, h3, _⟩ := iv_spec g (List.mem_range.1 ha)
  exact ⟨List.mem_range.2 h1, h2, h3⟩
/-- The only thing whose product with a is the one. -/
theorem iv_only {n e : Nat} {zs : List Int} (g : IsGrp n zs e) {a b : Nat} (ha : a < n) (hb : b < n) (h : tm n zs a b = e) : b = iv n zs e a := by
  obtain ⟨h1, h2, _, _⟩ := iv_spec g ha
  exact (grp_fg g).can (List.mem_range.2 ha) (List.mem_range.2 hb) (List.mem_range.2 h1) (by rw [h, h2])
/-- How many of the first k entries are no. -/
theorem nodup_fits {n : Nat} {F : List Nat} (hnd : F.Nodup) (hlt : ∀ x, x ∈ F → x < n) : F.length ≤ n := by
  have := (List.nodup_range (n := n)).sublist (List.filter_sublist (p := fun x => decide (x ∈ F)))
  have h2 := filter_mem_len (List.nodup_range (n := n)) hnd (fun x hx => List.mem_range.2 (hlt x hx)) (fun x => decide (x ∈ F)) (fun x _ => by simp)
  rw [← h2]
  exact Nat.le_trans (List.length_filter_le _ _) (by simp)
/-- A test that says what a property says. -/
theorem test_at (P : Nat → Prop) : ∃ q : Nat → Bool, ∀ a, q a = true ↔ P a := test_of P
end Go.Proofs.YtgejngpioldhpaaGreatDoor
