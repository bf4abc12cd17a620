/- General lemmas of this family: a block of cells written out, its cells, a store into it; make of a whole slice within a fence. No condition. -/
import Derived.RangeFuncNested
import Derived.WalkKit
import Derived.OwnWalkIn
namespace Go.Proofs.YtojnjfkonaeegaaDoorQ
open Go Go.RowKit

/-- A fact kept from the walk, and given back. -/
theorem hide {p : Prop} (h : p) : Hid p := h
theorem unhide {p : Prop} (h : Hid p) : p := h

/-- Block s holds just the cells vs, of the type e, none frozen. -/
def Blk (W : World) (s : Nat) (e : TypeId) (vs : List Value) : Prop := W.heap[s]? = some (.cells vs.toArray e (0, 0))

theorem Blk.lt {W : World} {s : Nat} {e : TypeId} {vs : List Value} (h : Blk W s e vs) : s < W.heap.size := (Array.getElem?_eq_some_iff.1 h).1
theorem Blk.of_eq {W W' : World} {s : Nat} {e : TypeId} {vs : List Value} (h : Blk W s e vs) (hb : W'.heap[s]? = W.heap[s]?) : Blk W' s e vs := hb.trans h
theorem Blk.cell {W : World} {s : Nat} {e : TypeId} {vs : List Value} (h : Blk W s e vs) (y : Nat) : W.cell? ⟨s, y, none⟩ = vs[y]? := by
  simp [World.cell?, show W.heap[s]? = _ from h]
theorem Blk.frozen {W : World} {s : Nat} {e : TypeId} {vs : List Value} (h : Blk W s e vs) (y : Nat) : W.frozen? ⟨s, y, none⟩ = false := by
  simp [World.frozen?, show W.heap[s]? = _ from h]
theorem Blk.set {W : World} {s : Nat} {e : TypeId} {vs : List Value} (h : Blk W s e vs) (y : Nat) (v : Value) : Blk (W.setCell ⟨s, y, none⟩ v) s e (vs.set y v) := by
  obtain ⟨hlt, hk⟩ := Array.getElem?_eq_some_iff.1 h
  show (W.heap.modify s _)[s]? = _
  rw [Array.getElem?_eq_getElem (by rw [Array.size_modify]; exact hlt), Array.getElem_modify_self, hk]
  simp
theorem Blk.other {W : World} {s : Nat} {e : TypeId} {vs : List Value} (h : Blk W s e vs) {p : Addr} (hp : s ≠ p.block) (v : Value) : Blk (W.setCell p v) s e vs :=
  h.of_eq (Below.heap_setCell W p v s hp)
theorem Blk.alloc {W : World} {s : Nat} {e : TypeId} {vs : List Value} (h : Blk W s e vs) (o : Obj) : Blk (W.alloc o) s e vs := h.of_eq (Below.heap_alloc W o s h.lt)
theorem Blk.of_owns {W : World} {base : Nat} {e : TypeId} {g n : Nat} {xs : List Value} (h : W.ownsRow base e 1 (.slice (some ⟨g, 0, none⟩) n n) n xs) : Blk W g e xs := by
  rcases h.2 with ⟨hv, _⟩ | ⟨g', cap, cur, hv, _, hh, _, _, hs, ht⟩
  · cases hv
  · cases hv
    have : cur = xs.toArray := by
      rw [← ht, List.take_of_length_le (by simp [hs])]
    rw [this] at hh
    exact hh

/-- Bools in a block. -/
theorem Blk.bool {W : World} {s : Nat} {e : TypeId} {bs : List Bool} (h : Blk W s e (bs.map Value.bool)) {y : Nat} (hy : y < bs.length) : W.cell? ⟨s, y, none⟩ = some (.bool (bs[y]?.getD false)) := by
  rw [h.cell]; simp [hy]
theorem Blk.setBool {W : World} {s : Nat} {e : TypeId} {bs : List Bool} (h : Blk W s e (bs.map Value.bool)) (y : Nat) (b : Bool) : Blk (W.setCell ⟨s, y, none⟩ (.bool b)) s e ((bs.set y b).map Value.bool) := by
  have := h.set y (.bool b)
  rwa [← List.map_set] at this
/-- Ints in a block. -/
theorem Blk.int {W : World} {s : Nat} {e : TypeId} {zs : List Int} (h : Blk W s e (zs.map (Value.int .i64))) {y : Nat} (hy : y < zs.length) : W.cell? ⟨s, y, none⟩ = some (.int .i64 (zs[y]?.getD 0)) := by
  rw [h.cell]; simp [hy]
theorem Blk.setInt {W : World} {s : Nat} {e : TypeId} {zs : List Int} (h : Blk W s e (zs.map (Value.int .i64))) (y : Nat) (x : Int) : Blk (W.setCell ⟨s, y, none⟩ (.int .i64 x)) s e ((zs.set y x).map (Value.int .i64)) := by
  have := h.set y (.int .i64 x)
  rwa [← List.map_set] at this

theorem made_rep (z : Value) (n : Nat) : (madeCells #[z] n).toList = List.replicate n z := by
  apply List.ext_getElem
  · simp [madeCells]
  · intro i h1 h2
    simp [madeCells, Nat.mod_one]

theorem wpListIn_make_full {F : Fence} {n : Nat} {P : Program} (w : World) {ops : Array Oper} {rest : List Oper} {o : Oper} {a : Act} {Q : Exit → Act → World → Prop}
    (hg : o.guard = none) (l c : Operand) (t : TypeId) (hop : o.op = Op.makeSlice t l c)
    (base : Nat) (e : TypeId) (i : TypeInfo) (z : Value) (size : Nat) (h1 : P.underlying t = some (.slice e)) (h2 : P.info? e = some i) (h3 : i.zero = some z) (h4 : i.size = size)
    (kl kc : IntKind) (L C : Int) (m : Nat) (hl : a.eval l = .int kl L) (hc : a.eval c = .int kc C) (hL : L = (m : Int)) (hC : C = (m : Int)) (b2 : i.bytes * m ≤ 281474976710656) (b3 : m ≤ maxLen) (b4 : base ≤ w.heap.size)
    (hK : ∀ w', w'.ownsRow base e size (.slice (some ⟨w.heap.size, 0, none⟩) m m) m (madeCells z.cells (m * size)).toList → w.grownBy w' none → wpListIn F n P ops Q rest (a.put o.dst (.slice (some ⟨w.heap.size, 0, none⟩) m m)) w') :
    wpListIn F n P ops Q (o :: rest) a w := by
  refine wpListIn_plain hg fun K hK' => ?_
  obtain ⟨w', hrun, r1, r2⟩ := run_make_full (P := P) w base t e i z size h1 h2 h3 h4 kl kc m b2 b3 b4
  subst hL
  subst hC
  unfold Oper.wpIn
  refine ⟨?_, ?_⟩
  · simp [Oper.about, hop]
  · rw [Oper.semAt_plain F _ _ (by rw [hop]; intro c hc'; cases hc')]
    simp [execOp, hop, hl, hc, hrun, Result.andThen]
    exact hK' _ _ (hK w' r1 r2)

/-- How long the slice in a slot is: for a loop's measure. -/
def lenOf : Value → Nat
  | .slice _ n _ => n
  | _ => 0
theorem lenOf_own {w : World} {base : Nat} {e : TypeId} {v : Value} {n : Nat} {xs : List Value} (h : w.ownsRow base e 1 v n xs) : lenOf v = n := by
  rcases h.2 with ⟨rfl, h0⟩ | ⟨g, cap, cur, rfl, _⟩
  · simp [lenOf, h0]
  · rfl
theorem owns_mono {w : World} {base base' : Nat} {e : TypeId} {v : Value} {n : Nat} {xs : List Value} (h : w.ownsRow base e 1 v n xs) (hb : base' ≤ base) : w.ownsRow base' e 1 v n xs := by
  refine ⟨h.1, ?_⟩
  rcases h.2 with h0 | ⟨g, cap, cur, hv, hg, r⟩
  · exact .inl h0
  · exact .inr ⟨g, cap, cur, hv, Nat.le_trans hb hg, r⟩
theorem owns_ge {w : World} {base : Nat} {e : TypeId} {v : Value} {n : Nat} {xs : List Value} (h : w.ownsRow base e 1 v n xs) : ∀ j, v.ownBlock = some j → base ≤ j := by
  intro j hj
  rcases h.2 with ⟨rfl, _⟩ | ⟨g, cap, cur, rfl, hg, _⟩
  · simp [Value.ownBlock] at hj
  · simp [Value.ownBlock] at hj; omega
theorem gb_refl (A : World) (row : Option Nat) : A.grownBy A row := ⟨rfl, rfl, rfl, Nat.le_refl _, fun _ _ _ => rfl⟩
theorem gb_trans {A B C : World} {s : Nat} {row : Option Nat} (h : A.grownBy B (some s)) (k : B.grownBy C row) (hr : ∀ j, row = some j → j = s ∨ A.heap.size ≤ j) : A.grownBy C (some s) :=
  ⟨k.os.trans h.os, k.tape.trans h.tape, k.output.trans h.output, Nat.le_trans h.size k.size, fun b hb hs => by
    refine (k.block b (Nat.lt_of_lt_of_le hb h.size) (fun e => ?_)).trans (h.block b hb hs)
    rcases hr b e.symm with rfl | h1
    · exact hs rfl
    · omega⟩
theorem gb_set (A : World) (b y : Nat) (v : Value) : A.grownBy (A.setCell ⟨b, y, none⟩ v) (some b) :=
  ⟨rfl, rfl, rfl, (KeepsWalks.setCell A _ v).size, fun k _ hk => Below.heap_setCell _ _ _ k (fun e => hk (by rw [e]))⟩
theorem size_set (A : World) (p : Addr) (v : Value) : (A.setCell p v).heap.size = A.heap.size := by simp [World.setCell]
/-- A block that no step of 'grownBy' has turned. -/
theorem Blk.grown {W W' : World} {row : Option Nat} {s : Nat} {e : TypeId} {vs : List Value} (h : Blk W s e vs) (hg : W.grownBy W' row) (hne : some s ≠ row) : Blk W' s e vs := h.of_eq (hg.block s h.lt hne)

end Go.Proofs.YtojnjfkonaeegaaDoorQ
