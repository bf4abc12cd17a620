/- perm.Conj at two permutations of as many points: a way between them where their shapes are the same, else none. No condition. -/
import Derived.Test.YtjchmhngfnlbhaaDoorCjw
import Derived.Test.YtjchmhngfnlbhaaDoorCjr
import Derived.Test.YtjchmhngfnlbhaaDoorSgl
import Derived.Maps.AppendAt
namespace Go.Proofs.YtjchmhngfnlbhaaDoor
open Go Go.RowKit

attribute [local go_sem] Oper.semAt_some

theorem info24 : (Tryd.prog.info? 24).map (fun i => (i.zero, i.size, i.bytes)) = some (some (.slice none 0 0), 1, 24) := by kernel_rfl
theorem info22c : (Tryd.prog.info? 22).map (fun i => (i.zero, i.size, i.bytes)) = some (some (.slice none 0 0), 1, 24) := by kernel_rfl
theorem under83 : Tryd.prog.underlying 83 = some (.slice 24) := by kernel_rfl
theorem under24 : Tryd.prog.underlying 24 = some (.slice 22) := by kernel_rfl

theorem wp_append_at {P : Program} {w : World} {o : Oper} {a : Act} {K : Act → World → Prop} {Q : Exit → Act → World → Prop} (s x : Operand) (t : TypeId)
    (ho : o.op = .call { callee := .builtin .append, args := #[s, x], argTypes := #[t, t] })
    (base : Nat) (e : TypeId) (i : TypeInfo) (z : Value) (size bytes : Nat) (ht : P.underlying t = some (.slice e)) (hi : P.info? e = some i) (hz : i.zero = some z)
    (hsize : i.size = size) (hby : i.bytes = bytes) (hzs : z.cells.size = size) (hsz : 0 < size)
    (v : Value) (n : Nat) (xs : List Value) (hs : a.eval s = v) (hown : w.ownsRow base e size v n xs)
    (ad : Addr) (m c : Nat) (news : List Value) (hx : a.eval x = .slice (some ad) m c) (hl : news.length = m * size) (hnews : ∀ j u, news[j]? = some u → w.cell? (ad.add j) = some u) (h1 : ∀ u ∈ news, u.oneCell' = true)
    (h63 : n + m ≤ maxLen) (hbytes : (n + m) * bytes ≤ 140737488355328) (hbase : base ≤ w.heap.size)
    (h : ∀ v' w', w'.ownsRow base e size v' (n + m) (xs ++ news) → w.grownBy w' v.ownBlock → (v'.ownBlock = v.ownBlock ∨ v'.ownBlock = some w.heap.size) → K (a.put o.dst v') w') : o.wp P a w K Q := by
  obtain ⟨v', w', hr, h2, h3, _, h5⟩ := run_append_own_at (P := P) w base t o.type e i z size bytes ht hi hz hsize hby hzs hsz v n xs hown ad m c news hl hnews h1 h63 hbytes hbase
  unfold Oper.wp execOp
  simp only [ho, resolve, invoke, builtin, Sem.run_bind, Sem.run_pure, Result.andThen_ok, List.map_toArray, List.map_cons, List.map_nil, hs, hx, hr]
  exact h v' w' h2 h3 h5

/-- What the second range keeps: the way so far, and what is left of the second list's cycles. -/
structure J2 (w w3 : World) (L X C X9 n : Nat) (ys : List Int) (pre : List (List Nat)) (W : World) : Prop where
  ex : ∃ (M : List (List Nat × List Nat)) (lf : Nat → List (List Nat)) (cz : List Int) (vs : List Value), Way ys n pre lf cz M ∧ vs.length = n + 1 ∧ Blk W L 24 vs ∧ (∀ k, k ≤ n → ∃ v, vs[k]? = some v ∧ LC (fun b => w3.heap.size + 3 ≤ b ∧ b < C) W v (lf k)) ∧ Blk W C 3 (cz.map (Value.int .i64))
  b7 : Boxed W X 83 (.slice (some ⟨L, 0, none⟩) (n + 1) (n + 1))
  b9 : Boxed W X9 22 (.slice (some ⟨C, 0, none⟩) n n)
  b4 : Boxed W w.heap.size 22 (.slice none 0 0)
  b5 : Blk W (w.heap.size + 1) 26 [.int .i64 0, .int .i64 0]
  dd : W.heap[w3.heap.size]? = some (.deferred (some []))
  bel : Below w.heap.size w W
theorem J2.keep {w w3 : World} {L X C X9 n : Nat} {ys : List Int} {pre : List (List Nat)} {W W' : World} (h : J2 w w3 L X C X9 n ys pre W) (h1 : L < X ∧ X < w3.heap.size) (h2 : w.heap.size + 1 < w3.heap.size) (h3 : w3.heap.size + 2 ≤ C ∧ C < X9) (hb : Below w.heap.size W W')
    (hk : ∀ b, b ≤ X9 → W'.heap[b]? = W.heap[b]?) : J2 w w3 L X C X9 n ys pre W' := by
  obtain ⟨⟨M, lf, cz, vs, a1, a2, a3, a4, a5⟩, b7, b9, b4, b5, dd, bel⟩ := h
  refine ⟨⟨M, lf, cz, vs, a1, a2, a3.of_eq (hk _ (by omega)), fun k hkn => ?_, a5.of_eq (hk _ (by omega))⟩, (hk _ (by omega)).trans b7, (hk _ (by omega)).trans b9, (hk _ (by omega)).trans b4, b5.of_eq (hk _ (by omega)), (hk _ (by omega)).trans dd, bel.trans hb⟩
  obtain ⟨v, e, hv⟩ := a4 k hkn
  exact ⟨v, e, hv.kept fun b hb => hk b (by omega)⟩
theorem J2.apart {w w3 : World} {L X C X9 n : Nat} {ys : List Int} {pre : List (List Nat)} {W W' : World} (h : J2 w w3 L X C X9 n ys pre W) (h1 : L < X ∧ X < w3.heap.size) (h2 : w.heap.size + 1 < w3.heap.size) (h3 : w3.heap.size + 2 ≤ C ∧ C < X9) {s : Nat} (h4 : X9 < s) (h5 : X9 < W.heap.size)
    (hA : Apart s (s + 3) W W') : J2 w w3 L X C X9 n ys pre W' :=
  h.keep h1 h2 h3 (hA.below (by omega) (by omega)) fun b hb => hA.block b (by omega) (by omega)
/-- One cycle more, moved to one of those that are left. -/
theorem J2.step {w w3 : World} {L X C X9 n : Nat} {ys : List Int} {pre : List (List Nat)} {Wb W5 : World} {c : List Nat} {rest : List (List Nat)} {vs : List Value} {lf : Nat → List (List Nat)} {cz' : List Int} {M' : List (List Nat × List Nat)} {v' : Value} (h1 : L < X ∧ X < w3.heap.size) (h2 : w.heap.size + 1 < w3.heap.size) (h3 : w3.heap.size + 2 ≤ C ∧ C < X9)
    (hLne : L ≠ w.heap.size ∧ L ≠ w.heap.size + 1 ∧ w.heap.size ≤ L) (hcn : c.length ≤ n)
    (hW : Way ys n (pre ++ [c]) (fun k => if k = c.length then rest else lf k) cz' M') (a2 : vs.length = n + 1) (a3 : Blk Wb L 24 vs) (a4 : ∀ k, k ≤ n → ∃ v, vs[k]? = some v ∧ LC (fun b => w3.heap.size + 3 ≤ b ∧ b < C) Wb v (lf k))
    (b7 : Boxed Wb X 83 (.slice (some ⟨L, 0, none⟩) (n + 1) (n + 1))) (b9 : Boxed Wb X9 22 (.slice (some ⟨C, 0, none⟩) n n)) (b4 : Boxed Wb w.heap.size 22 (.slice none 0 0)) (b5 : Blk Wb (w.heap.size + 1) 26 [.int .i64 0, .int .i64 0]) (dd : Wb.heap[w3.heap.size]? = some (.deferred (some []))) (bel : Below w.heap.size w Wb)
    (hv : LC (fun b => w3.heap.size + 3 ≤ b ∧ b < C) Wb v' rest) (hg : Wb.grownBy W5 (some C)) (hC : Blk W5 C 3 (cz'.map (Value.int .i64))) :
    J2 w w3 L X C X9 n ys (pre ++ [c]) (W5.setCell ⟨L, c.length, none⟩ v') ∧ (∀ b, b ≠ L → b ≠ C → b < Wb.heap.size → (W5.setCell ⟨L, c.length, none⟩ v').heap[b]? = Wb.heap[b]?) ∧ Wb.heap.size ≤ (W5.setCell ⟨L, c.length, none⟩ v').heap.size := by
  have hsz := hg.size
  have hlow : ∀ b, b ≠ L → b ≠ C → b < Wb.heap.size → (W5.setCell ⟨L, c.length, none⟩ v').heap[b]? = Wb.heap[b]? := fun b hb hc hlt => by
    rw [Below.heap_setCell _ _ _ b hb]
    exact hg.block b hlt (by simp; exact hc)
  have hC9 := b9.lt
  have h5L : Blk W5 L 24 vs := a3.of_eq (hg.block L a3.lt (by simp; omega))
  have hset := h5L.set c.length v'
  have hkp : ∀ b, w3.heap.size + 3 ≤ b ∧ b < C → (W5.setCell ⟨L, c.length, none⟩ v').heap[b]? = Wb.heap[b]? := fun b hb => hlow b (by omega) (by omega) (by omega)
  refine ⟨⟨⟨M', _, cz', vs.set c.length v', hW, by simp [a2], hset, fun k hk => ?_, hC.other (by simp; omega) _⟩, (hlow _ (by omega) (by omega) b7.lt).trans b7, (hlow _ (by omega) (by omega) b9.lt).trans b9, (hlow _ (by omega) (by omega) b4.lt).trans b4,
    b5.of_eq (hlow _ (by omega) (by omega) b5.lt), (hlow _ (by omega) (by omega) (Array.getElem?_eq_some_iff.1 dd).1).trans dd, (bel.grown hg bel.size (fun b e => by cases e; omega)).setCell (by simp; omega) _⟩, hlow, by rw [size_set]; exact hsz⟩
  by_cases e : k = c.length
  · subst e
    refine ⟨v', by rw [List.getElem?_set_self (by omega)], ?_⟩
    rw [if_pos rfl]
    exact hv.kept hkp
  · obtain ⟨u, hu, hlc⟩ := a4 k hk
    refine ⟨u, by rw [List.getElem?_set_ne (fun e' => e e'.symm)]; exact hu, ?_⟩
    rw [if_neg e]
    exact hlc.kept hkp
theorem gb_drew' {A B : World} {row : Option Nat} {p : Addr} {v : Value} (h : A.grownBy (B.setCell p v) row) : A.grownBy (B.drew.setCell p v) row := ⟨h.os, h.tape, h.output, h.size, h.block⟩
/-- At the beginning of the second range. -/
theorem J2.new {w w3 W W5 : World} {L X X9 n : Nat} {ys : List Int} (hJ : J1 w w3 L X n (cyc ys) W) (dd : W.heap[w3.heap.size]? = some (.deferred (some []))) (hb : Below W.heap.size W W5)
    (hC : Blk W5 W.heap.size 3 ((List.replicate n 0).map (Value.int .i64))) (b9 : Boxed W5 X9 22 (.slice (some ⟨W.heap.size, 0, none⟩) n n)) : J2 w w3 L X W.heap.size X9 n ys [] W5 := by
  obtain ⟨⟨vs, a2, a3, a4, _⟩, b7, b4, b5, bel⟩ := hJ
  refine ⟨⟨[], _, _, vs, Way.new ys n, a2, a3.of_eq (hb.block _ a3.lt), fun k hk => ?_, hC⟩, (hb.block _ b7.lt).trans b7, b9, (hb.block _ b4.lt).trans b4, b5.of_eq (hb.block _ b5.lt), (hb.block _ (Array.getElem?_eq_some_iff.1 dd).1).trans dd, bel.trans (hb.mono bel.size)⟩
  obtain ⟨v, e, hv⟩ := a4 k hk
  exact ⟨v, e, (hv.reads (ok' := fun b => w3.heap.size + 3 ≤ b ∧ b < W.heap.size) (fun b h1 h2 => ⟨h1, h2⟩)).kept fun b hb' => hb.block b hb'.2⟩
/-- What is so where none is left. -/
structure JX (w w3 : World) (zs ys : List Int) (W : World) : Prop where
  b4 : Boxed W w.heap.size 22 (.slice none 0 0)
  b5 : Blk W (w.heap.size + 1) 26 [.int .i64 6, .int .i64 0]
  dd : W.heap[w3.heap.size]? = some (.deferred (some []))
  bel : Below w.heap.size w W
  sh : shape zs ≠ shape ys
theorem JX.apart {w w3 : World} {zs ys : List Int} {W W' : World} (h : JX w w3 zs ys W) {s : Nat} (h1 : w.heap.size + 1 < s) (h2 : w3.heap.size < s) (hA : Apart s (s + 3) W W') : JX w w3 zs ys W' :=
  ⟨(hA.block _ h.b4.lt (by omega)).trans h.b4, h.b5.of_eq (hA.block _ h.b5.lt (by omega)), (hA.block _ (Array.getElem?_eq_some_iff.1 h.dd).1 (by omega)).trans h.dd, h.bel.trans (hA.below (by omega) h.bel.size), h.sh⟩
end Go.Proofs.YtjchmhngfnlbhaaDoor
