/- Package coset, and the document on cosets; sets that part things, and their numbers. Tables that functions make; orders and powers, as mathematics and as the document has them; no group. Package quot: numbers, group, Quotient; the law's question whether a group is the quotient; the chapter's example. What package quot's Simple and Abel answer; the subgroup of commutators, and the quotient by it. Condition: the library's table of places lies as its text lays it. -/
import Derived.Test.YtgejngpioldhpaaGreatDoorZ3
import Derived.Deep.AppendLies
import Derived.Laws.EntriesVeiled
import Derived.Maps.OwnSet
import Derived.Maps.AppendAt
import Derived.BigQuiet
import Derived.Maps.Ext
import Derived.Test.YtgejngpioldhpaaGreatDoorZ1
import Derived.Test.YtgejngpioldhpaaGreatDoorZ2
import Derived.Maps.OwnOps
import Derived.Deep.RegionLaw
namespace Go.Proofs.YtgejngpioldhpaaGreatDoor
open Go Go.RowKit

def rgtq (n : Nat) (zs : List Int) (xs : List Nat) (a y : Nat) : Bool := xs.any fun x => decide (tm n zs x a = y)
def lftq (n : Nat) (zs : List Int) (xs : List Nat) (a y : Nat) : Bool := xs.any fun x => decide (tm n zs a x = y)
end Go.Proofs.YtgejngpioldhpaaGreatDoor

namespace Go.Proofs.YtgejngpioldhpaaGreatDoor
open Go Go.RowKit Go.Maps

theorem und77 : Tryz.prog.underlying 55 = some (.int .u64) := by kernel_rfl
theorem und3' : Tryz.prog.underlying 3 = some (.int .i64) := by kernel_rfl
theorem under25b : Tryz.prog.underlying 25 = some (.slice 22) := by kernel_rfl
theorem law77 : Keyed Tryz.prog 55 := int_keyed und77
theorem zero3 (w : World) : (zeroValue 3).run Tryz.prog w = .ok (.int .i64 0) w := by kernel_rfl
theorem info22b : (Tryz.prog.info? 22).map (fun i => (i.zero, i.size, i.bytes)) = some (some (.slice none 0 0), 1, 24) := by kernel_rfl
/-- The things at which a set is met first. -/
def fsts (n : Nat) (f : Nat → Nat → Bool) (j : Nat) : List Nat := (List.range j).filter fun a => (List.range a).all fun b => decide (bs (f b) n ≠ bs (f a) n)
theorem fsts_succ (n : Nat) (f : Nat → Nat → Bool) (j : Nat) : fsts n f (j + 1) = if (List.range j).all (fun b => decide (bs (f b) n ≠ bs (f j) n)) then fsts n f j ++ [j] else fsts n f j := by
  unfold fsts
  rw [List.range_succ, List.filter_append]
  by_cases h : (List.range j).all (fun b => decide (bs (f b) n ≠ bs (f j) n)) = true
  · rw [if_pos h, List.filter_cons, if_pos h, List.filter_nil]
  · rw [if_neg h, List.filter_cons, if_neg h, List.filter_nil, List.append_nil]
theorem fsts_len (n : Nat) (f : Nat → Nat → Bool) (j : Nat) : (fsts n f j).length ≤ j := Nat.le_trans (List.length_filter_le _ _) (by simp)
/-- What the map knows. -/
def MInv (n : Nat) (f : Nat → Nat → Bool) (j : Nat) (D : DataW Unit) : Prop := ∀ s : Nat, Maps.has D (.int .u64 s) = true ↔ ∃ a, a < j ∧ bs (f a) n = s
/-- The lists that lie in a slice of slices. -/
def Lsts (W : World) (B : Nat) (r : Value) (vs : List Value) (ls : List (List Int)) : Prop := vs.length = ls.length ∧ ∀ (t : Nat) (x : Value) (l : List Int), vs[t]? = some x → ls[t]? = some l → ∃ a cap pb po, x = .slice a l.length cap ∧ Reads W a pb po l ∧ pb < W.heap.size ∧ l.length ≤ cap ∧ cap ≤ maxLen ∧ B ≤ pb ∧ ∀ g, r.ownBlock = some g → pb ≠ g

theorem Lsts.keep {W W' : World} {B : Nat} {r r' : Value} {vs : List Value} {ls : List (List Int)} (h : Lsts W B r vs ls) (hs : W.heap.size ≤ W'.heap.size) (hk : ∀ g, B ≤ g → g < W.heap.size → r.ownBlock ≠ some g → W'.heap[g]? = W.heap[g]?) (hr : r'.ownBlock = r.ownBlock ∨ ∀ g, r'.ownBlock = some g → W.heap.size ≤ g) : Lsts W' B r' vs ls := by
  refine ⟨h.1, fun t x l h1 h2 => ?_⟩
  obtain ⟨a, cap, pb, po, rfl, h3, h4, h5, h6, h7, h8⟩ := h.2 t x l h1 h2
  refine ⟨a, cap, pb, po, rfl, h3.of_eq (hk pb h7 h4 (fun e => h8 pb e rfl)), Nat.lt_of_lt_of_le h4 hs, h5, h6, h7, fun g hg => ?_⟩
  rcases hr with hr | hr
  · exact h8 g (by rw [← hr]; exact hg)
  · have := hr g hg; omega
theorem Lsts.snoc {W : World} {B : Nat} {r : Value} {vs : List Value} {ls : List (List Int)} {x : Value} {l : List Int} (h : Lsts W B r vs ls) (hx : ∃ a cap pb po, x = Value.slice a l.length cap ∧ Reads W a pb po l ∧ pb < W.heap.size ∧ l.length ≤ cap ∧ cap ≤ maxLen ∧ B ≤ pb ∧ ∀ g, r.ownBlock = some g → pb ≠ g) : Lsts W B r (vs ++ [x]) (ls ++ [l]) := by
  refine ⟨by simp [h.1], fun t y m h1 h2 => ?_⟩
  by_cases ht : t < vs.length
  · rw [List.getElem?_append_left ht] at h1
    rw [List.getElem?_append_left (by rw [← h.1]; exact ht)] at h2
    exact h.2 t y m h1 h2
  · have hv : t = vs.length := by
      have := (List.getElem?_eq_some_iff.1 h1).1
      simp at this; omega
    subst hv
    rw [List.getElem?_append_right (Nat.le_refl _)] at h1
    rw [List.getElem?_append_right (by rw [h.1]; exact Nat.le_refl _), h.1] at h2
    simp at h1 h2
    subst h1 h2
    exact hx
theorem minv_step {n j : Nat} {f : Nat → Nat → Bool} {D : DataW Unit} {d : DataW Unit} (h : MInv n f j D) (hD : IsMap D) : MInv n f (j + 1) (D.put (.int .u64 (bs (f j) n : Nat)) d) := by
  intro s
  by_cases e : s = bs (f j) n
  · subst e
    rw [has_put_same hD (by trivial)]
    exact ⟨fun _ => ⟨j, by omega, rfl⟩, fun _ => rfl⟩
  · rw [has_put_other (fun h9 => e (by injection h9 with _ h9; omega)), h s]
    exact ⟨fun ⟨a, h1, h2⟩ => ⟨a, by omega, h2⟩, fun ⟨a, h1, h2⟩ => ⟨a, by
      have : a ≠ j := fun e9 => e (by rw [← h2, e9])
      omega, h2⟩⟩
theorem minv_same {n j : Nat} {f : Nat → Nat → Bool} {D : DataW Unit} (h : MInv n f j D) (hh : Maps.has D (.int .u64 (bs (f j) n : Nat)) = true) : MInv n f (j + 1) D := by
  obtain ⟨b, hb, e⟩ := (h _).1 hh
  intro s
  rw [h s]
  exact ⟨fun ⟨a, h1, h2⟩ => ⟨a, by omega, h2⟩, fun ⟨a, h1, h2⟩ => by
    by_cases e9 : a = j
    · subst e9; exact ⟨b, hb, by rw [e]; exact h2⟩
    · exact ⟨a, by omega, h2⟩⟩
theorem minv_new {n j : Nat} {f : Nat → Nat → Bool} {D : DataW Unit} (h : MInv n f j D) : Maps.has D (.int .u64 (bs (f j) n : Nat)) = false ↔ (List.range j).all (fun b => decide (bs (f b) n ≠ bs (f j) n)) = true := by
  rw [← Bool.not_eq_true, h]
  simp only [List.all_eq_true, List.mem_range, decide_eq_true_eq, not_exists, not_and]
/-- The lists of the sets that are met first. -/
def csl (n : Nat) (f : Nat → Nat → Bool) (j : Nat) : List (List Int) := (fsts n f j).map fun a => li (lst n (f a))
end Go.Proofs.YtgejngpioldhpaaGreatDoor

namespace Go.Proofs.YtgejngpioldhpaaGreatDoor
open Go Go.RowKit Go.Maps

theorem below_grown {w w' : World} (h : Below w.heap.size w w') (row : Option Nat) : w.grownBy w' row := ⟨h.os, h.tape, h.output, h.size, fun b hb _ => h.block b hb⟩
theorem own_slice' {w : World} {base n : Nat} {e : TypeId} {v : Value} {xs : List Value} (h : w.ownsRow base e 1 v n xs) : ∃ a cap, v = .slice a n cap := by
  rcases h.2 with ⟨rfl, rfl⟩ | ⟨g, cap, cur, rfl, _⟩
  · exact ⟨none, 0, rfl⟩
  · exact ⟨_, cap, rfl⟩
theorem map_more {P : Program} {k : TypeId} {R : Value → Option (DataW Unit × List MemPlace)} {w : World} {b n : Nat} {D : DataW Unit} (h : w.ownsMap P k R b n D) : w.ownsMap P k R b (n + 1) D := by
  obtain ⟨es, clock, hb, F, hs, hD⟩ := h
  exact ⟨es, clock, hb, F, Nat.le_succ_of_le hs, hD⟩
theorem map_is {P : Program} {k : TypeId} {R : Value → Option (DataW Unit × List MemPlace)} {w : World} {b n : Nat} {D : DataW Unit} (h : w.ownsMap P k R b n D) : IsMap D := by
  obtain ⟨es, clock, hb, F, hs, hD⟩ := h
  exact ⟨_, hD⟩
end Go.Proofs.YtgejngpioldhpaaGreatDoor

namespace Go.Proofs.YtgejngpioldhpaaGreatDoor
open Go Go.RowKit

/-- The first fault of subgroups, one after the other. -/
def wfault (N : Int) (zs : List Int) : List (List Int) → Int × Int
  | [] => (0, 0)
  | l :: ls => if (ufault N zs l).1 ≠ 0 then ufault N zs l else wfault N zs ls
theorem wfault_skip {N : Int} {zs : List Int} : ∀ (ls : List (List Int)) (k : Nat), (∀ t, t < k → (ufault N zs (ls[t]?.getD [])).1 = 0) → k ≤ ls.length → wfault N zs ls = wfault N zs (ls.drop k)
  | ls, 0, _, _ => by simp
  | [], k + 1, _, h => by simp at h
  | l :: ls, k + 1, h, hk => by
    have h0 : (ufault N zs l).1 = 0 := by simpa using h 0 (by omega)
    rw [List.drop_succ_cons, ← wfault_skip ls k (fun t ht => by simpa using h (t + 1) (by omega)) (by simpa using hk)]
    show (if _ then _ else _) = _
    rw [if_neg (by simpa using h0)]
theorem wfault_at {N : Int} {zs : List Int} {ls : List (List Int)} {k : Nat} (h : ∀ t, t < k → (ufault N zs (ls[t]?.getD [])).1 = 0) (hk : k < ls.length) (hc : (ufault N zs (ls[k]?.getD [])).1 ≠ 0) : wfault N zs ls = ufault N zs (ls[k]?.getD []) := by
  rw [wfault_skip ls k h (Nat.le_of_lt hk), List.drop_eq_getElem_cons hk]
  have e : ls[k]?.getD [] = ls[k] := by simp [hk]
  rw [e] at hc ⊢
  show (if _ then _ else _) = _
  rw [if_pos hc]
theorem wfault_ok {N : Int} {zs : List Int} {ls : List (List Int)} (h : ∀ t, t < ls.length → (ufault N zs (ls[t]?.getD [])).1 = 0) : wfault N zs ls = (0, 0) := by
  rw [wfault_skip ls ls.length h (Nat.le_refl _), List.drop_length]; rfl
end Go.Proofs.YtgejngpioldhpaaGreatDoor

namespace Go.Proofs.YtgejngpioldhpaaGreatDoor
open Go Go.RowKit

theorem own_keep' {W W' : World} {B n : Nat} {e : TypeId} {v : Value} {xs : List Value} (h : W.ownsRow B e 1 v n xs) (hk : ∀ g, B ≤ g → g < W.heap.size → W'.heap[g]? = W.heap[g]?) : W'.ownsRow B e 1 v n xs := by
  refine ⟨h.1, ?_⟩
  rcases h.2 with h0 | ⟨g, cap, cur, hv, hg, hh, rest⟩
  · exact .inl h0
  · exact .inr ⟨g, cap, cur, hv, hg, (hk g hg (Array.getElem?_eq_some_iff.1 hh).1).trans hh, rest⟩
theorem Lsts.mono {W : World} {B B' : Nat} {r : Value} {vs : List Value} {ls : List (List Int)} (h : Lsts W B r vs ls) (hb : B' ≤ B) : Lsts W B' r vs ls :=
  ⟨h.1, fun t x l h1 h2 => by
    obtain ⟨a, cap, pb, po, rfl, h3, h4, h5, h6, h7, h8⟩ := h.2 t x l h1 h2
    exact ⟨a, cap, pb, po, rfl, h3, h4, h5, h6, Nat.le_trans hb h7, h8⟩⟩
theorem wfault_one (N : Int) (zs l : List Int) : wfault N zs [l] = ufault N zs l := by
  show (if (ufault N zs l).1 ≠ 0 then ufault N zs l else (0, 0)) = ufault N zs l
  by_cases h : (ufault N zs l).1 ≠ 0
  · rw [if_pos h]
  · rw [if_neg h]
    obtain ⟨_, _, _, _, _, _, h9⟩ := ufault_zero (by simpa using h)
    exact h9.symm
/-- Three boxes: a group, a list, and a fault that is answered. -/
structure Beg3 (w w0 : World) (N : Int) (v u : Value) : Prop where
  eq : w0 = ((w.alloc (.cells #[.int .i64 N, v] 24)).alloc (.cells #[u] 22)).alloc (.cells #[.int .i64 0, .int .i64 0] 27)
  bel : Below w.heap.size w w0
  box : BoxG w0 w.heap.size N v
  lis : Boxed w0 (w.heap.size + 1) 22 u
  res : Blk w0 (w.heap.size + 1 + 1) 27 [.int .i64 0, .int .i64 0]
theorem Beg3.new (w : World) (N : Int) (v u : Value) : ∃ w0, Beg3 w w0 N v u := by
  refine ⟨_, rfl, ((balloc w _).alloc (by simp) _).alloc (by simp; omega) _, ((blk0 (w := w) (T := 24) _ _).alloc _).alloc _, ?_, ?_⟩
  · have h := (Boxed.new (w.alloc (.cells #[.int .i64 N, v] 24)) 22 u).alloc (.cells #[.int .i64 0, .int .i64 0] 27)
    rw [World.size_alloc] at h
    exact h
  · have h := blk0 (w := (w.alloc (.cells #[.int .i64 N, v] 24)).alloc (.cells #[u] 22)) (T := 27) (.int .i64 0) (.int .i64 0)
    rw [World.size_alloc, World.size_alloc] at h
    exact h
end Go.Proofs.YtgejngpioldhpaaGreatDoor

namespace Go.Proofs.YtgejngpioldhpaaGreatDoor
open Go Go.RowKit

/-- A slice of slices reads as these lists. -/
def SlL (w : World) (v : Value) (rs : List (List Int)) : Prop := ∃ a cap pb po, v = .slice a rs.length cap ∧ (0 < rs.length → a = some ⟨pb, po, none⟩) ∧ (∀ j, j < rs.length → ∃ x, w.cell? ⟨pb, po + j, none⟩ = some x ∧ Sl w x (rs[j]?.getD [])) ∧ pb < w.heap.size ∧ rs.length ≤ cap ∧ cap ≤ maxLen
theorem SlL.below {w w' : World} {v : Value} {rs : List (List Int)} (h : SlL w v rs) (hb : Below w.heap.size w w') : SlL w' v rs := by
  obtain ⟨a, cap, pb, po, rfl, h1, h2, h3, h4, h5⟩ := h
  exact ⟨a, cap, pb, po, rfl, h1, fun j hj => by
    obtain ⟨x, hx, hs⟩ := h2 j hj
    exact ⟨x, below_cell hb hx, hs.below hb⟩, Nat.lt_of_lt_of_le h3 hb.size, h4, h5⟩
theorem SlL.isSlice {w : World} {v : Value} {rs : List (List Int)} (h : SlL w v rs) : ∃ a l c, v = .slice a l c := by
  obtain ⟨a, cap, _, _, rfl, _⟩ := h
  exact ⟨a, _, cap, rfl⟩
end Go.Proofs.YtgejngpioldhpaaGreatDoor

namespace Go.Proofs.YtgejngpioldhpaaGreatDoor
open Go Go.RowKit

theorem SlL.of_own {w : World} {base B : Nat} {v : Value} {vs : List Value} {rs : List (List Int)} (h : w.ownsRow base 22 1 v vs.length vs) (hl : Lsts w B v vs rs) (h0 : 0 < w.heap.size) : SlL w v rs := by
  have hlen := hl.1
  rcases h.2 with ⟨rfl, hz⟩ | ⟨g, cap, cur, rfl, _, hh, h1, h2, _⟩
  · have : rs = [] := List.length_eq_zero_iff.1 (by omega)
    subst this
    exact ⟨none, 0, 0, 0, rfl, by simp, by simp, h0, by simp, by unfold maxLen; omega⟩
  · refine ⟨some ⟨g, 0, none⟩, cap, g, 0, by rw [hlen], fun _ => rfl, fun j hj => ?_, (Array.getElem?_eq_some_iff.1 hh).1, by omega, h2⟩
    have hjv : j < vs.length := by omega
    have h3 := h.cells (g := g) rfl j vs[j] (by simp [hjv])
    rw [show (⟨g, 0, none⟩ : Addr).add j = ⟨g, j, none⟩ by unfold Addr.add; split <;> simp_all] at h3
    obtain ⟨a, c, pb, po, hx, hr, hp, hq1, hq2, _, _⟩ := hl.2 j vs[j] rs[j] (List.getElem?_eq_getElem hjv) (List.getElem?_eq_getElem hj)
    refine ⟨vs[j], by rw [Nat.zero_add]; exact h3, ?_⟩
    rw [List.getElem?_eq_getElem hj]
    exact ⟨a, c, pb, po, hx, hr, hp, hq1, hq2⟩
theorem csl_len (n : Nat) (f : Nat → Nat → Bool) (j : Nat) : (csl n f j).length = (fsts n f j).length := by unfold csl; rw [List.length_map]
/-- What Right and Left answer, read. -/
theorem lists_sl {k : Nat} {args : Array Value} {w : World} {rs : List (List Int)} (h0 : 0 < w.heap.size) (h : Calls Tryz.prog k args w fun x w' => ∃ r vs, x = .returned (.tuple #[r, .agg #[.int .i64 0, .int .i64 0]]) ∧ w'.ownsRow w.heap.size 22 1 r vs.length vs ∧ Lsts w' w.heap.size r vs rs ∧ Below w.heap.size w w') :
    Calls Tryz.prog k args w fun x w' => ∃ r1 r2 r3, x = .returned (.tuple #[.slice r1 r2 r3, .agg #[.int .i64 0, .int .i64 0]]) ∧ SlL w' (.slice r1 r2 r3) rs ∧ Below w.heap.size w w' := by
  refine h.mono ?_
  rintro x w' ⟨r, vs, rfl, hrow, hls, hb⟩
  have hs := SlL.of_own hrow hls (Nat.lt_of_lt_of_le h0 hb.size)
  obtain ⟨a, l, c, rfl⟩ := hs.isSlice
  exact ⟨a, l, c, rfl, hs, hb⟩
end Go.Proofs.YtgejngpioldhpaaGreatDoor

namespace Go.Proofs.YtgejngpioldhpaaGreatDoor
open Go Go.RowKit

def z4 : List Int := [0, 1, 2, 3, 1, 2, 3, 0, 2, 3, 0, 1, 3, 0, 1, 2]
theorem z4_grp : IsGrp 4 z4 0 := by
  obtain ⟨n, e, hn, hg, _⟩ := gfault_grp (N := 4) (zs := z4) (by decide +kernel)
  obtain rfl : n = 4 := by omega
  have h1 := hg.one
  have h2 : one 4 z4 = 0 := by decide +kernel
  obtain rfl : e = 0 := by rw [h2] at h1; omega
  exact hg
theorem z4_lf : lfault 4 [0, 2] = (0, 0) := by decide +kernel
theorem z4_sub : subT 4 z4 0 (pset [0, 2]) = true := by decide +kernel
theorem z4_csl : csl 4 (rgtq 4 z4 (lst 4 (pset [0, 2]))) 4 = [[0, 2], [1, 3]] := by decide +kernel
end Go.Proofs.YtgejngpioldhpaaGreatDoor

namespace Go.Proofs.YtgejngpioldhpaaGreatDoor
open Go Go.RowKit

end Go.Proofs.YtgejngpioldhpaaGreatDoor

namespace Go.Proofs.YtgejngpioldhpaaGreatDoor
open Go Go.RowKit

end Go.Proofs.YtgejngpioldhpaaGreatDoor

namespace Go.Proofs.YtgejngpioldhpaaGreatDoor
open Go Go.RowKit

/-- The document's sets: of each thing its set, where it is the least one of it. -/
def rcs (n : Nat) (q : Nat → Nat → Bool) (j : Nat) : List (List Int) := ((List.range j).filter fun a => decide ((lst n (q a)).head? = some a)).map fun a => li (lst n (q a))
theorem rcs_yes {n j : Nat} {q : Nat → Nat → Bool} (h : (lst n (q j)).head? = some j) : rcs n q (j + 1) = rcs n q j ++ [li (lst n (q j))] := by
  unfold rcs
  rw [List.range_succ, List.filter_append, List.filter_cons, if_pos (by simpa using h), List.filter_nil, List.map_append]
  rfl
theorem rcs_no {n j : Nat} {q : Nat → Nat → Bool} (h : (lst n (q j)).head? ≠ some j) : rcs n q (j + 1) = rcs n q j := by
  unfold rcs
  rw [List.range_succ, List.filter_append, List.filter_cons, if_neg (by simpa using h), List.filter_nil, List.append_nil]
theorem rcs_len (n : Nat) (q : Nat → Nat → Bool) (j : Nat) : (rcs n q j).length ≤ j := by
  unfold rcs
  rw [List.length_map]
  exact Nat.le_trans (List.length_filter_le _ _) (by simp)
/-- The number that lies in a box. -/
def boxN (w : World) (i : Value) : Nat := match i with
  | .pointer (some a) => (intOf ((w.cell? a).getD (.int .i64 0))).toNat
  | _ => 0
theorem boxN_eq {w : World} {b j : Nat} (h : Boxed w b 3 (.int .i64 j)) : boxN w (.pointer (some ⟨b, 0, none⟩)) = j := by simp [boxN, h.cell, intOf]
theorem Lsts.ext {W : World} {B : Nat} {r : Value} {vs : List Value} {ls ms : List (List Int)} (h : Lsts W B r vs ls) (e : ms = ls) : Lsts W B r vs ms := by rw [e]; exact h
end Go.Proofs.YtgejngpioldhpaaGreatDoor

namespace Go.Proofs.YtgejngpioldhpaaGreatDoor
open Go Go.RowKit

/-- A box that is made anew, for the next round. -/
theorem newbox (W : World) (j : Nat) : Boxed (W.alloc (.cells #[.int .i64 ((j : Int) + 1)] 3)) W.heap.size 3 (.int .i64 ((j + 1 : Nat) : Int)) ∧ Below W.heap.size W (W.alloc (.cells #[.int .i64 ((j : Int) + 1)] 3)) :=
  ⟨Boxed.new W 3 (.int .i64 ((j : Int) + 1)), balloc W _⟩
end Go.Proofs.YtgejngpioldhpaaGreatDoor

namespace Go.Proofs.YtgejngpioldhpaaGreatDoor
open Go Go.RowKit

end Go.Proofs.YtgejngpioldhpaaGreatDoor

namespace Go.Proofs.YtgejngpioldhpaaGreatDoor
open Go Go.RowKit

/-- Sets, one for each thing: each has its thing, and is that of each of its things. -/
structure Prts (n : Nat) (f : Nat → Nat → Bool) : Prop where
  refl : ∀ a, a < n → f a a = true
  same : ∀ a b, a < n → b < n → f a b = true → ∀ c, c < n → f a c = f b c
theorem Prts.symm {n a b : Nat} {f : Nat → Nat → Bool} (h : Prts n f) (ha : a < n) (hb : b < n) (hf : f a b = true) : f b a = true := by
  rw [← h.same a b ha hb hf a ha]; exact h.refl a ha
theorem head_lst {n a : Nat} {p : Nat → Bool} : (lst n p).head? = some a ↔ a < n ∧ p a = true ∧ ∀ b, b < a → p b = false := by
  unfold lst
  rw [List.head?_filter, List.find?_range_eq_some]
  simp only [List.mem_range, Bool.not_eq_true']
  exact ⟨fun ⟨h1, h2, h3⟩ => ⟨h2, h1, h3⟩, fun ⟨h1, h2, h3⟩ => ⟨h2, h1, h3⟩⟩
theorem Prts.first {n a : Nat} {f : Nat → Nat → Bool} (h : Prts n f) (ha : a < n) : ((List.range a).all fun b => decide (bs (f b) n ≠ bs (f a) n)) = decide ((lst n (f a)).head? = some a) := by
  rw [Bool.eq_iff_iff, decide_eq_true_eq, head_lst]
  simp only [List.all_eq_true, List.mem_range, decide_eq_true_eq]
  constructor
  · intro hne
    refine ⟨ha, h.refl a ha, fun b hb => ?_⟩
    cases hab : f a b with
    | false => rfl
    | true => exact absurd (bs_ext fun c hc => (h.same a b ha (by omega) hab c hc).symm) (hne b hb)
  · rintro ⟨_, _, h3⟩ b hb he
    have h4 := bs_inj he b (by omega)
    rw [h.refl b (by omega), h3 b hb] at h4
    exact absurd h4 (by decide)
theorem Prts.fsts {n : Nat} {f : Nat → Nat → Bool} (h : Prts n f) : fsts n f n = (List.range n).filter fun a => decide ((lst n (f a)).head? = some a) := by
  unfold Go.Proofs.YtgejngpioldhpaaGreatDoor.fsts
  exact List.filter_congr fun a ha => h.first (List.mem_range.1 ha)
theorem Prts.csl_rcs {n : Nat} {f q : Nat → Nat → Bool} (h : Prts n f) (hq : ∀ a b, a < n → b < n → q a b = f a b) : csl n f n = rcs n q n := by
  have hl : ∀ a, a < n → lst n (q a) = lst n (f a) := fun a ha => lst_congr fun b hb => hq a b ha hb
  unfold csl rcs
  rw [h.fsts]
  have hf : ((List.range n).filter fun a => decide ((lst n (f a)).head? = some a)) = (List.range n).filter fun a => decide ((lst n (q a)).head? = some a) := List.filter_congr fun a ha => by rw [hl a (List.mem_range.1 ha)]
  rw [hf]
  exact List.map_congr_left fun a ha => by rw [hl a (List.mem_range.1 (List.mem_filter.1 ha).1)]
theorem Prts.card {n m : Nat} {f : Nat → Nat → Bool} (h : Prts n f) (hm : ∀ a, a < n → (lst n (f a)).length = m) : n = (csl n f n).length * m := by
  have hK : ∀ a, a ∈ Go.Proofs.YtgejngpioldhpaaGreatDoor.fsts n f n ↔ a < n ∧ (lst n (f a)).head? = some a := fun a => by
    rw [h.fsts, List.mem_filter, List.mem_range, decide_eq_true_eq]
  have hd : ∀ a, a < n → ∃ r, (lst n (f a)).head? = some r ∧ r < n ∧ f a r = true ∧ (lst n (f r)).head? = some r := fun a ha => by
    have hne : lst n (f a) ≠ [] := List.ne_nil_of_mem (mem_lst.2 ⟨ha, h.refl a ha⟩)
    obtain ⟨r, t, ht⟩ := List.exists_cons_of_ne_nil hne
    have hr : (lst n (f a)).head? = some r := by rw [ht]; rfl
    obtain ⟨h1, h2, h3⟩ := head_lst.1 hr
    refine ⟨r, hr, h1, h2, head_lst.2 ⟨h1, h.refl r h1, fun b hb => ?_⟩⟩
    rw [← h.same a r ha h1 h2 b (by omega)]
    exact h3 b hb
  have := Fin.fib_len (fun a => (lst n (f a)).head?.getD 0) m (Go.Proofs.YtgejngpioldhpaaGreatDoor.fsts n f n) (List.range n) (List.nodup_range.sublist List.filter_sublist) (fun x hx => by
    obtain ⟨r, hr, h1, _, h3⟩ := hd x (List.mem_range.1 hx)
    rw [hr]
    exact (hK r).2 ⟨h1, h3⟩) (fun k hk => by
    obtain ⟨hkn, hkh⟩ := (hK k).1 hk
    rw [← hm k hkn]
    unfold lst
    congr 1
    refine List.filter_congr fun x hx => ?_
    have hxn := List.mem_range.1 hx
    rw [Bool.eq_iff_iff, decide_eq_true_eq]
    constructor
    · intro he
      obtain ⟨r, hr, h1, h2, _⟩ := hd x hxn
      have hrk : r = k := by
        have h9 : (lst n (f x)).head?.getD 0 = k := he
        rw [hr] at h9
        exact h9
      subst hrk
      exact h.symm hxn h1 h2
    · intro he
      have : lst n (f x) = lst n (f k) := lst_congr fun c hc => (h.same k x hkn hxn he c hc).symm
      show (lst n (f x)).head?.getD 0 = k
      rw [this, hkh]; rfl)
  rw [List.length_range] at this
  rw [csl_len]
  exact this

section
variable {n e : Nat} {zs : List Int} {q : Nat → Bool}
theorem mem_rgt {xs : List Nat} {a y : Nat} : rgtq n zs xs a y = true ↔ ∃ x, x ∈ xs ∧ tm n zs x a = y := by
  unfold rgtq; simp only [List.any_eq_true, decide_eq_true_eq]
theorem mem_lft {xs : List Nat} {a y : Nat} : lftq n zs xs a y = true ↔ ∃ x, x ∈ xs ∧ tm n zs a x = y := by
  unfold lftq; simp only [List.any_eq_true, decide_eq_true_eq]
theorem sub_iv (g : IsGrp n zs e) (hs : subT n zs e q = true) {x : Nat} (hx : x < n) (hq : q x = true) : iv n zs e x < n ∧ q (iv n zs e x) = true := by
  obtain ⟨h1, h2, _, _⟩ := iv_spec g hx
  exact ⟨h1, (subT_iff.1 hs).inv (grp_fg g) (List.mem_range.2 hx) (List.mem_range.2 h1) h2 hq⟩
theorem sub_mul (hs : subT n zs e q = true) {x y : Nat} (hx : x < n) (hy : y < n) (h1 : q x = true) (h2 : q y = true) : q (tm n zs x y) = true :=
  (subT_iff.1 hs).mul x y (List.mem_range.2 hx) (List.mem_range.2 hy) h1 h2
/-- A right coset by what its things, by an inverse, are. -/
theorem rgt_iff (g : IsGrp n zs e) {a b : Nat} (ha : a < n) (hb : b < n) : rgtq n zs (lst n q) a b = decide (tm n zs b (iv n zs e a) ∈ lst n q) := by
  obtain ⟨h1, h2, h3, _⟩ := iv_spec g ha
  rw [Bool.eq_iff_iff, mem_rgt, decide_eq_true_eq]
  constructor
  · rintro ⟨x, hx, rfl⟩
    obtain ⟨hxn, _⟩ := mem_lst.1 hx
    rw [g.ass x a _ hxn ha h1, h2, g.right x hxn]
    exact hx
  · intro h
    exact ⟨_, h, by rw [g.ass b _ a hb h1 ha, h3, g.right b hb]⟩
theorem lft_iff (g : IsGrp n zs e) {a b : Nat} (ha : a < n) (hb : b < n) : lftq n zs (lst n q) a b = decide (tm n zs (iv n zs e a) b ∈ lst n q) := by
  obtain ⟨h1, h2, h3, _⟩ := iv_spec g ha
  rw [Bool.eq_iff_iff, mem_lft, decide_eq_true_eq]
  constructor
  · rintro ⟨x, hx, rfl⟩
    obtain ⟨hxn, _⟩ := mem_lst.1 hx
    rw [← g.ass _ a x h1 ha hxn, h3, g.left x hxn]
    exact hx
  · intro h
    exact ⟨_, h, by rw [← g.ass a _ b ha h1 hb, h2, g.left b hb]⟩
theorem rgt_parts (g : IsGrp n zs e) (hs : subT n zs e q = true) : Prts n (rgtq n zs (lst n q)) where
  refl := fun a ha => mem_rgt.2 ⟨e, mem_lst.2 ⟨g.elt, (subT_iff.1 hs).one⟩, g.left a ha⟩
  same := fun a b ha hb hab c hc => by
    obtain ⟨x, hx, rfl⟩ := mem_rgt.1 hab
    obtain ⟨hxn, hqx⟩ := mem_lst.1 hx
    obtain ⟨i1, i2⟩ := sub_iv g hs hxn hqx
    obtain ⟨_, i3, i4, _⟩ := iv_spec g hxn
    rw [Bool.eq_iff_iff, mem_rgt, mem_rgt]
    constructor
    · rintro ⟨y, hy, rfl⟩
      obtain ⟨hyn, hqy⟩ := mem_lst.1 hy
      refine ⟨tm n zs y (iv n zs e x), mem_lst.2 ⟨tm_lt g.tab hyn i1, sub_mul hs hyn i1 hqy i2⟩, ?_⟩
      rw [g.ass y _ _ hyn i1 hb, ← g.ass _ x a i1 hxn ha, i4, g.left a ha]
    · rintro ⟨y, hy, rfl⟩
      obtain ⟨hyn, hqy⟩ := mem_lst.1 hy
      exact ⟨tm n zs y x, mem_lst.2 ⟨tm_lt g.tab hyn hxn, sub_mul hs hyn hxn hqy hqx⟩, g.ass y x a hyn hxn ha⟩
theorem lft_parts (g : IsGrp n zs e) (hs : subT n zs e q = true) : Prts n (lftq n zs (lst n q)) where
  refl := fun a ha => mem_lft.2 ⟨e, mem_lst.2 ⟨g.elt, (subT_iff.1 hs).one⟩, g.right a ha⟩
  same := fun a b ha hb hab c hc => by
    obtain ⟨x, hx, rfl⟩ := mem_lft.1 hab
    obtain ⟨hxn, hqx⟩ := mem_lst.1 hx
    obtain ⟨i1, i2⟩ := sub_iv g hs hxn hqx
    obtain ⟨_, i3, i4, _⟩ := iv_spec g hxn
    rw [Bool.eq_iff_iff, mem_lft, mem_lft]
    constructor
    · rintro ⟨y, hy, rfl⟩
      obtain ⟨hyn, hqy⟩ := mem_lst.1 hy
      refine ⟨tm n zs (iv n zs e x) y, mem_lst.2 ⟨tm_lt g.tab i1 hyn, sub_mul hs i1 hyn i2 hqy⟩, ?_⟩
      rw [← g.ass _ _ y hb i1 hyn, g.ass a x _ ha hxn i1, i3, g.right a ha]
    · rintro ⟨y, hy, rfl⟩
      obtain ⟨hyn, hqy⟩ := mem_lst.1 hy
      exact ⟨tm n zs x y, mem_lst.2 ⟨tm_lt g.tab hxn hyn, sub_mul hs hxn hyn hqx hqy⟩, (g.ass a x y ha hxn hyn).symm⟩
theorem rgt_size (g : IsGrp n zs e) {a : Nat} (ha : a < n) : (lst n (rgtq n zs (lst n q) a)).length = (lst n q).length := by
  symm
  refine Fin.bij_len (fun x => tm n zs x a) (List.nodup_range.sublist List.filter_sublist) (List.nodup_range.sublist List.filter_sublist) (fun x hx => ?_) (fun x y hx hy h => ?_) (fun y hy => ?_)
  · exact mem_lst.2 ⟨tm_lt g.tab (mem_lst.1 hx).1 ha, mem_rgt.2 ⟨x, hx, rfl⟩⟩
  · obtain ⟨h1, h2, _, _⟩ := iv_spec g ha
    have h9 : tm n zs (tm n zs x a) (iv n zs e a) = tm n zs (tm n zs y a) (iv n zs e a) := by
      have h8 : tm n zs x a = tm n zs y a := h
      rw [h8]
    rw [g.ass x a _ (mem_lst.1 hx).1 ha h1, g.ass y a _ (mem_lst.1 hy).1 ha h1, h2, g.right x (mem_lst.1 hx).1, g.right y (mem_lst.1 hy).1] at h9
    exact h9
  · obtain ⟨x, hx, he⟩ := mem_rgt.1 (mem_lst.1 hy).2
    exact ⟨x, hx, he⟩
theorem lft_size (g : IsGrp n zs e) {a : Nat} (ha : a < n) : (lst n (lftq n zs (lst n q) a)).length = (lst n q).length := by
  symm
  refine Fin.bij_len (fun x => tm n zs a x) (List.nodup_range.sublist List.filter_sublist) (List.nodup_range.sublist List.filter_sublist) (fun x hx => ?_) (fun x y hx hy h => ?_) (fun y hy => ?_)
  · exact mem_lst.2 ⟨tm_lt g.tab ha (mem_lst.1 hx).1, mem_lft.2 ⟨x, hx, rfl⟩⟩
  · exact (grp_fg g).can (List.mem_range.2 ha) (List.mem_range.2 (mem_lst.1 hx).1) (List.mem_range.2 (mem_lst.1 hy).1) h
  · obtain ⟨x, hx, he⟩ := mem_lft.1 (mem_lst.1 hy).2
    exact ⟨x, hx, he⟩
end
end Go.Proofs.YtgejngpioldhpaaGreatDoor

namespace Go.Proofs.YtgejngpioldhpaaGreatDoor
open Go Go.RowKit Go.Maps

/-- The number of a thing's set. -/
def num (n : Nat) (f : Nat → Nat → Bool) (a : Nat) : Nat := (fsts n f (((List.range n).find? fun b => decide (bs (f b) n = bs (f a) n)).getD 0)).length
theorem num_same {n a b : Nat} {f : Nat → Nat → Bool} (h : bs (f a) n = bs (f b) n) : num n f a = num n f b := by unfold num; rw [h]
theorem num_new {n j : Nat} {f : Nat → Nat → Bool} (hj : j < n) (h : (List.range j).all (fun b => decide (bs (f b) n ≠ bs (f j) n)) = true) : num n f j = (fsts n f j).length := by
  unfold num
  have : ((List.range n).find? fun b => decide (bs (f b) n = bs (f j) n)) = some j := by
    rw [List.find?_range_eq_some]
    refine ⟨by simp, List.mem_range.2 hj, fun b hb => ?_⟩
    have := List.all_eq_true.1 h b (List.mem_range.2 hb)
    simpa using this
  rw [this]; rfl
/-- The numbers that the map has. -/
def MNum (n : Nat) (f : Nat → Nat → Bool) (j : Nat) (D : DataW Unit) : Prop := ∀ a, a < j → D.atKey (.int .u64 (bs (f a) n : Nat)) (.lit (.int .i64 0)) = .lit (.int .i64 (num n f a : Nat))
theorem mnum_step {n j : Nat} {f : Nat → Nat → Bool} {D : DataW Unit} (h : MNum n f j D) (hD : IsMap D) (hj : j < n) (hnew : (List.range j).all (fun b => decide (bs (f b) n ≠ bs (f j) n)) = true) : MNum n f (j + 1) (D.put (.int .u64 (bs (f j) n : Nat)) (.lit (.int .i64 ((fsts n f j).length : Nat)))) := by
  intro a ha
  by_cases e : a = j
  · subst e
    rw [atKey_put_same hD (by trivial), num_new hj hnew]
  · have hne := List.all_eq_true.1 hnew a (List.mem_range.2 (by omega))
    rw [atKey_put_other (fun h9 => by injection h9 with _ h9; simp at hne; omega)]
    exact h a (by omega)
theorem mnum_same {n j : Nat} {f : Nat → Nat → Bool} {D : DataW Unit} (h : MNum n f j D) (hs : ∃ a, a < j ∧ bs (f a) n = bs (f j) n) : MNum n f (j + 1) D := by
  obtain ⟨b, hb, e⟩ := hs
  intro a ha
  by_cases e9 : a = j
  · subst e9
    have := h b hb
    rw [e, num_same e] at this
    exact this
  · exact h a (by omega)
end Go.Proofs.YtgejngpioldhpaaGreatDoor

namespace Go.Proofs.YtgejngpioldhpaaGreatDoor
open Go Go.RowKit

/-- Which of the lists has a number first. -/
def whichI (rs : List (List Int)) (a : Int) : Int := if rs.findIdx (fun y => decide (a ∈ y)) < rs.length then (rs.findIdx (fun y => decide (a ∈ y)) : Int) else -1
theorem whichI_at {rs : List (List Int)} {a : Int} {k : Nat} (hk : k < rs.length) (h : a ∈ rs[k]?.getD []) (hno : ∀ t, t < k → ¬ a ∈ rs[t]?.getD []) : whichI rs a = k := by
  have h1 : rs.findIdx (fun y => decide (a ∈ y)) = k := by
    rw [List.findIdx_eq hk]
    rw [List.getElem?_eq_getElem hk] at h
    refine ⟨by simpa using h, fun t ht => ?_⟩
    have := hno t ht
    rw [List.getElem?_eq_getElem (by omega)] at this
    simpa using this
  unfold whichI
  rw [h1, if_pos hk]
theorem whichI_no {rs : List (List Int)} {a : Int} (hno : ∀ t, t < rs.length → ¬ a ∈ rs[t]?.getD []) : whichI rs a = -1 := by
  unfold whichI
  rw [if_neg]
  intro h
  have h2 := List.findIdx_getElem (w := h)
  have := hno _ h
  rw [List.getElem?_eq_getElem h] at this
  simp at this h2
  exact this h2
end Go.Proofs.YtgejngpioldhpaaGreatDoor

namespace Go.Proofs.YtgejngpioldhpaaGreatDoor
open Go

/-- The table of n things whose products f tells. -/
def mkT (n : Nat) (f : Nat → Nat → Nat) : List Int := (List.range (n * n)).map fun i => (f (i / n) (i % n) : Int)
theorem mkT_len (n : Nat) (f : Nat → Nat → Nat) : (mkT n f).length = n * n := by simp [mkT]
theorem mkT_get {N : Nat} {f : Nat → Nat → Nat} {i : Nat} (hi : i < N * N) : (mkT N f)[i]?.getD 0 = (f (i / N) (i % N) : Int) := by simp [mkT, hi]
theorem tm_mk {N : Nat} {f : Nat → Nat → Nat} {a b : Nat} (ha : a < N) (hb : b < N) : tm N (mkT N f) a b = f a b := by
  unfold tm
  obtain ⟨e1, e2⟩ := dm' (a := a) hb
  rw [mkT_get (place_lt ha hb), e1, e2, Int.toNat_natCast]
theorem tab_mk {N : Nat} {f : Nat → Nat → Nat} (h1 : 1 ≤ N) (h2 : N ≤ 60) (hc : ∀ a b, a < N → b < N → f a b < N) : IsTab N (mkT N f) :=
  ⟨h1, h2, mkT_len N f, fun i hi => by
    obtain ⟨d1, d2⟩ := div_mod_lt hi
    have := hc _ _ d1 d2
    rw [mkT_get hi]; omega⟩
theorem grp_mk {N e : Nat} {f : Nat → Nat → Nat} (h1 : 1 ≤ N) (h2 : N ≤ 60) (hc : ∀ a b, a < N → b < N → f a b < N) (he : e < N) (hl : ∀ a, a < N → f e a = a) (hr : ∀ a, a < N → f a e = a)
    (hass : ∀ a b c, a < N → b < N → c < N → f (f a b) c = f a (f b c)) (hinv : ∀ a, a < N → ∃ b, b < N ∧ f a b = e) : IsGrp N (mkT N f) e := by
  have ht := tab_mk h1 h2 hc
  have hoe : oneB N (mkT N f) e = true := oneB_iff.2 (fun a ha => by rw [tm_mk he ha, tm_mk ha he]; exact ⟨hl a ha, hr a ha⟩)
  refine ⟨ht, he, ?_, fun a ha => by rw [tm_mk he ha]; exact hl a ha, fun a ha => by rw [tm_mk ha he]; exact hr a ha, fun a b c ha hb hc' => ?_, fun a ha => ?_⟩
  · unfold one
    rcases least_cases N (oneB N (mkT N f)) with ⟨k, hk, hp, _, ek⟩ | ⟨hno, _⟩
    · have h3 := (oneB_iff.1 hp e he).1
      rw [tm_mk hk he, hr k hk] at h3
      rw [ek, h3]
    · have := hno e he
      rw [hoe] at this; cases this
  · rw [tm_mk ha hb, tm_mk (hc a b ha hb) hc', tm_mk hb hc', tm_mk ha (hc b c hb hc')]
    exact hass a b c ha hb hc'
  · obtain ⟨b, hb, hab⟩ := hinv a ha
    exact ⟨b, hb, by rw [tm_mk ha hb]; exact hab⟩


theorem mkT_congr {n : Nat} {f g : Nat → Nat → Nat} (h : ∀ a b, a < n → b < n → f a b = g a b) : mkT n f = mkT n g := by
  unfold mkT
  refine List.map_congr_left fun i hi => ?_
  obtain ⟨h1, h2⟩ := div_mod_lt (List.mem_range.1 hi)
  rw [h _ _ h1 h2]
/-- What a group is mapped to, products kept, and all of it met, is a group. -/
theorem grp_image {n e K : Nat} {zs : List Int} {F : Nat → Nat → Nat} {φ : Nat → Nat} (g : IsGrp n zs e) (hK : K ≤ 60) (hφ : ∀ a, a < n → φ a < K) (hs : ∀ i, i < K → ∃ a, a < n ∧ φ a = i)
    (hm : ∀ a b, a < n → b < n → F (φ a) (φ b) = φ (tm n zs a b)) : IsGrp K (mkT K F) (φ e) := by
  have hKp : 1 ≤ K := by have := hφ e g.elt; omega
  refine grp_mk hKp hK ?_ (hφ e g.elt) ?_ ?_ ?_ ?_
  · intro i j hi hj
    obtain ⟨a, ha, rfl⟩ := hs i hi
    obtain ⟨b, hb, rfl⟩ := hs j hj
    rw [hm a b ha hb]
    exact hφ _ (tm_lt g.tab ha hb)
  · intro i hi
    obtain ⟨a, ha, rfl⟩ := hs i hi
    rw [hm e a g.elt ha, g.left a ha]
  · intro i hi
    obtain ⟨a, ha, rfl⟩ := hs i hi
    rw [hm a e ha g.elt, g.right a ha]
  · intro i j k hi hj hk
    obtain ⟨a, ha, rfl⟩ := hs i hi
    obtain ⟨b, hb, rfl⟩ := hs j hj
    obtain ⟨c, hc, rfl⟩ := hs k hk
    rw [hm a b ha hb, hm _ c (tm_lt g.tab ha hb) hc, hm b c hb hc, hm a _ ha (tm_lt g.tab hb hc), g.ass a b c ha hb hc]
  · intro i hi
    obtain ⟨a, ha, rfl⟩ := hs i hi
    obtain ⟨b, hb, he⟩ := g.inv a ha
    exact ⟨φ b, hφ b hb, by rw [hm a b ha hb, he]⟩
end Go.Proofs.YtgejngpioldhpaaGreatDoor

namespace Go.Proofs.YtgejngpioldhpaaGreatDoor
open Go Go.RowKit

/-- a, k + 1 times. -/
def pr (n : Nat) (zs : List Int) (a : Nat) : Nat → Nat
  | 0 => a
  | k + 1 => tm n zs (pr n zs a k) a
theorem pr_lt {n : Nat} {zs : List Int} (ht : IsTab n zs) {a : Nat} (ha : a < n) : ∀ k, pr n zs a k < n
  | 0 => ha
  | k + 1 => tm_lt ht (pr_lt ht ha k) ha
theorem pr_add {n e : Nat} {zs : List Int} (h : IsGrp n zs e) {a : Nat} (ha : a < n) (i : Nat) : ∀ m, pr n zs a (i + m + 1) = tm n zs (pr n zs a i) (pr n zs a m)
  | 0 => rfl
  | m + 1 => by
    show tm n zs (pr n zs a (i + m + 1)) a = tm n zs (pr n zs a i) (tm n zs (pr n zs a m) a)
    rw [pr_add h ha i m, h.ass _ _ _ (pr_lt h.tab ha i) (pr_lt h.tab ha m) ha]
/-- A thing has an inverse on both sides. -/
theorem grp_inv {n e : Nat} {zs : List Int} (h : IsGrp n zs e) {x : Nat} (hx : x < n) : ∃ b, b < n ∧ tm n zs x b = e ∧ tm n zs b x = e := by
  obtain ⟨b, hb, hxb⟩ := h.inv x hx
  exact ⟨b, hb, hxb, inv_both h.tab h.elt h.left h.right h.ass hx hb hxb⟩
theorem grp_cancel {n e : Nat} {zs : List Int} (h : IsGrp n zs e) {x y z : Nat} (hx : x < n) (hy : y < n) (hz : z < n) (he : tm n zs x y = tm n zs x z) : y = z := by
  obtain ⟨b, hb, _, hbx⟩ := grp_inv h hx
  have h1 := h.ass b x y hb hx hy
  have h2 := h.ass b x z hb hx hz
  rw [hbx, h.left y hy] at h1
  rw [hbx, h.left z hz] at h2
  rw [h1, h2, he]
theorem grp_cancel_right {n e : Nat} {zs : List Int} (h : IsGrp n zs e) {x y z : Nat} (hx : x < n) (hy : y < n) (hz : z < n) (he : tm n zs y x = tm n zs z x) : y = z := by
  obtain ⟨b, hb, hxb, _⟩ := grp_inv h hx
  have h1 := h.ass y x b hy hx hb
  have h2 := h.ass z x b hz hx hb
  rw [hxb, h.right y hy] at h1
  rw [hxb, h.right z hz] at h2
  rw [← h1, ← h2, he]
/-- Some power, at most as many times as there are things, is the one. -/
theorem pr_one {n e : Nat} {zs : List Int} (h : IsGrp n zs e) {a : Nat} (ha : a < n) : ∃ k, k < n ∧ pr n zs a k = e := by
  rcases Classical.em (∃ k, k < n ∧ pr n zs a k = e) with hk | hk
  · exact hk
  · exfalso
    have hinj : ∀ i j, i < j → j < n → pr n zs a i ≠ pr n zs a j := fun i j hij hj he => by
      have h1 := pr_add h ha i (j - i - 1)
      rw [show i + (j - i - 1) + 1 = j by omega] at h1
      have h2 : tm n zs (pr n zs a i) (pr n zs a (j - i - 1)) = tm n zs (pr n zs a i) e := by rw [← h1, h.right _ (pr_lt h.tab ha i), he]
      exact hk ⟨j - i - 1, by omega, grp_cancel h (pr_lt h.tab ha i) (pr_lt h.tab ha _) h.elt h2⟩
    obtain ⟨k, hkn, hke⟩ := meets (n := n) (f := pr n zs a) (fun x _ => pr_lt h.tab ha x) (fun x y hx hy he => by
      rcases Nat.lt_trichotomy x y with hl | hl | hl
      · exact absurd he (hinj x y hl hy)
      · exact hl
      · exact absurd he.symm (hinj y x hl hx)) h.elt
    exact hk ⟨k, hkn, hke⟩
/-- How often a is to be taken until it is e. -/
def ordN (n : Nat) (zs : List Int) (e a : Nat) : Nat := (least n (fun k => decide (pr n zs a k = e))).toNat + 1
theorem ordN_spec {n e : Nat} {zs : List Int} (h : IsGrp n zs e) {a : Nat} (ha : a < n) : ∃ k, k < n ∧ ordN n zs e a = k + 1 ∧ pr n zs a k = e ∧ ∀ t, t < k → pr n zs a t ≠ e := by
  rcases least_cases n (fun k => decide (pr n zs a k = e)) with ⟨k, hk, hp, hb, he⟩ | ⟨hno, _⟩
  · refine ⟨k, hk, by unfold ordN; rw [he]; simp, of_decide_eq_true hp, fun t ht => of_decide_eq_false (hb t ht)⟩
  · obtain ⟨k, hk, hke⟩ := pr_one h ha
    have := hno k hk
    simp [hke] at this

end Go.Proofs.YtgejngpioldhpaaGreatDoor

namespace Go.Proofs.YtgejngpioldhpaaGreatDoor

/-- a, k times. -/
def pw (n : Nat) (zs : List Int) (e a : Nat) : Nat → Nat
  | 0 => e
  | k + 1 => tm n zs (pw n zs e a k) a
theorem pw_lt {n e : Nat} {zs : List Int} (h : IsGrp n zs e) {a : Nat} (ha : a < n) : ∀ k, pw n zs e a k < n
  | 0 => h.elt
  | k + 1 => tm_lt h.tab (pw_lt h ha k) ha
theorem pw_pr {n e : Nat} {zs : List Int} (h : IsGrp n zs e) {a : Nat} (ha : a < n) : ∀ k, pw n zs e a (k + 1) = pr n zs a k
  | 0 => h.left a ha
  | k + 1 => by
    show tm n zs (pw n zs e a (k + 1)) a = tm n zs (pr n zs a k) a
    rw [pw_pr h ha k]
theorem pw_add {n e : Nat} {zs : List Int} (h : IsGrp n zs e) {a : Nat} (ha : a < n) (i : Nat) : ∀ j, pw n zs e a (i + j) = tm n zs (pw n zs e a i) (pw n zs e a j)
  | 0 => (h.right _ (pw_lt h ha i)).symm
  | j + 1 => by
    show tm n zs (pw n zs e a (i + j)) a = tm n zs (pw n zs e a i) (tm n zs (pw n zs e a j) a)
    rw [pw_add h ha i j, h.ass _ _ _ (pw_lt h ha i) (pw_lt h ha j) ha]
theorem pw_one {n e : Nat} {zs : List Int} (h : IsGrp n zs e) : ∀ k, pw n zs e e k = e
  | 0 => rfl
  | k + 1 => by
    show tm n zs (pw n zs e e k) e = e
    rw [pw_one h k, h.left e h.elt]
theorem pw_mul {n e : Nat} {zs : List Int} (h : IsGrp n zs e) {a : Nat} (ha : a < n) (i : Nat) : ∀ j, pw n zs e (pw n zs e a i) j = pw n zs e a (i * j)
  | 0 => rfl
  | j + 1 => by
    show tm n zs (pw n zs e (pw n zs e a i) j) (pw n zs e a i) = pw n zs e a (i * j + i)
    rw [pw_mul h ha i j, pw_add h ha (i * j) i]
theorem ord_pos {n e : Nat} {zs : List Int} (a : Nat) : 0 < ordN n zs e a := by unfold ordN; omega
theorem ord_le {n e : Nat} {zs : List Int} (h : IsGrp n zs e) {a : Nat} (ha : a < n) : ordN n zs e a ≤ n := by
  obtain ⟨k, hk, ho, _, _⟩ := ordN_spec h ha
  omega
theorem pw_ord {n e : Nat} {zs : List Int} (h : IsGrp n zs e) {a : Nat} (ha : a < n) : pw n zs e a (ordN n zs e a) = e := by
  obtain ⟨k, _, ho, hp, _⟩ := ordN_spec h ha
  rw [ho, pw_pr h ha, hp]
theorem pw_ord_mul {n e : Nat} {zs : List Int} (h : IsGrp n zs e) {a : Nat} (ha : a < n) (q : Nat) : pw n zs e a (ordN n zs e a * q) = e := by
  rw [← pw_mul h ha, pw_ord h ha, pw_one h]
theorem pw_mod {n e : Nat} {zs : List Int} (h : IsGrp n zs e) {a : Nat} (ha : a < n) (k : Nat) : pw n zs e a (k % ordN n zs e a) = pw n zs e a k := by
  have h1 := Nat.div_add_mod k (ordN n zs e a)
  have h2 : pw n zs e a (ordN n zs e a * (k / ordN n zs e a) + k % ordN n zs e a) = pw n zs e a (k % ordN n zs e a) := by
    rw [pw_add h ha, pw_ord_mul h ha, h.left _ (pw_lt h ha _)]
  rw [h1] at h2
  exact h2.symm
theorem pw_min {n e : Nat} {zs : List Int} (h : IsGrp n zs e) {a : Nat} (ha : a < n) {k : Nat} (hk : k < ordN n zs e a) (hp : pw n zs e a k = e) : k = 0 := by
  cases k with
  | zero => rfl
  | succ k =>
    obtain ⟨k9, _, ho, _, hno⟩ := ordN_spec h ha
    rw [pw_pr h ha] at hp
    exact absurd hp (hno k (by omega))
theorem ord_dvd {n e : Nat} {zs : List Int} (h : IsGrp n zs e) {a : Nat} (ha : a < n) {k : Nat} (hp : pw n zs e a k = e) : ordN n zs e a ∣ k := by
  have h1 := pw_min h ha (Nat.mod_lt k (ord_pos a)) ((pw_mod h ha k).trans hp)
  exact Nat.dvd_of_mod_eq_zero h1
theorem pw_inj {n e : Nat} {zs : List Int} (h : IsGrp n zs e) {a : Nat} (ha : a < n) {i j : Nat} (hi : i < ordN n zs e a) (hj : j < ordN n zs e a) (he : pw n zs e a i = pw n zs e a j) : i = j := by
  rcases Nat.lt_trichotomy i j with hl | hl | hl
  · have h1 := pw_add h ha i (j - i)
    rw [show i + (j - i) = j by omega] at h1
    have h2 := grp_cancel h (pw_lt h ha i) (pw_lt h ha (j - i)) h.elt (h1.symm.trans (he.symm.trans (h.right _ (pw_lt h ha i)).symm))
    have := pw_min h ha (by omega) h2
    omega
  · exact hl
  · have h1 := pw_add h ha j (i - j)
    rw [show j + (i - j) = i by omega] at h1
    have h2 := grp_cancel h (pw_lt h ha j) (pw_lt h ha (i - j)) h.elt (h1.symm.trans (he.trans (h.right _ (pw_lt h ha j)).symm))
    have := pw_min h ha (by omega) h2
    omega

theorem len_split (p : Nat → Bool) : ∀ l : List Nat, l.length = (l.filter p).length + (l.filter (fun y => !p y)).length
  | [] => rfl
  | x :: l => by
    have h := len_split p l
    cases hp : p x <;> simp [hp] <;> omega
/-- Where each value of f is met as often, that number divides all. -/
theorem fibre_dvd (f : Nat → Int) (o : Nat) : ∀ (m : Nat) (l : List Nat), l.length ≤ m → (∀ x, x ∈ l → (l.filter (fun y => decide (f y = f x))).length = o) → o ∣ l.length
  | _, [], _, _ => ⟨0, rfl⟩
  | 0, x :: l, hm, _ => by simp at hm
  | m + 1, x :: l, hm, hf => by
    have h1 := hf x (by simp)
    have hsplit := len_split (fun y => decide (f y = f x)) (x :: l)
    have hlt : 0 < ((x :: l).filter (fun y => decide (f y = f x))).length := List.length_pos_of_mem (a := x) (List.mem_filter.2 ⟨by simp, by simp⟩)
    have h2 := fibre_dvd f o m ((x :: l).filter (fun y => !decide (f y = f x))) (by simp only [List.length_cons] at hm hsplit; omega) (fun y hy => by
      obtain ⟨hy1, hy2⟩ := List.mem_filter.1 hy
      rw [List.filter_filter, ← hf y hy1]
      congr 1
      apply List.filter_congr
      intro z _
      by_cases hz : f z = f y
      · simp only [hz, decide_true, Bool.true_and]
        exact hy2
      · simp [hz])
    rw [hsplit, h1]
    exact Nat.dvd_add (Nat.dvd_refl o) h2
/-- Is y some power of a behind x? -/
def inCoset (n : Nat) (zs : List Int) (e a x y : Nat) : Bool := (List.range (ordN n zs e a)).any fun k => decide (tm n zs x (pw n zs e a k) = y)
theorem inCoset_iff {n e : Nat} {zs : List Int} {a x y : Nat} : inCoset n zs e a x y = true ↔ ∃ k, k < ordN n zs e a ∧ tm n zs x (pw n zs e a k) = y := by
  unfold inCoset
  simp only [List.any_eq_true, List.mem_range, decide_eq_true_eq]
theorem inCoset_any {n e : Nat} {zs : List Int} (h : IsGrp n zs e) {a x y : Nat} (ha : a < n) {k : Nat} (hk : tm n zs x (pw n zs e a k) = y) : inCoset n zs e a x y = true :=
  inCoset_iff.2 ⟨k % ordN n zs e a, Nat.mod_lt _ (ord_pos a), by rw [pw_mod h ha]; exact hk⟩
theorem inCoset_sub {n e : Nat} {zs : List Int} (h : IsGrp n zs e) {a x y z : Nat} (ha : a < n) (hx : x < n) (h1 : inCoset n zs e a x y = true) (h2 : inCoset n zs e a y z = true) : inCoset n zs e a x z = true := by
  obtain ⟨i, _, rfl⟩ := inCoset_iff.1 h1
  obtain ⟨j, _, rfl⟩ := inCoset_iff.1 h2
  exact inCoset_any h ha (k := i + j) (by rw [pw_add h ha, h.ass _ _ _ hx (pw_lt h ha i) (pw_lt h ha j)])
theorem inCoset_symm {n e : Nat} {zs : List Int} (h : IsGrp n zs e) {a x y : Nat} (ha : a < n) (hx : x < n) (h1 : inCoset n zs e a x y = true) : inCoset n zs e a y x = true := by
  obtain ⟨i, hi, rfl⟩ := inCoset_iff.1 h1
  exact inCoset_any h ha (k := ordN n zs e a - i) (by rw [h.ass _ _ _ hx (pw_lt h ha i) (pw_lt h ha _), ← pw_add h ha, show i + (ordN n zs e a - i) = ordN n zs e a by omega, pw_ord h ha, h.right x hx])
theorem inCoset_refl {n e : Nat} {zs : List Int} (h : IsGrp n zs e) {a x : Nat} (ha : a < n) (hx : x < n) : inCoset n zs e a x x = true :=
  inCoset_any h ha (k := 0) (h.right x hx)
/-- The least thing of a coset. -/
def rep (n : Nat) (zs : List Int) (e a x : Nat) : Int := least n (inCoset n zs e a x)
theorem rep_iff {n e : Nat} {zs : List Int} (h : IsGrp n zs e) {a x y : Nat} (ha : a < n) (hx : x < n) (hy : y < n) : rep n zs e a y = rep n zs e a x ↔ inCoset n zs e a x y = true := by
  unfold rep
  constructor
  · intro he
    rcases least_cases n (inCoset n zs e a x) with ⟨k, hk, hp, _, e1⟩ | ⟨hno, _⟩
    · rcases least_cases n (inCoset n zs e a y) with ⟨j, hj, hq, _, e2⟩ | ⟨hno, _⟩
      · rw [e1, e2] at he
        have : j = k := by omega
        subst this
        exact inCoset_sub h ha hx hp (inCoset_symm h ha hy hq)
      · have := hno y hy
        rw [inCoset_refl h ha hy] at this; cases this
    · have := hno x hx
      rw [inCoset_refl h ha hx] at this; cases this
  · intro hxy
    apply least_congr
    intro t ht
    rw [Bool.eq_iff_iff]
    exact ⟨fun hyt => inCoset_sub h ha hx hxy hyt, fun hxt => inCoset_sub h ha hy (inCoset_symm h ha hx hxy) hxt⟩
/-- LAGRANGE, of what one thing makes. -/
theorem lagrange {n e : Nat} {zs : List Int} (h : IsGrp n zs e) {a : Nat} (ha : a < n) : ordN n zs e a ∣ n := by
  have h1 := fibre_dvd (rep n zs e a) (ordN n zs e a) n (List.range n) (by simp) (fun x hx => by
    have hx := List.mem_range.1 hx
    have hn1 : ((List.range n).filter (fun y => decide (rep n zs e a y = rep n zs e a x))).Nodup := List.nodup_range.filter _
    have hn2 : ((List.range (ordN n zs e a)).map (fun k => tm n zs x (pw n zs e a k))).Nodup := map_nodup List.nodup_range (fun i j hi hj he =>
      pw_inj h ha (List.mem_range.1 hi) (List.mem_range.1 hj) (grp_cancel h hx (pw_lt h ha i) (pw_lt h ha j) he))
    have hs1 : ∀ z, z ∈ (List.range n).filter (fun y => decide (rep n zs e a y = rep n zs e a x)) → z ∈ (List.range (ordN n zs e a)).map (fun k => tm n zs x (pw n zs e a k)) := fun z hz => by
      obtain ⟨hz1, hz2⟩ := List.mem_filter.1 hz
      obtain ⟨k, hk, e1⟩ := inCoset_iff.1 ((rep_iff h ha hx (List.mem_range.1 hz1)).1 (of_decide_eq_true hz2))
      exact List.mem_map.2 ⟨k, List.mem_range.2 hk, e1⟩
    have hs2 : ∀ z, z ∈ (List.range (ordN n zs e a)).map (fun k => tm n zs x (pw n zs e a k)) → z ∈ (List.range n).filter (fun y => decide (rep n zs e a y = rep n zs e a x)) := fun z hz => by
      obtain ⟨k, hk, rfl⟩ := List.mem_map.1 hz
      have hzl := tm_lt h.tab hx (pw_lt h ha k)
      exact List.mem_filter.2 ⟨List.mem_range.2 hzl, decide_eq_true ((rep_iff h ha hx hzl).2 (inCoset_any h ha rfl))⟩
    have l1 := nodup_len _ _ hn1 hs1
    have l2 := nodup_len _ _ hn2 hs2
    simp only [List.length_map, List.length_range] at l1 l2
    omega)
  simpa using h1

/-- a, z times, z of either sign. -/
def pz (n : Nat) (zs : List Int) (e a : Nat) (z : Int) : Nat := pw n zs e a (z % (ordN n zs e a : Int)).toNat
theorem pz_lt {n e : Nat} {zs : List Int} (h : IsGrp n zs e) {a : Nat} (ha : a < n) (z : Int) : pz n zs e a z < n := pw_lt h ha _
theorem pz_eq {n e : Nat} {zs : List Int} (h : IsGrp n zs e) {a : Nat} (ha : a < n) {k : Nat} {z : Int} (hk : (k : Int) % (ordN n zs e a : Int) = z % (ordN n zs e a : Int)) : pz n zs e a z = pw n zs e a k := by
  unfold pz
  rw [← hk, ← Int.natCast_emod, Int.toNat_natCast, pw_mod h ha]
theorem pz_add {n e : Nat} {zs : List Int} (h : IsGrp n zs e) {a : Nat} (ha : a < n) (x y : Int) : tm n zs (pz n zs e a x) (pz n zs e a y) = pz n zs e a (x + y) := by
  have ho : (0 : Int) < (ordN n zs e a : Int) := by have := ord_pos (n := n) (zs := zs) (e := e) a; omega
  have hx := Int.emod_nonneg x (Int.ne_of_gt ho)
  have hy := Int.emod_nonneg y (Int.ne_of_gt ho)
  rw [pz_eq h ha (k := (x % (ordN n zs e a : Int)).toNat + (y % (ordN n zs e a : Int)).toNat) (z := x + y) (by
    rw [Int.natCast_add, Int.toNat_of_nonneg hx, Int.toNat_of_nonneg hy, ← Int.add_emod]), pw_add h ha]
  rfl
theorem pz_n {n e : Nat} {zs : List Int} (h : IsGrp n zs e) {a : Nat} (ha : a < n) : pz n zs e a (n : Int) = e := by
  obtain ⟨q, hq⟩ := lagrange h ha
  rw [pz_eq h ha (k := n) (z := (n : Int)) rfl]
  have := pw_ord_mul h ha q
  rw [← hq] at this
  exact this
theorem pz_mul {n e : Nat} {zs : List Int} (h : IsGrp n zs e) {a : Nat} (ha : a < n) (x y : Int) : pz n zs e (pz n zs e a x) y = pz n zs e a (x * y) := by
  have ho : (0 : Int) < (ordN n zs e a : Int) := by have := ord_pos (n := n) (zs := zs) (e := e) a; omega
  have hx := Int.emod_nonneg x (Int.ne_of_gt ho)
  have hy := Int.emod_nonneg y (Int.ne_of_gt ho)
  obtain ⟨i, hi⟩ : ∃ i : Nat, (i : Int) = x % (ordN n zs e a : Int) := ⟨(x % (ordN n zs e a : Int)).toNat, Int.toNat_of_nonneg hx⟩
  obtain ⟨j, hj⟩ : ∃ j : Nat, (j : Int) = y % (ordN n zs e a : Int) := ⟨(y % (ordN n zs e a : Int)).toNat, Int.toNat_of_nonneg hy⟩
  have e1 : pz n zs e a x = pw n zs e a i := pz_eq h ha (by rw [hi, Int.emod_emod])
  have hb := pw_lt h ha i
  rw [e1]
  have hd : ordN n zs e (pw n zs e a i) ∣ ordN n zs e a := ord_dvd h hb (by rw [pw_mul h ha, Nat.mul_comm, pw_ord_mul h ha])
  rw [pz_eq h hb (k := j) (z := y) (by
    rw [hj]
    exact Int.emod_emod_of_dvd y (Int.natCast_dvd_natCast.2 hd)), pw_mul h ha]
  rw [pz_eq h ha (k := i * j) (z := x * y) (by rw [Int.natCast_mul, hi, hj, ← Int.mul_emod])]
end Go.Proofs.YtgejngpioldhpaaGreatDoor

namespace Go.Proofs.YtgejngpioldhpaaGreatDoor
open Go Go.RowKit

/-- What the walk reckons: the rest of a number by an order. -/
theorem rest_of (z : Int) {o : Nat} (h : 0 < o) : ∃ s : Nat, s < o ∧ (s : Int) = z % (o : Int) ∧ ((z.tmod o < 0 ∧ z.tmod o + o = s) ∨ (¬ z.tmod o < 0 ∧ z.tmod o = s)) := by
  have h1 := Int.emod_nonneg z (show (o : Int) ≠ 0 by omega)
  have h2 := Int.emod_lt_of_pos z (show (0 : Int) < o by omega)
  refine ⟨(z % (o : Int)).toNat, by omega, by omega, ?_⟩
  rcases Int.lt_or_le z 0 with hn | hn
  · have h3 := Int.tmod_eq_emod (a := z) (b := (o : Int))
    rw [h3]
    split
    · right; omega
    · left
      rw [Int.natAbs_natCast]; omega
  · right
    rw [Int.tmod_eq_emod_of_nonneg hn]
    omega
end Go.Proofs.YtgejngpioldhpaaGreatDoor

namespace Go.Proofs.YtgejngpioldhpaaGreatDoor
open Go Go.RowKit

theorem Blk.c0 {W : World} {B : Nat} {T : TypeId} {x y : Value} (h : Blk W B T [x, y]) : W.cell? ⟨B, 0, none⟩ = some x := h.cell 0
theorem Blk.c1 {W : World} {B : Nat} {T : TypeId} {x y : Value} (h : Blk W B T [x, y]) : W.cell? ⟨B, 1, none⟩ = some y := h.cell 1
end Go.Proofs.YtgejngpioldhpaaGreatDoor

namespace Go.Proofs.YtgejngpioldhpaaGreatDoor
open Go Go.RowKit

section
variable {n : Nat} {f : Nat → Nat → Bool}
/-- The least thing of a thing's set. -/
theorem prts_rep (h : Prts n f) {a : Nat} (ha : a < n) : ∃ r, r < n ∧ f a r = true ∧ r ∈ fsts n f n ∧ ((List.range n).find? fun b => decide (bs (f b) n = bs (f a) n)) = some r ∧ num n f a = (fsts n f r).length := by
  have hs : ((List.range n).find? fun b => decide (bs (f b) n = bs (f a) n)).isSome = true := by
    rw [List.find?_isSome]
    exact ⟨a, List.mem_range.2 ha, by simp⟩
  obtain ⟨r, hr⟩ := Option.isSome_iff_exists.1 hs
  obtain ⟨h1, h2, h3⟩ := List.find?_range_eq_some.1 hr
  have hrn := List.mem_range.1 h2
  have h1 : bs (f r) n = bs (f a) n := by simpa using h1
  have hfr : f a r = true := by rw [← bs_inj h1 r hrn]; exact h.refl r hrn
  refine ⟨r, hrn, hfr, ?_, hr, by unfold num; rw [hr]; rfl⟩
  unfold fsts
  rw [List.mem_filter, List.mem_range]
  refine ⟨hrn, List.all_eq_true.2 fun b hb => ?_⟩
  have := h3 b (List.mem_range.1 hb)
  rw [h1]
  simpa using this
theorem fsts_take (n : Nat) (f : Nat → Nat → Bool) {r j : Nat} (h : r ≤ j) : fsts n f r = (fsts n f j).filter fun a => decide (a < r) := by
  unfold fsts
  rw [List.filter_filter]
  have : List.range r = (List.range j).filter fun a => decide (a < r) := by
    induction j with
    | zero => have : r = 0 := by omega
              subst this; rfl
    | succ j ih =>
      by_cases e : r = j + 1
      · subst e
        rw [List.filter_eq_self.2]
        intro a ha
        simpa using ha
      · rw [List.range_succ, List.filter_append, ← ih (by omega)]
        simp; omega
  rw [this, List.filter_filter]
  exact List.filter_congr fun a _ => Bool.and_comm _ _
theorem sorted_idx : ∀ (l : List Nat), l.Pairwise (· < ·) → ∀ i, (h : i < l.length) → (l.filter fun a => decide (a < l[i])).length = i
  | [], _, i, h => by simp at h
  | x :: t, hp, i, h => by
    rw [List.pairwise_cons] at hp
    cases i with
    | zero =>
      simp only [List.getElem_cons_zero]
      rw [List.filter_cons, if_neg (by simp)]
      rw [List.filter_eq_nil_iff.2]
      · rfl
      · intro a ha
        have := hp.1 a ha
        simp; omega
    | succ i =>
      simp only [List.getElem_cons_succ, List.length_cons] at h ⊢
      have hx := hp.1 (t[i]'(by omega)) (List.getElem_mem _)
      rw [List.filter_cons, if_pos (by simpa using hx), List.length_cons, sorted_idx t hp.2 i (by omega)]
theorem fsts_sorted (n : Nat) (f : Nat → Nat → Bool) (j : Nat) : (fsts n f j).Pairwise (· < ·) := List.Pairwise.sublist List.filter_sublist List.pairwise_lt_range
/-- The number of the set that stands at a place. -/
theorem prts_num_at (_h : Prts n f) {i : Nat} (hi : i < (fsts n f n).length) : num n f (fsts n f n)[i] = i := by
  have hm := List.getElem_mem hi
  generalize hc : (fsts n f n)[i] = c at *
  have hcn : c < n := by unfold fsts at hm; exact List.mem_range.1 (List.mem_filter.1 hm).1
  have hal : (List.range c).all (fun b => decide (bs (f b) n ≠ bs (f c) n)) = true := by unfold fsts at hm; exact (List.mem_filter.1 hm).2
  rw [num_new hcn hal, fsts_take n f (Nat.le_of_lt hcn), ← hc]
  exact sorted_idx _ (fsts_sorted n f n) i hi
theorem prts_num_lt (h : Prts n f) {a : Nat} (ha : a < n) : num n f a < (fsts n f n).length ∧ ∀ hl : num n f a < (fsts n f n).length, f a ((fsts n f n)[num n f a]) = true := by
  obtain ⟨r, hr, hf, hm, hfd, hnum⟩ := prts_rep h ha
  obtain ⟨i, hi, he⟩ := List.mem_iff_getElem.1 hm
  have h1 := prts_num_at h hi
  have h2 : num n f r = num n f a := by
    refine num_same (bs_ext fun x hx => ?_)
    exact (h.same a r ha hr hf x hx).symm
  rw [he, h2] at h1
  refine ⟨by omega, fun hl => ?_⟩
  have : (fsts n f n)[num n f a] = r := by simp only [h1]; exact he
  rw [this]
  exact hf
theorem prts_num_eq (h : Prts n f) {a b : Nat} (ha : a < n) (hb : b < n) : num n f a = num n f b ↔ f a b = true := by
  constructor
  · intro e
    obtain ⟨h1, h2⟩ := prts_num_lt h ha
    obtain ⟨h3, h4⟩ := prts_num_lt h hb
    have h5 := h2 h1
    have h6 := h4 h3
    simp only [← e] at h6
    have hm := List.getElem_mem h1
    generalize (fsts n f n)[num n f a] = c at *
    have hcn : c < n := by unfold fsts at hm; exact List.mem_range.1 (List.mem_filter.1 hm).1
    rw [h.same a c ha hcn h5 b hb, ← h.same b c hb hcn h6 b hb]
    exact h.refl b hb
  · intro e
    exact num_same (bs_ext fun x hx => h.same a b ha hb e x hx)
/-- The document's number of a thing's set. -/
theorem prts_which (h : Prts n f) {a : Nat} (ha : a < n) : whichI (csl n f n) a = (num n f a : Int) := by
  obtain ⟨h1, h2⟩ := prts_num_lt h ha
  have hget : ∀ t, t < (fsts n f n).length → ∀ hl : t < (fsts n f n).length, (csl n f n)[t]?.getD [] = li (lst n (f (fsts n f n)[t])) := fun t _ hl => by unfold csl; simp [hl]
  have hmem : ∀ t (hl : t < (fsts n f n).length), (a : Int) ∈ (csl n f n)[t]?.getD [] ↔ num n f a = t := fun t hl => by
    rw [hget t hl hl, mem_li, mem_lst]
    have hm := List.getElem_mem hl
    have hcn : (fsts n f n)[t] < n := by unfold fsts at hm; exact List.mem_range.1 (List.mem_filter.1 hm).1
    have h3 := prts_num_at h hl
    rw [← prts_num_eq h hcn ha, h3]
    exact ⟨fun h4 => h4.2.symm, fun h4 => ⟨ha, h4.symm⟩⟩
  refine whichI_at (by rw [csl_len]; exact h1) ((hmem _ h1).2 rfl) fun t ht => ?_
  rw [hmem t (by omega)]
  omega
end
section
variable {n e : Nat} {zs : List Int} {q : Nat → Bool}
theorem fst_lt {f : Nat → Nat → Bool} {i : Nat} (hi : i < (fsts n f n).length) : (fsts n f n)[i] < n := by
  have hm := List.getElem_mem hi
  unfold fsts at hm ⊢
  exact List.mem_range.1 (List.mem_filter.1 hm).1
/-- A right coset, moved. -/
theorem rgt_mul (g : IsGrp n zs e) {a b c : Nat} (ha : a < n) (hb : b < n) (hc : c < n) : rgtq n zs (lst n q) (tm n zs a c) (tm n zs b c) = rgtq n zs (lst n q) a b := by
  obtain ⟨c1, c2, _, _⟩ := iv_spec g hc
  obtain ⟨a1, _, _, _⟩ := iv_spec g ha
  rw [rgt_iff g (tm_lt g.tab ha hc) (tm_lt g.tab hb hc), rgt_iff g ha hb]
  have : tm n zs (tm n zs b c) (iv n zs e (tm n zs a c)) = tm n zs b (iv n zs e a) := by
    have h1 : iv n zs e (tm n zs a c) = tm n zs (iv n zs e c) (iv n zs e a) := by
      refine (iv_only g (tm_lt g.tab ha hc) (tm_lt g.tab c1 a1) ?_).symm
      obtain ⟨_, a2, _, _⟩ := iv_spec g ha
      rw [g.ass a c _ ha hc (tm_lt g.tab c1 a1), ← g.ass c _ _ hc c1 a1, c2, g.left _ a1, a2]
    rw [h1, g.ass b c _ hb hc (tm_lt g.tab c1 a1), ← g.ass c _ _ hc c1 a1, c2, g.left _ a1]
  rw [this]
theorem csl_get {f : Nat → Nat → Bool} {t : Nat} (ht : t < (fsts n f n).length) : (csl n f n)[t]?.getD [] = li (lst n (f (fsts n f n)[t])) := by unfold csl; simp [ht]
/-- What stands in the lists. -/
theorem csl_at {f : Nat → Nat → Bool} (h : Prts n f) (t : Nat) (x : Int) : x ∈ (csl n f n)[t]?.getD [] ↔ ∃ a : Nat, a < n ∧ x = (a : Int) ∧ num n f a = t := by
  by_cases ht : t < (fsts n f n).length
  · rw [csl_get ht]
    have hcn := fst_lt ht
    constructor
    · intro hx
      unfold li at hx
      obtain ⟨a, ha, rfl⟩ := List.mem_map.1 hx
      obtain ⟨h1, h2⟩ := mem_lst.1 ha
      refine ⟨a, h1, rfl, ?_⟩
      rw [← (prts_num_eq h hcn h1).2 h2, prts_num_at h ht]
    · rintro ⟨a, ha, rfl, hnum⟩
      rw [mem_li, mem_lst]
      refine ⟨ha, (prts_num_eq h hcn ha).1 ?_⟩
      rw [prts_num_at h ht, hnum]
  · rw [List.getElem?_eq_none (by rw [csl_len]; omega)]
    constructor
    · intro hx; simp at hx
    · rintro ⟨a, ha, _, hnum⟩
      have := (prts_num_lt h ha).1
      omega
theorem csl_head {f : Nat → Nat → Bool} (h : Prts n f) {t : Nat} (ht : t < (fsts n f n).length) : ∃ s, (csl n f n)[t]?.getD [] = (((fsts n f n)[t]?.getD 0 : Nat) : Int) :: s := by
  rw [csl_get ht, List.getElem?_eq_getElem ht, Option.getD_some]
  have hm := List.getElem_mem ht
  generalize (fsts n f n)[t] = c at *
  rw [h.fsts, List.mem_filter, decide_eq_true_eq] at hm
  obtain ⟨_, hm⟩ := hm
  cases hl : lst n (f c) with
  | nil => rw [hl] at hm; simp at hm
  | cons z s => rw [hl] at hm; simp at hm; subst hm; exact ⟨li s, rfl⟩
theorem csl_len_le {f : Nat → Nat → Bool} (t : Nat) : ((csl n f n)[t]?.getD []).length ≤ n := by
  by_cases ht : t < (fsts n f n).length
  · rw [csl_get ht, li_len]
    unfold lst
    exact Nat.le_trans (List.length_filter_le _ _) (by simp)
  · rw [List.getElem?_eq_none (by rw [csl_len]; omega)]
    simp
/-- Of each thing the number of its set. -/
def ontoL (n : Nat) (f : Nat → Nat → Bool) : List Int := (List.range n).map fun a => (num n f a : Int)
theorem ontoL_len (n : Nat) (f : Nat → Nat → Bool) : (ontoL n f).length = n := by simp [ontoL]
theorem ontoL_get {f : Nat → Nat → Bool} {a : Nat} (ha : a < n) : (ontoL n f)[a]?.getD 0 = (num n f a : Int) := by simp [ontoL, ha]
/-- The first numbers, and noughts. -/
def ontoU (n : Nat) (f : Nat → Nat → Bool) (k : Nat) : List Int := (List.range n).map fun a => if a < k then (num n f a : Int) else 0
theorem ontoU_len (n : Nat) (f : Nat → Nat → Bool) (k : Nat) : (ontoU n f k).length = n := by simp [ontoU]
theorem ontoU_zero (n : Nat) (f : Nat → Nat → Bool) : ontoU n f 0 = List.replicate n 0 := by
  unfold ontoU
  apply List.ext_getElem <;> simp
theorem ontoU_all (n : Nat) (f : Nat → Nat → Bool) : ontoU n f n = ontoL n f := by
  unfold ontoU ontoL
  exact List.map_congr_left fun a ha => if_pos (List.mem_range.1 ha)
theorem ontoU_set {f : Nat → Nat → Bool} {k : Nat} : ontoU n f (k + 1) = (ontoU n f k).set k (num n f k : Int) := by
  apply List.ext_getElem
  · simp [ontoU]
  · intro i h1 h2
    rw [List.getElem_set]
    simp only [ontoU, List.getElem_map, List.getElem_range]
    by_cases e : k = i
    · subst e
      rw [if_pos (by omega), if_pos rfl]
    · rw [if_neg e]
      by_cases h3 : i < k
      · rw [if_pos (by omega), if_pos h3]
      · rw [if_neg (by omega), if_neg h3]
/-- Products of numbers. -/
def quoF (n : Nat) (zs : List Int) (f : Nat → Nat → Bool) (i j : Nat) : Nat := num n f (tm n zs ((fsts n f n)[i]?.getD 0) ((fsts n f n)[j]?.getD 0))
theorem rgt_both (g : IsGrp n zs e) (hs : subT n zs e q = true) (hN : nrmq n zs e q = true) {a b c d : Nat} (ha : a < n) (hb : b < n) (hc : c < n) (hd : d < n)
    (h1 : rgtq n zs (lst n q) a c = true) (h2 : rgtq n zs (lst n q) b d = true) : rgtq n zs (lst n q) (tm n zs a b) (tm n zs c d) = true := by
  obtain ⟨x, hx, rfl⟩ := mem_rgt.1 h1
  obtain ⟨y, hy, rfl⟩ := mem_rgt.1 h2
  obtain ⟨hxn, hqx⟩ := mem_lst.1 hx
  obtain ⟨hyn, hqy⟩ := mem_lst.1 hy
  obtain ⟨a1, a2, a3, _⟩ := iv_spec g ha
  have hcj := (nrm_iff g).1 hN y (iv n zs e a) (List.mem_range.2 hyn) (List.mem_range.2 a1) hqy
  unfold Fin.cj at hcj
  rw [show iv n zs e (iv n zs e a) = a from (iv_only g a1 ha a3).symm] at hcj
  have hz := tm_lt g.tab a1 hyn
  refine mem_rgt.2 ⟨tm n zs x (tm n zs (tm n zs a y) (iv n zs e a)), mem_lst.2 ⟨?_, ?_⟩, ?_⟩
  · exact tm_lt g.tab hxn (tm_lt g.tab (tm_lt g.tab ha hyn) a1)
  · refine sub_mul hs hxn (tm_lt g.tab (tm_lt g.tab ha hyn) a1) hqx ?_
    first
      | exact hcj
      | (rw [g.ass a y _ ha hyn a1]; exact hcj)
  · have hay := tm_lt g.tab ha hyn
    have hab := tm_lt g.tab ha hb
    rw [g.ass x _ _ hxn (tm_lt g.tab hay a1) hab, g.ass (tm n zs a y) _ _ hay a1 hab, ← g.ass _ a b a1 ha hb, a3, g.left b hb, g.ass a y b ha hyn hb, g.ass x a _ hxn ha (tm_lt g.tab hyn hb)]
theorem quo_hom (g : IsGrp n zs e) (hs : subT n zs e q = true) (hN : nrmq n zs e q = true) {a b : Nat} (ha : a < n) (hb : b < n) :
    quoF n zs (rgtq n zs (lst n q)) (num n (rgtq n zs (lst n q)) a) (num n (rgtq n zs (lst n q)) b) = num n (rgtq n zs (lst n q)) (tm n zs a b) := by
  have P := rgt_parts g hs
  obtain ⟨a1, a2⟩ := prts_num_lt P ha
  obtain ⟨b1, b2⟩ := prts_num_lt P hb
  have a3 := a2 a1
  have b3 := b2 b1
  have ha9 := fst_lt a1
  have hb9 := fst_lt b1
  unfold quoF
  rw [List.getElem?_eq_getElem a1, List.getElem?_eq_getElem b1, Option.getD_some, Option.getD_some]
  exact ((prts_num_eq P (tm_lt g.tab ha hb) (tm_lt g.tab ha9 hb9)).2 (rgt_both g hs hN ha hb ha9 hb9 a3 b3)).symm
theorem quo_grp (g : IsGrp n zs e) (hs : subT n zs e q = true) (hN : nrmq n zs e q = true) :
    IsGrp (fsts n (rgtq n zs (lst n q)) n).length (mkT (fsts n (rgtq n zs (lst n q)) n).length (quoF n zs (rgtq n zs (lst n q)))) (num n (rgtq n zs (lst n q)) e) := by
  have P := rgt_parts g hs
  refine grp_image g (Nat.le_trans (fsts_len _ _ _) g.tab.le) (fun a ha => (prts_num_lt P ha).1) (fun i hi => ⟨_, fst_lt hi, prts_num_at P hi⟩) (fun a b ha hb => quo_hom g hs hN ha hb)
end
end Go.Proofs.YtgejngpioldhpaaGreatDoor

namespace Go.Proofs.YtgejngpioldhpaaGreatDoor
open Go Go.RowKit Go.Maps

theorem law3 : Keyed Tryz.prog 3 := int_keyed und3'
/-- What the map has of the first i lists, and of the first k numbers of the next. -/
structure MLs (ls : List (List Int)) (i k : Nat) (D : DataW Unit) : Prop where
  old : ∀ t, t < i → ∀ a, a ∈ ls[t]?.getD [] → D.atKey (.int .i64 a) (.lit (.int .i64 0)) = .lit (.int .i64 (t : Nat))
  new : ∀ a, a ∈ (ls[i]?.getD []).take k → D.atKey (.int .i64 a) (.lit (.int .i64 0)) = .lit (.int .i64 (i : Nat))
theorem MLs.step {ls : List (List Int)} {i k : Nat} {D : DataW Unit} (h : MLs ls i k D) (hD : IsMap D) (hd : ∀ (s t : Nat) (a : Int), a ∈ ls[s]?.getD [] → a ∈ ls[t]?.getD [] → s = t) (hk : k < (ls[i]?.getD []).length) :
    MLs ls i (k + 1) (D.put (.int .i64 ((ls[i]?.getD [])[k]?.getD 0)) (.lit (.int .i64 (i : Nat)))) := by
  have hx : (ls[i]?.getD [])[k]?.getD 0 ∈ ls[i]?.getD [] := by simp [hk]
  generalize hxe : (ls[i]?.getD [])[k]?.getD 0 = x at *
  constructor
  · intro t ht a ha
    have hne : a ≠ x := fun e => by
      subst e
      have := hd t i a ha hx
      omega
    rw [atKey_put_other (fun h9 => hne (by injection h9))]
    exact h.old t ht a ha
  · intro a ha
    by_cases e : a = x
    · subst e
      rw [atKey_put_same hD (by trivial)]
    · rw [atKey_put_other (fun h9 => e (by injection h9))]
      refine h.new a ?_
      rw [List.take_add_one, List.mem_append] at ha
      rcases ha with ha | ha
      · exact ha
      · rw [List.getElem?_eq_getElem hk] at ha hxe
        simp at ha hxe
        exact absurd (ha.trans hxe) e
theorem MLs.done {ls : List (List Int)} {i : Nat} {D : DataW Unit} (h : MLs ls i (ls[i]?.getD []).length D) : MLs ls (i + 1) 0 D := by
  constructor
  · intro t ht a ha
    by_cases e : t = i
    · subst e
      exact h.new a (by rw [List.take_length]; exact ha)
    · exact h.old t (by omega) a ha
  · intro a ha
    simp at ha
theorem map_le {P : Program} {k : TypeId} {R : Value → Option (DataW Unit × List MemPlace)} {w : World} {b n m : Nat} {D : DataW Unit} (h : w.ownsMap P k R b n D) (hm : n ≤ m) : w.ownsMap P k R b m D := by
  obtain ⟨d, rfl⟩ := Nat.exists_eq_add_of_le hm
  clear hm
  induction d with
  | zero => exact h
  | succ d ih => exact map_more ih
end Go.Proofs.YtgejngpioldhpaaGreatDoor

namespace Go.Proofs.YtgejngpioldhpaaGreatDoor
open Go Go.RowKit Go.Maps

end Go.Proofs.YtgejngpioldhpaaGreatDoor

namespace Go.Proofs.YtgejngpioldhpaaGreatDoor
open Go Go.RowKit Go.Maps

/-- What a function that answers a group and a fault begins with. -/
structure BegQ (w w0 : World) (N : Int) (v : Value) : Prop where
  eq : w0 = ((w.alloc (.cells #[.int .i64 N, v] 24)).alloc (.cells #[.int .i64 0, .slice none 0 0] 24)).alloc (.cells #[.int .i64 0, .int .i64 0] 27)
  bel : Below w.heap.size w w0
  box : BoxG w0 w.heap.size N v
  grp : Blk w0 (w.heap.size + 1) 24 [.int .i64 0, .slice none 0 0]
  res : Blk w0 (w.heap.size + 1 + 1) 27 [.int .i64 0, .int .i64 0]
  siz : w0.heap.size = w.heap.size + 1 + 1 + 1
theorem BegQ.new (w : World) (N : Int) (v : Value) : ∃ w0, BegQ w w0 N v := by
  refine ⟨_, rfl, ((balloc w _).alloc (by simp) _).alloc (by simp; omega) _, ((blk0 (w := w) (T := 24) _ _).alloc _).alloc _, ?_, ?_, by simp⟩
  · have h := (blk0 (w := w.alloc (.cells #[.int .i64 N, v] 24)) (T := 24) (.int .i64 0) (.slice none 0 0)).alloc (.cells #[.int .i64 0, .int .i64 0] 27)
    rw [World.size_alloc] at h
    exact h
  · have h := blk0 (w := (w.alloc (.cells #[.int .i64 N, v] 24)).alloc (.cells #[.int .i64 0, .slice none 0 0] 24)) (T := 27) (.int .i64 0) (.int .i64 0)
    rw [World.size_alloc, World.size_alloc] at h
    exact h
end Go.Proofs.YtgejngpioldhpaaGreatDoor

namespace Go.Proofs.YtgejngpioldhpaaGreatDoor
open Go Go.RowKit

theorem sq_l : lfault 8 [0, 2] = (0, 0) := by decide +kernel
theorem sq_s : subT 8 sqT 0 (pset [0, 2]) = true := by decide +kernel
theorem sq_n : nrmq 8 sqT 0 (pset [0, 2]) = true := by decide +kernel
theorem sq_k : (fsts 8 (rgtq 8 sqT (lst 8 (pset [0, 2]))) 8).length = 4 := by decide +kernel
theorem sq_o : ontoL 8 (rgtq 8 sqT (lst 8 (pset [0, 2]))) = [0, 1, 0, 1, 2, 3, 2, 3] := by decide +kernel
theorem sq_e : num 8 (rgtq 8 sqT (lst 8 (pset [0, 2]))) 0 = 0 := by decide +kernel
def sqQ : List Int := mkT 4 (quoF 8 sqT (rgtq 8 sqT (lst 8 (pset [0, 2]))))
theorem sq_g : IsGrp 4 sqQ 0 := by
  have h := quo_grp (q := pset [0, 2]) sqT_grp sq_s sq_n
  rw [sq_k, sq_e] at h
  exact h
theorem sq_p : pz 4 sqQ 0 1 2 = 0 := by decide +kernel
end Go.Proofs.YtgejngpioldhpaaGreatDoor

namespace Go.Proofs.YtgejngpioldhpaaGreatDoor
open Go Go.RowKit

end Go.Proofs.YtgejngpioldhpaaGreatDoor

namespace Go.Proofs.YtgejngpioldhpaaGreatDoor
open Go Go.RowKit

theorem one_lsx : ∀ (n a : Nat), a < n → lst n (fun y => decide (y = a)) = [a]
  | 0, a, h => by omega
  | n + 1, a, h => by
    unfold lst
    rw [List.range_succ, List.filter_append]
    by_cases e : a = n
    · subst e
      have : (List.range a).filter (fun y => decide (y = a)) = [] := List.filter_eq_nil_iff.2 fun y hy => by
        have := List.mem_range.1 hy
        simp; omega
      rw [this]
      simp
    · have h9 := one_lsx n a (by omega)
      unfold lst at h9
      rw [h9]
      have : ¬ n = a := fun e9 => e e9.symm
      simp [this]
theorem one_fault {n a : Nat} (h : a < n) : lfault n [(a : Int)] = (0, 0) := by
  have := lst_fault n (fun y => decide (y = a))
  rw [one_lsx n a h] at this
  exact this
theorem lst_le (n : Nat) (p : Nat → Bool) : (lst n p).length ≤ n := by unfold lst; exact Nat.le_trans (List.length_filter_le _ _) (by simp)
/-- Has each thing but the one all, by a number? -/
def smq (n e : Nat) (L : Nat → Nat) : Bool := decide (1 < n) && (List.range n).all fun a => decide (a = e) || !decide (L a < n)
end Go.Proofs.YtgejngpioldhpaaGreatDoor

namespace Go.Proofs.YtgejngpioldhpaaGreatDoor
open Go Go.RowKit Go.Maps

theorem slF_blk {w : World} {g n B : Nat} {zs : List Int} (h : Blk w g 3 (zs.map (Value.int .i64))) (hn : n = zs.length) (hl : zs.length ≤ 1000000) (hB : B ≤ g) : SlF B w (.slice (some ⟨g, 0, none⟩) n n) zs := by
  subst hn
  exact ⟨some ⟨g, 0, none⟩, zs.length, g, 0, rfl, ⟨fun _ => rfl, fun j hj => by rw [Nat.zero_add]; exact h.int hj⟩, h.lt, Nat.le_refl _, by unfold maxLen; omega, hB⟩
theorem slF_row {w : World} {base B : Nat} {v : Value} {zs : List Int} (h : Row w base v zs) (hB : B ≤ base) (h0 : 0 < zs.length) : SlF B w v zs := by
  rcases h.2 with ⟨_, hz⟩ | ⟨g, cap, cur, rfl, hgb, hh, h1, h2, _⟩
  · omega
  · refine ⟨some ⟨g, 0, none⟩, cap, g, 0, rfl, ⟨fun _ => rfl, fun j hj => ?_⟩, (Array.getElem?_eq_some_iff.1 hh).1, h1, h2, by omega⟩
    have h3 := h.cells (g := g) rfl j (.int .i64 (zs[j]?.getD 0)) (by simp [hj])
    rw [show (⟨g, 0, none⟩ : Addr).add j = ⟨g, j, none⟩ by unfold Addr.add; split <;> simp_all] at h3
    rw [Nat.zero_add]; exact h3
theorem slF_keep {B : Nat} {w w' : World} {v : Value} {zs : List Int} (h : SlF B w v zs) (hs : w.heap.size ≤ w'.heap.size) (hk : ∀ g, B ≤ g → g < w.heap.size → w'.heap[g]? = w.heap[g]?) : Sl w' v zs := by
  obtain ⟨a, cap, pb, po, rfl, h1, h2, h3, h4, h5⟩ := h
  exact ⟨a, cap, pb, po, rfl, h1.of_eq (hk pb h5 h2), Nat.lt_of_lt_of_le h2 hs, h3, h4⟩
end Go.Proofs.YtgejngpioldhpaaGreatDoor

namespace Go.Proofs.YtgejngpioldhpaaGreatDoor
open Go Go.RowKit

theorem all_lst (n : Nat) : lst n (fun _ => true) = List.range n := by unfold lst; simp
theorem all_pset (n : Nat) : lst n (pset (li (List.range n))) = List.range n := by
  have := lst_pset n (fun _ => true)
  rwa [all_lst] at this
section
variable {n e : Nat} {zs : List Int} {p : Nat → Bool}
theorem der_sub (g : IsGrp n zs e) (hp : ∀ a, a < n → (p a = true ↔ Mkd n zs e (cmq n zs e (List.range n) (List.range n)) a)) : subT n zs e (pset (li (lst n p))) = true :=
  sg_test g (Fin.Gen.sg _) hp
theorem der_nrm (g : IsGrp n zs e) (hp : ∀ a, a < n → (p a = true ↔ Mkd n zs e (cmq n zs e (List.range n) (List.range n)) a)) : nrmq n zs e (pset (li (lst n p))) = true :=
  nm_test g (Fin.der_nm (grp_fg g) (grp_iv g)) (fun a ha => (hp a ha).trans (cms_iff a))
/-- The quotient by the commutators commutes. -/
theorem der_com (g : IsGrp n zs e) (hp : ∀ a, a < n → (p a = true ↔ Mkd n zs e (cmq n zs e (List.range n) (List.range n)) a)) :
    comB (fsts n (rgtq n zs (lst n (pset (li (lst n p))))) n).length (mkT (fsts n (rgtq n zs (lst n (pset (li (lst n p))))) n).length (quoF n zs (rgtq n zs (lst n (pset (li (lst n p))))))) = true := by
  have hs := der_sub g hp
  have hN := der_nrm g hp
  have PP := rgt_parts g hs
  rw [comB_iff]
  intro i j hi hj
  rw [tm_mk hi hj, tm_mk hj hi]
  have ha := fst_lt hi
  have hb := fst_lt hj
  have ea := prts_num_at PP hi
  have eb := prts_num_at PP hj
  generalize (fsts n (rgtq n zs (lst n (pset (li (lst n p))))) n)[i] = a at *
  generalize (fsts n (rgtq n zs (lst n (pset (li (lst n p))))) n)[j] = b at *
  rw [← ea, ← eb, quo_hom g hs hN ha hb, quo_hom g hs hN hb ha]
  have hab := tm_lt g.tab ha hb
  have hba := tm_lt g.tab hb ha
  have hc := List.mem_range.1 (Fin.cm_mem (grp_fg g) (grp_iv g) (List.mem_range.2 ha) (List.mem_range.2 hb))
  have hce := Fin.cm_eq (grp_fg g) (grp_iv g) (List.mem_range.2 ha) (List.mem_range.2 hb)
  have hcp : Fin.cm (tm n zs) (iv n zs e) a b ∈ lst n (pset (li (lst n p))) := by
    rw [lst_pset, mem_lst]
    refine ⟨hc, (hp _ hc).2 ((cms_iff _).2 (Fin.Gen.base (List.mem_range.2 hc) ⟨a, b, List.mem_range.2 ha, List.mem_range.2 hb, rfl⟩))⟩
  generalize Fin.cm (tm n zs) (iv n zs e) a b = c at *
  have h1 : rgtq n zs (lst n (pset (li (lst n p)))) e c = true := mem_rgt.2 ⟨c, hcp, g.right c hc⟩
  have h2 := rgt_both g hs hN hba g.elt hba hc (PP.refl _ hba) h1
  rw [g.right _ hba, hce] at h2
  exact ((prts_num_eq PP hba hab).2 h2).symm
end
end Go.Proofs.YtgejngpioldhpaaGreatDoor
