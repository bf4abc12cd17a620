/- Package coset, and the document on cosets; sets that part things, and their numbers. Classes part a group; the number of a thing's class. What the document's Cosets and WhichOf answer. What package class's opened answers: a group with its classes, and the number of each thing's class. Condition: the library's table of places lies as its text lays it. What package class's opened answers at what is wrong, and what its All answers. Condition: the library's table of places lies as its text lays it. -/
import Derived.Test.YtobnfbnholbfoaaDoorZ3
import Derived.Deep.AppendLies
import Derived.Laws.EntriesVeiled
import Derived.Maps.OwnSet
import Derived.Maps.AppendAt
import Derived.BigQuiet
import Derived.Maps.Ext
namespace Go.Proofs.YtobnfbnholbfoaaDoor
open Go Go.RowKit

def rgtq (n : Nat) (zs : List Int) (xs : List Nat) (a y : Nat) : Bool := xs.any fun x => decide (tm n zs x a = y)
def lftq (n : Nat) (zs : List Int) (xs : List Nat) (a y : Nat) : Bool := xs.any fun x => decide (tm n zs a x = y)
end Go.Proofs.YtobnfbnholbfoaaDoor

namespace Go.Proofs.YtobnfbnholbfoaaDoor
open Go Go.RowKit Go.Maps

theorem und77 : Tryd.prog.underlying 76 = some (.int .u64) := by kernel_rfl
theorem und3' : Tryd.prog.underlying 3 = some (.int .i64) := by kernel_rfl
theorem under25b : Tryd.prog.underlying 25 = some (.slice 22) := by kernel_rfl
theorem law77 : Keyed Tryd.prog 76 := int_keyed und77
theorem zero3 (w : World) : (zeroValue 3).run Tryd.prog w = .ok (.int .i64 0) w := by kernel_rfl
theorem info22b : (Tryd.prog.info? 22).map (fun i => (i.zero, i.size, i.bytes)) = some (some (.slice none 0 0), 1, 24) := by kernel_rfl
/-- The things at which a set is met first. -/
def fsts (n : Nat) (f : Nat → Nat → Bool) (j : Nat) : List Nat := (List.range j).filter fun a => (List.range a).all fun b => decide (bs (f b) n ≠ bs (f a) n)
theorem fsts_succ (n : Nat) (f : Nat → Nat → Bool) (j : Nat) : fsts n f (j + 1) = if (List.range j).all (fun b => decide (bs (f b) n ≠ bs (f j) n)) then fsts n f j ++ [j] else fsts n f j := by
  unfold fsts
  rw [List.range_succ, List.filter_append]
  by_cases h : (List.range j).all (fun b => decide (bs (f b) n ≠ bs (f j) n)) = true
  · rw [if_pos h, List.filter_cons, if_pos h, List.filter_nil]
  · rw [if_neg h, List.filter_cons, if_neg h, List.filter_nil, List.append_nil]
theorem fsts_len (n : Nat) (f : Nat → Nat → Bool) (j : Nat) : (fsts n f j).length ≤ j := Nat.le_trans (List.length_filter_le _ _) (by simp)
/-- What the map knows. -/
def MInv (n : Nat) (f : Nat → Nat → Bool) (j : Nat) (D : DataW Unit) : Prop := ∀ s : Nat, Maps.has D (.int .u64 s) = true ↔ ∃ a, a < j ∧ bs (f a) n = s
/-- The lists that lie in a slice of slices. -/
def Lsts (W : World) (B : Nat) (r : Value) (vs : List Value) (ls : List (List Int)) : Prop := vs.length = ls.length ∧ ∀ (t : Nat) (x : Value) (l : List Int), vs[t]? = some x → ls[t]? = some l → ∃ a cap pb po, x = .slice a l.length cap ∧ Reads W a pb po l ∧ pb < W.heap.size ∧ l.length ≤ cap ∧ cap ≤ maxLen ∧ B ≤ pb ∧ ∀ g, r.ownBlock = some g → pb ≠ g

theorem Lsts.keep {W W' : World} {B : Nat} {r r' : Value} {vs : List Value} {ls : List (List Int)} (h : Lsts W B r vs ls) (hs : W.heap.size ≤ W'.heap.size) (hk : ∀ g, B ≤ g → g < W.heap.size → r.ownBlock ≠ some g → W'.heap[g]? = W.heap[g]?) (hr : r'.ownBlock = r.ownBlock ∨ ∀ g, r'.ownBlock = some g → W.heap.size ≤ g) : Lsts W' B r' vs ls := by
  refine ⟨h.1, fun t x l h1 h2 => ?_⟩
  obtain ⟨a, cap, pb, po, rfl, h3, h4, h5, h6, h7, h8⟩ := h.2 t x l h1 h2
  refine ⟨a, cap, pb, po, rfl, h3.of_eq (hk pb h7 h4 (fun e => h8 pb e rfl)), Nat.lt_of_lt_of_le h4 hs, h5, h6, h7, fun g hg => ?_⟩
  rcases hr with hr | hr
  · exact h8 g (by rw [← hr]; exact hg)
  · have := hr g hg; omega
theorem Lsts.snoc {W : World} {B : Nat} {r : Value} {vs : List Value} {ls : List (List Int)} {x : Value} {l : List Int} (h : Lsts W B r vs ls) (hx : ∃ a cap pb po, x = Value.slice a l.length cap ∧ Reads W a pb po l ∧ pb < W.heap.size ∧ l.length ≤ cap ∧ cap ≤ maxLen ∧ B ≤ pb ∧ ∀ g, r.ownBlock = some g → pb ≠ g) : Lsts W B r (vs ++ [x]) (ls ++ [l]) := by
  refine ⟨by simp [h.1], fun t y m h1 h2 => ?_⟩
  by_cases ht : t < vs.length
  · rw [List.getElem?_append_left ht] at h1
    rw [List.getElem?_append_left (by rw [← h.1]; exact ht)] at h2
    exact h.2 t y m h1 h2
  · have hv : t = vs.length := by
      have := (List.getElem?_eq_some_iff.1 h1).1
      simp at this; omega
    subst hv
    rw [List.getElem?_append_right (Nat.le_refl _)] at h1
    rw [List.getElem?_append_right (by rw [h.1]; exact Nat.le_refl _), h.1] at h2
    simp at h1 h2
    subst h1 h2
    exact hx
theorem minv_step {n j : Nat} {f : Nat → Nat → Bool} {D : DataW Unit} {d : DataW Unit} (h : MInv n f j D) (hD : IsMap D) : MInv n f (j + 1) (D.put (.int .u64 (bs (f j) n : Nat)) d) := by
  intro s
  by_cases e : s = bs (f j) n
  · subst e
    rw [has_put_same hD (by trivial)]
    exact ⟨fun _ => ⟨j, by omega, rfl⟩, fun _ => rfl⟩
  · rw [has_put_other (fun h9 => e (by injection h9 with _ h9; omega)), h s]
    exact ⟨fun ⟨a, h1, h2⟩ => ⟨a, by omega, h2⟩, fun ⟨a, h1, h2⟩ => ⟨a, by
      have : a ≠ j := fun e9 => e (by rw [← h2, e9])
      omega, h2⟩⟩
theorem minv_same {n j : Nat} {f : Nat → Nat → Bool} {D : DataW Unit} (h : MInv n f j D) (hh : Maps.has D (.int .u64 (bs (f j) n : Nat)) = true) : MInv n f (j + 1) D := by
  obtain ⟨b, hb, e⟩ := (h _).1 hh
  intro s
  rw [h s]
  exact ⟨fun ⟨a, h1, h2⟩ => ⟨a, by omega, h2⟩, fun ⟨a, h1, h2⟩ => by
    by_cases e9 : a = j
    · subst e9; exact ⟨b, hb, by rw [e]; exact h2⟩
    · exact ⟨a, by omega, h2⟩⟩
theorem minv_new {n j : Nat} {f : Nat → Nat → Bool} {D : DataW Unit} (h : MInv n f j D) : Maps.has D (.int .u64 (bs (f j) n : Nat)) = false ↔ (List.range j).all (fun b => decide (bs (f b) n ≠ bs (f j) n)) = true := by
  rw [← Bool.not_eq_true, h]
  simp only [List.all_eq_true, List.mem_range, decide_eq_true_eq, not_exists, not_and]
/-- The lists of the sets that are met first. -/
def csl (n : Nat) (f : Nat → Nat → Bool) (j : Nat) : List (List Int) := (fsts n f j).map fun a => li (lst n (f a))
end Go.Proofs.YtobnfbnholbfoaaDoor

namespace Go.Proofs.YtobnfbnholbfoaaDoor
open Go Go.RowKit Go.Maps

theorem below_grown {w w' : World} (h : Below w.heap.size w w') (row : Option Nat) : w.grownBy w' row := ⟨h.os, h.tape, h.output, h.size, fun b hb _ => h.block b hb⟩
theorem own_slice' {w : World} {base n : Nat} {e : TypeId} {v : Value} {xs : List Value} (h : w.ownsRow base e 1 v n xs) : ∃ a cap, v = .slice a n cap := by
  rcases h.2 with ⟨rfl, rfl⟩ | ⟨g, cap, cur, rfl, _⟩
  · exact ⟨none, 0, rfl⟩
  · exact ⟨_, cap, rfl⟩
theorem map_more {P : Program} {k : TypeId} {R : Value → Option (DataW Unit × List MemPlace)} {w : World} {b n : Nat} {D : DataW Unit} (h : w.ownsMap P k R b n D) : w.ownsMap P k R b (n + 1) D := by
  obtain ⟨es, clock, hb, F, hs, hD⟩ := h
  exact ⟨es, clock, hb, F, Nat.le_succ_of_le hs, hD⟩
theorem map_is {P : Program} {k : TypeId} {R : Value → Option (DataW Unit × List MemPlace)} {w : World} {b n : Nat} {D : DataW Unit} (h : w.ownsMap P k R b n D) : IsMap D := by
  obtain ⟨es, clock, hb, F, hs, hD⟩ := h
  exact ⟨_, hD⟩
end Go.Proofs.YtobnfbnholbfoaaDoor

namespace Go.Proofs.YtobnfbnholbfoaaDoor
open Go Go.RowKit

/-- The first fault of subgroups, one after the other. -/
def wfault (N : Int) (zs : List Int) : List (List Int) → Int × Int
  | [] => (0, 0)
  | l :: ls => if (ufault N zs l).1 ≠ 0 then ufault N zs l else wfault N zs ls
theorem wfault_skip {N : Int} {zs : List Int} : ∀ (ls : List (List Int)) (k : Nat), (∀ t, t < k → (ufault N zs (ls[t]?.getD [])).1 = 0) → k ≤ ls.length → wfault N zs ls = wfault N zs (ls.drop k)
  | ls, 0, _, _ => by simp
  | [], k + 1, _, h => by simp at h
  | l :: ls, k + 1, h, hk => by
    have h0 : (ufault N zs l).1 = 0 := by simpa using h 0 (by omega)
    rw [List.drop_succ_cons, ← wfault_skip ls k (fun t ht => by simpa using h (t + 1) (by omega)) (by simpa using hk)]
    show (if _ then _ else _) = _
    rw [if_neg (by simpa using h0)]
theorem wfault_at {N : Int} {zs : List Int} {ls : List (List Int)} {k : Nat} (h : ∀ t, t < k → (ufault N zs (ls[t]?.getD [])).1 = 0) (hk : k < ls.length) (hc : (ufault N zs (ls[k]?.getD [])).1 ≠ 0) : wfault N zs ls = ufault N zs (ls[k]?.getD []) := by
  rw [wfault_skip ls k h (Nat.le_of_lt hk), List.drop_eq_getElem_cons hk]
  have e : ls[k]?.getD [] = ls[k] := by simp [hk]
  rw [e] at hc ⊢
  show (if _ then _ else _) = _
  rw [if_pos hc]
theorem wfault_ok {N : Int} {zs : List Int} {ls : List (List Int)} (h : ∀ t, t < ls.length → (ufault N zs (ls[t]?.getD [])).1 = 0) : wfault N zs ls = (0, 0) := by
  rw [wfault_skip ls ls.length h (Nat.le_refl _), List.drop_length]; rfl
end Go.Proofs.YtobnfbnholbfoaaDoor

namespace Go.Proofs.YtobnfbnholbfoaaDoor
open Go Go.RowKit

theorem own_keep' {W W' : World} {B n : Nat} {e : TypeId} {v : Value} {xs : List Value} (h : W.ownsRow B e 1 v n xs) (hk : ∀ g, B ≤ g → g < W.heap.size → W'.heap[g]? = W.heap[g]?) : W'.ownsRow B e 1 v n xs := by
  refine ⟨h.1, ?_⟩
  rcases h.2 with h0 | ⟨g, cap, cur, hv, hg, hh, rest⟩
  · exact .inl h0
  · exact .inr ⟨g, cap, cur, hv, hg, (hk g hg (Array.getElem?_eq_some_iff.1 hh).1).trans hh, rest⟩
theorem Lsts.mono {W : World} {B B' : Nat} {r : Value} {vs : List Value} {ls : List (List Int)} (h : Lsts W B r vs ls) (hb : B' ≤ B) : Lsts W B' r vs ls :=
  ⟨h.1, fun t x l h1 h2 => by
    obtain ⟨a, cap, pb, po, rfl, h3, h4, h5, h6, h7, h8⟩ := h.2 t x l h1 h2
    exact ⟨a, cap, pb, po, rfl, h3, h4, h5, h6, Nat.le_trans hb h7, h8⟩⟩
theorem wfault_one (N : Int) (zs l : List Int) : wfault N zs [l] = ufault N zs l := by
  show (if (ufault N zs l).1 ≠ 0 then ufault N zs l else (0, 0)) = ufault N zs l
  by_cases h : (ufault N zs l).1 ≠ 0
  · rw [if_pos h]
  · rw [if_neg h]
    obtain ⟨_, _, _, _, _, _, h9⟩ := ufault_zero (by simpa using h)
    exact h9.symm
/-- Three boxes: a group, a list, and a fault that is answered. -/
structure Beg3 (w w0 : World) (N : Int) (v u : Value) : Prop where
  eq : w0 = ((w.alloc (.cells #[.int .i64 N, v] 24)).alloc (.cells #[u] 22)).alloc (.cells #[.int .i64 0, .int .i64 0] 27)
  bel : Below w.heap.size w w0
  box : BoxG w0 w.heap.size N v
  lis : Boxed w0 (w.heap.size + 1) 22 u
  res : Blk w0 (w.heap.size + 1 + 1) 27 [.int .i64 0, .int .i64 0]
theorem Beg3.new (w : World) (N : Int) (v u : Value) : ∃ w0, Beg3 w w0 N v u := by
  refine ⟨_, rfl, ((balloc w _).alloc (by simp) _).alloc (by simp; omega) _, ((blk0 (w := w) (T := 24) _ _).alloc _).alloc _, ?_, ?_⟩
  · have h := (Boxed.new (w.alloc (.cells #[.int .i64 N, v] 24)) 22 u).alloc (.cells #[.int .i64 0, .int .i64 0] 27)
    rw [World.size_alloc] at h
    exact h
  · have h := blk0 (w := (w.alloc (.cells #[.int .i64 N, v] 24)).alloc (.cells #[u] 22)) (T := 27) (.int .i64 0) (.int .i64 0)
    rw [World.size_alloc, World.size_alloc] at h
    exact h
end Go.Proofs.YtobnfbnholbfoaaDoor

namespace Go.Proofs.YtobnfbnholbfoaaDoor
open Go Go.RowKit

/-- A slice of slices reads as these lists. -/
def SlL (w : World) (v : Value) (rs : List (List Int)) : Prop := ∃ a cap pb po, v = .slice a rs.length cap ∧ (0 < rs.length → a = some ⟨pb, po, none⟩) ∧ (∀ j, j < rs.length → ∃ x, w.cell? ⟨pb, po + j, none⟩ = some x ∧ Sl w x (rs[j]?.getD [])) ∧ pb < w.heap.size ∧ rs.length ≤ cap ∧ cap ≤ maxLen
theorem SlL.below {w w' : World} {v : Value} {rs : List (List Int)} (h : SlL w v rs) (hb : Below w.heap.size w w') : SlL w' v rs := by
  obtain ⟨a, cap, pb, po, rfl, h1, h2, h3, h4, h5⟩ := h
  exact ⟨a, cap, pb, po, rfl, h1, fun j hj => by
    obtain ⟨x, hx, hs⟩ := h2 j hj
    exact ⟨x, below_cell hb hx, hs.below hb⟩, Nat.lt_of_lt_of_le h3 hb.size, h4, h5⟩
theorem SlL.isSlice {w : World} {v : Value} {rs : List (List Int)} (h : SlL w v rs) : ∃ a l c, v = .slice a l c := by
  obtain ⟨a, cap, _, _, rfl, _⟩ := h
  exact ⟨a, _, cap, rfl⟩
end Go.Proofs.YtobnfbnholbfoaaDoor

namespace Go.Proofs.YtobnfbnholbfoaaDoor
open Go Go.RowKit

theorem SlL.of_own {w : World} {base B : Nat} {v : Value} {vs : List Value} {rs : List (List Int)} (h : w.ownsRow base 22 1 v vs.length vs) (hl : Lsts w B v vs rs) (h0 : 0 < w.heap.size) : SlL w v rs := by
  have hlen := hl.1
  rcases h.2 with ⟨rfl, hz⟩ | ⟨g, cap, cur, rfl, _, hh, h1, h2, _⟩
  · have : rs = [] := List.length_eq_zero_iff.1 (by omega)
    subst this
    exact ⟨none, 0, 0, 0, rfl, by simp, by simp, h0, by simp, by unfold maxLen; omega⟩
  · refine ⟨some ⟨g, 0, none⟩, cap, g, 0, by rw [hlen], fun _ => rfl, fun j hj => ?_, (Array.getElem?_eq_some_iff.1 hh).1, by omega, h2⟩
    have hjv : j < vs.length := by omega
    have h3 := h.cells (g := g) rfl j vs[j] (by simp [hjv])
    rw [show (⟨g, 0, none⟩ : Addr).add j = ⟨g, j, none⟩ by unfold Addr.add; split <;> simp_all] at h3
    obtain ⟨a, c, pb, po, hx, hr, hp, hq1, hq2, _, _⟩ := hl.2 j vs[j] rs[j] (List.getElem?_eq_getElem hjv) (List.getElem?_eq_getElem hj)
    refine ⟨vs[j], by rw [Nat.zero_add]; exact h3, ?_⟩
    rw [List.getElem?_eq_getElem hj]
    exact ⟨a, c, pb, po, hx, hr, hp, hq1, hq2⟩
theorem csl_len (n : Nat) (f : Nat → Nat → Bool) (j : Nat) : (csl n f j).length = (fsts n f j).length := by unfold csl; rw [List.length_map]
/-- What Right and Left answer, read. -/
theorem lists_sl {k : Nat} {args : Array Value} {w : World} {rs : List (List Int)} (h0 : 0 < w.heap.size) (h : Calls Tryd.prog k args w fun x w' => ∃ r vs, x = .returned (.tuple #[r, .agg #[.int .i64 0, .int .i64 0]]) ∧ w'.ownsRow w.heap.size 22 1 r vs.length vs ∧ Lsts w' w.heap.size r vs rs ∧ Below w.heap.size w w') :
    Calls Tryd.prog k args w fun x w' => ∃ r1 r2 r3, x = .returned (.tuple #[.slice r1 r2 r3, .agg #[.int .i64 0, .int .i64 0]]) ∧ SlL w' (.slice r1 r2 r3) rs ∧ Below w.heap.size w w' := by
  refine h.mono ?_
  rintro x w' ⟨r, vs, rfl, hrow, hls, hb⟩
  have hs := SlL.of_own hrow hls (Nat.lt_of_lt_of_le h0 hb.size)
  obtain ⟨a, l, c, rfl⟩ := hs.isSlice
  exact ⟨a, l, c, rfl, hs, hb⟩
end Go.Proofs.YtobnfbnholbfoaaDoor

namespace Go.Proofs.YtobnfbnholbfoaaDoor
open Go Go.RowKit

def z4 : List Int := [0, 1, 2, 3, 1, 2, 3, 0, 2, 3, 0, 1, 3, 0, 1, 2]
theorem z4_grp : IsGrp 4 z4 0 := by
  obtain ⟨n, e, hn, hg, _⟩ := gfault_grp (N := 4) (zs := z4) (by decide +kernel)
  obtain rfl : n = 4 := by omega
  have h1 := hg.one
  have h2 : one 4 z4 = 0 := by decide +kernel
  obtain rfl : e = 0 := by rw [h2] at h1; omega
  exact hg
theorem z4_lf : lfault 4 [0, 2] = (0, 0) := by decide +kernel
theorem z4_sub : subT 4 z4 0 (pset [0, 2]) = true := by decide +kernel
theorem z4_csl : csl 4 (rgtq 4 z4 (lst 4 (pset [0, 2]))) 4 = [[0, 2], [1, 3]] := by decide +kernel
end Go.Proofs.YtobnfbnholbfoaaDoor

namespace Go.Proofs.YtobnfbnholbfoaaDoor
open Go Go.RowKit

end Go.Proofs.YtobnfbnholbfoaaDoor

namespace Go.Proofs.YtobnfbnholbfoaaDoor
open Go Go.RowKit

end Go.Proofs.YtobnfbnholbfoaaDoor

namespace Go.Proofs.YtobnfbnholbfoaaDoor
open Go Go.RowKit

/-- The document's sets: of each thing its set, where it is the least one of it. -/
def rcs (n : Nat) (q : Nat → Nat → Bool) (j : Nat) : List (List Int) := ((List.range j).filter fun a => decide ((lst n (q a)).head? = some a)).map fun a => li (lst n (q a))
theorem rcs_yes {n j : Nat} {q : Nat → Nat → Bool} (h : (lst n (q j)).head? = some j) : rcs n q (j + 1) = rcs n q j ++ [li (lst n (q j))] := by
  unfold rcs
  rw [List.range_succ, List.filter_append, List.filter_cons, if_pos (by simpa using h), List.filter_nil, List.map_append]
  rfl
theorem rcs_no {n j : Nat} {q : Nat → Nat → Bool} (h : (lst n (q j)).head? ≠ some j) : rcs n q (j + 1) = rcs n q j := by
  unfold rcs
  rw [List.range_succ, List.filter_append, List.filter_cons, if_neg (by simpa using h), List.filter_nil, List.append_nil]
theorem rcs_len (n : Nat) (q : Nat → Nat → Bool) (j : Nat) : (rcs n q j).length ≤ j := by
  unfold rcs
  rw [List.length_map]
  exact Nat.le_trans (List.length_filter_le _ _) (by simp)
/-- The number that lies in a box. -/
def boxN (w : World) (i : Value) : Nat := match i with
  | .pointer (some a) => (intOf ((w.cell? a).getD (.int .i64 0))).toNat
  | _ => 0
theorem boxN_eq {w : World} {b j : Nat} (h : Boxed w b 3 (.int .i64 j)) : boxN w (.pointer (some ⟨b, 0, none⟩)) = j := by simp [boxN, h.cell, intOf]
theorem Lsts.ext {W : World} {B : Nat} {r : Value} {vs : List Value} {ls ms : List (List Int)} (h : Lsts W B r vs ls) (e : ms = ls) : Lsts W B r vs ms := by rw [e]; exact h
end Go.Proofs.YtobnfbnholbfoaaDoor

namespace Go.Proofs.YtobnfbnholbfoaaDoor
open Go Go.RowKit

/-- A box that is made anew, for the next round. -/
theorem newbox (W : World) (j : Nat) : Boxed (W.alloc (.cells #[.int .i64 ((j : Int) + 1)] 3)) W.heap.size 3 (.int .i64 ((j + 1 : Nat) : Int)) ∧ Below W.heap.size W (W.alloc (.cells #[.int .i64 ((j : Int) + 1)] 3)) :=
  ⟨Boxed.new W 3 (.int .i64 ((j : Int) + 1)), balloc W _⟩
end Go.Proofs.YtobnfbnholbfoaaDoor

namespace Go.Proofs.YtobnfbnholbfoaaDoor
open Go Go.RowKit

end Go.Proofs.YtobnfbnholbfoaaDoor

namespace Go.Proofs.YtobnfbnholbfoaaDoor
open Go Go.RowKit

/-- Sets, one for each thing: each has its thing, and is that of each of its things. -/
structure Prts (n : Nat) (f : Nat → Nat → Bool) : Prop where
  refl : ∀ a, a < n → f a a = true
  same : ∀ a b, a < n → b < n → f a b = true → ∀ c, c < n → f a c = f b c
theorem Prts.symm {n a b : Nat} {f : Nat → Nat → Bool} (h : Prts n f) (ha : a < n) (hb : b < n) (hf : f a b = true) : f b a = true := by
  rw [← h.same a b ha hb hf a ha]; exact h.refl a ha
theorem head_lst {n a : Nat} {p : Nat → Bool} : (lst n p).head? = some a ↔ a < n ∧ p a = true ∧ ∀ b, b < a → p b = false := by
  unfold lst
  rw [List.head?_filter, List.find?_range_eq_some]
  simp only [List.mem_range, Bool.not_eq_true']
  exact ⟨fun ⟨h1, h2, h3⟩ => ⟨h2, h1, h3⟩, fun ⟨h1, h2, h3⟩ => ⟨h2, h1, h3⟩⟩
theorem Prts.first {n a : Nat} {f : Nat → Nat → Bool} (h : Prts n f) (ha : a < n) : ((List.range a).all fun b => decide (bs (f b) n ≠ bs (f a) n)) = decide ((lst n (f a)).head? = some a) := by
  rw [Bool.eq_iff_iff, decide_eq_true_eq, head_lst]
  simp only [List.all_eq_true, List.mem_range, decide_eq_true_eq]
  constructor
  · intro hne
    refine ⟨ha, h.refl a ha, fun b hb => ?_⟩
    cases hab : f a b with
    | false => rfl
    | true => exact absurd (bs_ext fun c hc => (h.same a b ha (by omega) hab c hc).symm) (hne b hb)
  · rintro ⟨_, _, h3⟩ b hb he
    have h4 := bs_inj he b (by omega)
    rw [h.refl b (by omega), h3 b hb] at h4
    exact absurd h4 (by decide)
theorem Prts.fsts {n : Nat} {f : Nat → Nat → Bool} (h : Prts n f) : fsts n f n = (List.range n).filter fun a => decide ((lst n (f a)).head? = some a) := by
  unfold Go.Proofs.YtobnfbnholbfoaaDoor.fsts
  exact List.filter_congr fun a ha => h.first (List.mem_range.1 ha)
theorem Prts.csl_rcs {n : Nat} {f q : Nat → Nat → Bool} (h : Prts n f) (hq : ∀ a b, a < n → b < n → q a b = f a b) : csl n f n = rcs n q n := by
  have hl : ∀ a, a < n → lst n (q a) = lst n (f a) := fun a ha => lst_congr fun b hb => hq a b ha hb
  unfold csl rcs
  rw [h.fsts]
  have hf : ((List.range n).filter fun a => decide ((lst n (f a)).head? = some a)) = (List.range n).filter fun a => decide ((lst n (q a)).head? = some a) := List.filter_congr fun a ha => by rw [hl a (List.mem_range.1 ha)]
  rw [hf]
  exact List.map_congr_left fun a ha => by rw [hl a (List.mem_range.1 (List.mem_filter.1 ha).1)]
theorem Prts.card {n m : Nat} {f : Nat → Nat → Bool} (h : Prts n f) (hm : ∀ a, a < n → (lst n (f a)).length = m) : n = (csl n f n).length * m := by
  have hK : ∀ a, a ∈ Go.Proofs.YtobnfbnholbfoaaDoor.fsts n f n ↔ a < n ∧ (lst n (f a)).head? = some a := fun a => by
    rw [h.fsts, List.mem_filter, List.mem_range, decide_eq_true_eq]
  have hd : ∀ a, a < n → ∃ r, (lst n (f a)).head? = some r ∧ r < n ∧ f a r = true ∧ (lst n (f r)).head? = some r := fun a ha => by
    have hne : lst n (f a) ≠ [] := List.ne_nil_of_mem (mem_lst.2 ⟨ha, h.refl a ha⟩)
    obtain ⟨r, t, ht⟩ := List.exists_cons_of_ne_nil hne
    have hr : (lst n (f a)).head? = some r := by rw [ht]; rfl
    obtain ⟨h1, h2, h3⟩ := head_lst.1 hr
    refine ⟨r, hr, h1, h2, head_lst.2 ⟨h1, h.refl r h1, fun b hb => ?_⟩⟩
    rw [← h.same a r ha h1 h2 b (by omega)]
    exact h3 b hb
  have := Fin.fib_len (fun a => (lst n (f a)).head?.getD 0) m (Go.Proofs.YtobnfbnholbfoaaDoor.fsts n f n) (List.range n) (List.nodup_range.sublist List.filter_sublist) (fun x hx => by
    obtain ⟨r, hr, h1, _, h3⟩ := hd x (List.mem_range.1 hx)
    rw [hr]
    exact (hK r).2 ⟨h1, h3⟩) (fun k hk => by
    obtain ⟨hkn, hkh⟩ := (hK k).1 hk
    rw [← hm k hkn]
    unfold lst
    congr 1
    refine List.filter_congr fun x hx => ?_
    have hxn := List.mem_range.1 hx
    rw [Bool.eq_iff_iff, decide_eq_true_eq]
    constructor
    · intro he
      obtain ⟨r, hr, h1, h2, _⟩ := hd x hxn
      have hrk : r = k := by
        have h9 : (lst n (f x)).head?.getD 0 = k := he
        rw [hr] at h9
        exact h9
      subst hrk
      exact h.symm hxn h1 h2
    · intro he
      have : lst n (f x) = lst n (f k) := lst_congr fun c hc => (h.same k x hkn hxn he c hc).symm
      show (lst n (f x)).head?.getD 0 = k
      rw [this, hkh]; rfl)
  rw [List.length_range] at this
  rw [csl_len]
  exact this

section
variable {n e : Nat} {zs : List Int} {q : Nat → Bool}
theorem mem_rgt {xs : List Nat} {a y : Nat} : rgtq n zs xs a y = true ↔ ∃ x, x ∈ xs ∧ tm n zs x a = y := by
  unfold rgtq; simp only [List.any_eq_true, decide_eq_true_eq]
theorem mem_lft {xs : List Nat} {a y : Nat} : lftq n zs xs a y = true ↔ ∃ x, x ∈ xs ∧ tm n zs a x = y := by
  unfold lftq; simp only [List.any_eq_true, decide_eq_true_eq]
theorem sub_iv (g : IsGrp n zs e) (hs : subT n zs e q = true) {x : Nat} (hx : x < n) (hq : q x = true) : iv n zs e x < n ∧ q (iv n zs e x) = true := by
  obtain ⟨h1, h2, _, _⟩ := iv_spec g hx
  exact ⟨h1, (subT_iff.1 hs).inv (grp_fg g) (List.mem_range.2 hx) (List.mem_range.2 h1) h2 hq⟩
theorem sub_mul (hs : subT n zs e q = true) {x y : Nat} (hx : x < n) (hy : y < n) (h1 : q x = true) (h2 : q y = true) : q (tm n zs x y) = true :=
  (subT_iff.1 hs).mul x y (List.mem_range.2 hx) (List.mem_range.2 hy) h1 h2
/-- A right coset by what its things, by an inverse, are. -/
theorem rgt_iff (g : IsGrp n zs e) {a b : Nat} (ha : a < n) (hb : b < n) : rgtq n zs (lst n q) a b = decide (tm n zs b (iv n zs e a) ∈ lst n q) := by
  obtain ⟨h1, h2, h3, _⟩ := iv_spec g ha
  rw [Bool.eq_iff_iff, mem_rgt, decide_eq_true_eq]
  constructor
  · rintro ⟨x, hx, rfl⟩
    obtain ⟨hxn, _⟩ := mem_lst.1 hx
    rw [g.ass x a _ hxn ha h1, h2, g.right x hxn]
    exact hx
  · intro h
    exact ⟨_, h, by rw [g.ass b _ a hb h1 ha, h3, g.right b hb]⟩
theorem lft_iff (g : IsGrp n zs e) {a b : Nat} (ha : a < n) (hb : b < n) : lftq n zs (lst n q) a b = decide (tm n zs (iv n zs e a) b ∈ lst n q) := by
  obtain ⟨h1, h2, h3, _⟩ := iv_spec g ha
  rw [Bool.eq_iff_iff, mem_lft, decide_eq_true_eq]
  constructor
  · rintro ⟨x, hx, rfl⟩
    obtain ⟨hxn, _⟩ := mem_lst.1 hx
    rw [← g.ass _ a x h1 ha hxn, h3, g.left x hxn]
    exact hx
  · intro h
    exact ⟨_, h, by rw [← g.ass a _ b ha h1 hb, h2, g.left b hb]⟩
theorem rgt_parts (g : IsGrp n zs e) (hs : subT n zs e q = true) : Prts n (rgtq n zs (lst n q)) where
  refl := fun a ha => mem_rgt.2 ⟨e, mem_lst.2 ⟨g.elt, (subT_iff.1 hs).one⟩, g.left a ha⟩
  same := fun a b ha hb hab c hc => by
    obtain ⟨x, hx, rfl⟩ := mem_rgt.1 hab
    obtain ⟨hxn, hqx⟩ := mem_lst.1 hx
    obtain ⟨i1, i2⟩ := sub_iv g hs hxn hqx
    obtain ⟨_, i3, i4, _⟩ := iv_spec g hxn
    rw [Bool.eq_iff_iff, mem_rgt, mem_rgt]
    constructor
    · rintro ⟨y, hy, rfl⟩
      obtain ⟨hyn, hqy⟩ := mem_lst.1 hy
      refine ⟨tm n zs y (iv n zs e x), mem_lst.2 ⟨tm_lt g.tab hyn i1, sub_mul hs hyn i1 hqy i2⟩, ?_⟩
      rw [g.ass y _ _ hyn i1 hb, ← g.ass _ x a i1 hxn ha, i4, g.left a ha]
    · rintro ⟨y, hy, rfl⟩
      obtain ⟨hyn, hqy⟩ := mem_lst.1 hy
      exact ⟨tm n zs y x, mem_lst.2 ⟨tm_lt g.tab hyn hxn, sub_mul hs hyn hxn hqy hqx⟩, g.ass y x a hyn hxn ha⟩
theorem lft_parts (g : IsGrp n zs e) (hs : subT n zs e q = true) : Prts n (lftq n zs (lst n q)) where
  refl := fun a ha => mem_lft.2 ⟨e, mem_lst.2 ⟨g.elt, (subT_iff.1 hs).one⟩, g.right a ha⟩
  same := fun a b ha hb hab c hc => by
    obtain ⟨x, hx, rfl⟩ := mem_lft.1 hab
    obtain ⟨hxn, hqx⟩ := mem_lst.1 hx
    obtain ⟨i1, i2⟩ := sub_iv g hs hxn hqx
    obtain ⟨_, i3, i4, _⟩ := iv_spec g hxn
    rw [Bool.eq_iff_iff, mem_lft, mem_lft]
    constructor
    · rintro ⟨y, hy, rfl⟩
      obtain ⟨hyn, hqy⟩ := mem_lst.1 hy
      refine ⟨tm n zs (iv n zs e x) y, mem_lst.2 ⟨tm_lt g.tab i1 hyn, sub_mul hs i1 hyn i2 hqy⟩, ?_⟩
      rw [← g.ass _ _ y hb i1 hyn, g.ass a x _ ha hxn i1, i3, g.right a ha]
    · rintro ⟨y, hy, rfl⟩
      obtain ⟨hyn, hqy⟩ := mem_lst.1 hy
      exact ⟨tm n zs x y, mem_lst.2 ⟨tm_lt g.tab hxn hyn, sub_mul hs hxn hyn hqx hqy⟩, (g.ass a x y ha hxn hyn).symm⟩
theorem rgt_size (g : IsGrp n zs e) {a : Nat} (ha : a < n) : (lst n (rgtq n zs (lst n q) a)).length = (lst n q).length := by
  symm
  refine Fin.bij_len (fun x => tm n zs x a) (List.nodup_range.sublist List.filter_sublist) (List.nodup_range.sublist List.filter_sublist) (fun x hx => ?_) (fun x y hx hy h => ?_) (fun y hy => ?_)
  · exact mem_lst.2 ⟨tm_lt g.tab (mem_lst.1 hx).1 ha, mem_rgt.2 ⟨x, hx, rfl⟩⟩
  · obtain ⟨h1, h2, _, _⟩ := iv_spec g ha
    have h9 : tm n zs (tm n zs x a) (iv n zs e a) = tm n zs (tm n zs y a) (iv n zs e a) := by
      have h8 : tm n zs x a = tm n zs y a := h
      rw [h8]
    rw [g.ass x a _ (mem_lst.1 hx).1 ha h1, g.ass y a _ (mem_lst.1 hy).1 ha h1, h2, g.right x (mem_lst.1 hx).1, g.right y (mem_lst.1 hy).1] at h9
    exact h9
  · obtain ⟨x, hx, he⟩ := mem_rgt.1 (mem_lst.1 hy).2
    exact ⟨x, hx, he⟩
theorem lft_size (g : IsGrp n zs e) {a : Nat} (ha : a < n) : (lst n (lftq n zs (lst n q) a)).length = (lst n q).length := by
  symm
  refine Fin.bij_len (fun x => tm n zs a x) (List.nodup_range.sublist List.filter_sublist) (List.nodup_range.sublist List.filter_sublist) (fun x hx => ?_) (fun x y hx hy h => ?_) (fun y hy => ?_)
  · exact mem_lst.2 ⟨tm_lt g.tab ha (mem_lst.1 hx).1, mem_lft.2 ⟨x, hx, rfl⟩⟩
  · exact (grp_fg g).can (List.mem_range.2 ha) (List.mem_range.2 (mem_lst.1 hx).1) (List.mem_range.2 (mem_lst.1 hy).1) h
  · obtain ⟨x, hx, he⟩ := mem_lft.1 (mem_lst.1 hy).2
    exact ⟨x, hx, he⟩
end
end Go.Proofs.YtobnfbnholbfoaaDoor

namespace Go.Proofs.YtobnfbnholbfoaaDoor
open Go Go.RowKit Go.Maps

/-- The number of a thing's set. -/
def num (n : Nat) (f : Nat → Nat → Bool) (a : Nat) : Nat := (fsts n f (((List.range n).find? fun b => decide (bs (f b) n = bs (f a) n)).getD 0)).length
theorem num_same {n a b : Nat} {f : Nat → Nat → Bool} (h : bs (f a) n = bs (f b) n) : num n f a = num n f b := by unfold num; rw [h]
theorem num_new {n j : Nat} {f : Nat → Nat → Bool} (hj : j < n) (h : (List.range j).all (fun b => decide (bs (f b) n ≠ bs (f j) n)) = true) : num n f j = (fsts n f j).length := by
  unfold num
  have : ((List.range n).find? fun b => decide (bs (f b) n = bs (f j) n)) = some j := by
    rw [List.find?_range_eq_some]
    refine ⟨by simp, List.mem_range.2 hj, fun b hb => ?_⟩
    have := List.all_eq_true.1 h b (List.mem_range.2 hb)
    simpa using this
  rw [this]; rfl
/-- The numbers that the map has. -/
def MNum (n : Nat) (f : Nat → Nat → Bool) (j : Nat) (D : DataW Unit) : Prop := ∀ a, a < j → D.atKey (.int .u64 (bs (f a) n : Nat)) (.lit (.int .i64 0)) = .lit (.int .i64 (num n f a : Nat))
theorem mnum_step {n j : Nat} {f : Nat → Nat → Bool} {D : DataW Unit} (h : MNum n f j D) (hD : IsMap D) (hj : j < n) (hnew : (List.range j).all (fun b => decide (bs (f b) n ≠ bs (f j) n)) = true) : MNum n f (j + 1) (D.put (.int .u64 (bs (f j) n : Nat)) (.lit (.int .i64 ((fsts n f j).length : Nat)))) := by
  intro a ha
  by_cases e : a = j
  · subst e
    rw [atKey_put_same hD (by trivial), num_new hj hnew]
  · have hne := List.all_eq_true.1 hnew a (List.mem_range.2 (by omega))
    rw [atKey_put_other (fun h9 => by injection h9 with _ h9; simp at hne; omega)]
    exact h a (by omega)
theorem mnum_same {n j : Nat} {f : Nat → Nat → Bool} {D : DataW Unit} (h : MNum n f j D) (hs : ∃ a, a < j ∧ bs (f a) n = bs (f j) n) : MNum n f (j + 1) D := by
  obtain ⟨b, hb, e⟩ := hs
  intro a ha
  by_cases e9 : a = j
  · subst e9
    have := h b hb
    rw [e, num_same e] at this
    exact this
  · exact h a (by omega)
end Go.Proofs.YtobnfbnholbfoaaDoor

namespace Go.Proofs.YtobnfbnholbfoaaDoor
open Go Go.RowKit

/-- Which of the lists has a number first. -/
def whichI (rs : List (List Int)) (a : Int) : Int := if rs.findIdx (fun y => decide (a ∈ y)) < rs.length then (rs.findIdx (fun y => decide (a ∈ y)) : Int) else -1
theorem whichI_at {rs : List (List Int)} {a : Int} {k : Nat} (hk : k < rs.length) (h : a ∈ rs[k]?.getD []) (hno : ∀ t, t < k → ¬ a ∈ rs[t]?.getD []) : whichI rs a = k := by
  have h1 : rs.findIdx (fun y => decide (a ∈ y)) = k := by
    rw [List.findIdx_eq hk]
    rw [List.getElem?_eq_getElem hk] at h
    refine ⟨by simpa using h, fun t ht => ?_⟩
    have := hno t ht
    rw [List.getElem?_eq_getElem (by omega)] at this
    simpa using this
  unfold whichI
  rw [h1, if_pos hk]
theorem whichI_no {rs : List (List Int)} {a : Int} (hno : ∀ t, t < rs.length → ¬ a ∈ rs[t]?.getD []) : whichI rs a = -1 := by
  unfold whichI
  rw [if_neg]
  intro h
  have h2 := List.findIdx_getElem (w := h)
  have := hno _ h
  rw [List.getElem?_eq_getElem h] at this
  simp at this h2
  exact this h2
end Go.Proofs.YtobnfbnholbfoaaDoor

namespace Go.Proofs.YtobnfbnholbfoaaDoor
open Go Go.RowKit

theorem clq_iff {n e x y : Nat} {zs : List Int} : clq n zs e x y = true ↔ ∃ a, a < n ∧ Fin.cj (tm n zs) (iv n zs e) x a = y := clk_iff
theorem clq_parts {n e : Nat} {zs : List Int} (g : IsGrp n zs e) : Prts n (clq n zs e) where
  refl a ha := clq_iff.2 ⟨e, g.elt, Fin.cj_id (grp_fg g) (grp_iv g) (List.mem_range.2 ha)⟩
  same a b ha hb h c _ := by
    have hG := grp_fg g
    have hV := grp_iv g
    obtain ⟨s, hs, rfl⟩ := clq_iff.1 h
    have ha' := List.mem_range.2 ha
    have hs' := List.mem_range.2 hs
    rw [Bool.eq_iff_iff, clq_iff, clq_iff]
    constructor
    · rintro ⟨t, ht, rfl⟩
      have ht' := List.mem_range.2 ht
      have hi' := (hV s hs').1
      refine ⟨tm n zs (iv n zs e s) t, List.mem_range.1 (hG.cl _ _ hi' ht'), ?_⟩
      rw [← Fin.cj_cj hG hV (Fin.cj_mem hG hV ha' hs') hi' ht', (Fin.cj_back hG hV ha' hs').1]
    · rintro ⟨t, ht, rfl⟩
      have ht' := List.mem_range.2 ht
      exact ⟨tm n zs s t, List.mem_range.1 (hG.cl _ _ hs' ht'), (Fin.cj_cj hG hV ha' hs' ht').symm⟩
/-- Is y in one of the sets of the first k things? -/
def mt (f : Nat → Nat → Bool) (k y : Nat) : Bool := (List.range k).any fun a => f a y
theorem mt_iff {f : Nat → Nat → Bool} {k y : Nat} : mt f k y = true ↔ ∃ a, a < k ∧ f a y = true := by
  unfold mt
  simp [List.any_eq_true, List.mem_range]
theorem mt_succ {f : Nat → Nat → Bool} {k y : Nat} : mt f (k + 1) y = (mt f k y || f k y) := by
  unfold mt
  rw [List.range_succ, List.any_append]
  simp
theorem Prts.mt_head {n k : Nat} {f : Nat → Nat → Bool} (h : Prts n f) (hk : k < n) : mt f k k = false ↔ (lst n (f k)).head? = some k := by
  rw [head_lst]
  constructor
  · intro h1
    refine ⟨hk, h.refl k hk, fun b hb => Bool.eq_false_iff.2 fun h2 => ?_⟩
    exact Bool.eq_false_iff.1 h1 (mt_iff.2 ⟨b, hb, h.symm hk (by omega) h2⟩)
  · rintro ⟨_, _, h1⟩
    refine Bool.eq_false_iff.2 fun h2 => ?_
    obtain ⟨a, ha, h3⟩ := mt_iff.1 h2
    exact Bool.eq_false_iff.1 (h1 a ha) (h.symm (by omega) hk h3)
theorem Prts.mt_old {n k y : Nat} {f : Nat → Nat → Bool} (h : Prts n f) (hk : k < n) (hy : y < n) (hm : mt f k k = true) : mt f (k + 1) y = mt f k y := by
  obtain ⟨a, ha, h3⟩ := mt_iff.1 hm
  rw [mt_succ]
  cases h4 : f k y with
  | false => simp
  | true =>
    have h5 : f a y = true := by rw [h.same a k (by omega) hk h3 y hy]; exact h4
    rw [mt_iff.2 ⟨a, ha, h5⟩]; rfl
theorem Prts.bs_same {n a b : Nat} {f : Nat → Nat → Bool} (h : Prts n f) (ha : a < n) (hb : b < n) (hf : f a b = true) : bs (f a) n = bs (f b) n := bs_ext fun c hc => h.same a b ha hb hf c hc
theorem Prts.num_in {n a b : Nat} {f : Nat → Nat → Bool} (h : Prts n f) (ha : a < n) (hb : b < n) (hf : f a b = true) : num n f b = num n f a := (num_same (h.bs_same ha hb hf)).symm
theorem Prts.fsts_lt {n k : Nat} {f : Nat → Nat → Bool} (h : Prts n f) (hk : k ≤ n) : Go.Proofs.YtobnfbnholbfoaaDoor.fsts n f k = (List.range k).filter fun a => decide ((lst n (f a)).head? = some a) := by
  unfold Go.Proofs.YtobnfbnholbfoaaDoor.fsts
  exact List.filter_congr fun a ha => h.first (by have := List.mem_range.1 ha; omega)
theorem Prts.num_first {n k : Nat} {f : Nat → Nat → Bool} (h : Prts n f) (hk : k < n) (hh : (lst n (f k)).head? = some k) : num n f k = (rcs n f k).length := by
  rw [num_new hk (by rw [h.first hk]; simpa using hh), h.fsts_lt (by omega)]
  unfold rcs
  rw [List.length_map]
/-- What stands at y among the numbers, once the first k things are met. -/
def nmk (n : Nat) (f : Nat → Nat → Bool) (k y : Nat) : Int := if mt f k y then (num n f y : Int) else 0
abbrev nml (n : Nat) (f : Nat → Nat → Bool) (k : Nat) : List Int := (List.range n).map (nmk n f k)
theorem nml_len (n : Nat) (f : Nat → Nat → Bool) (k : Nat) : (nml n f k).length = n := by simp
theorem nml_zero (n : Nat) (f : Nat → Nat → Bool) : nml n f 0 = List.replicate n 0 := by
  apply List.ext_getElem
  · simp
  · intro i h1 h2
    simp [nmk, mt]
theorem Prts.nml_old {n k : Nat} {f : Nat → Nat → Bool} (h : Prts n f) (hk : k < n) (hm : mt f k k = true) : nml n f (k + 1) = nml n f k := by
  refine List.map_congr_left fun y hy => ?_
  unfold nmk
  rw [h.mt_old hk (List.mem_range.1 hy) hm]
theorem Prts.nml_all {n : Nat} {f : Nat → Nat → Bool} (h : Prts n f) : nml n f n = li ((List.range n).map (num n f)) := by
  unfold li
  rw [List.map_map]
  refine List.map_congr_left fun y hy => ?_
  have := List.mem_range.1 hy
  unfold nmk
  rw [if_pos (mt_iff.2 ⟨y, this, h.refl y this⟩)]
  rfl
/-- The numbers, while those of the set of k are written. -/
abbrev nmt (n : Nat) (f : Nat → Nat → Bool) (k : Nat) (xs : List Nat) (c : Int) : List Int := (List.range n).map fun y => if y ∈ xs then c else nmk n f k y
theorem nmt_nil (n : Nat) (f : Nat → Nat → Bool) (k : Nat) (c : Int) : nmt n f k [] c = nml n f k := by
  refine List.map_congr_left fun y _ => ?_
  simp
theorem map_set (n y : Nat) (F : Nat → Int) (c : Int) : ((List.range n).map F).set y c = (List.range n).map fun z => if z = y then c else F z := by
  apply List.ext_getElem
  · simp
  · intro i h1 h2
    rw [List.getElem_set]
    simp only [List.getElem_map, List.getElem_range]
    by_cases e : y = i
    · subst e; simp
    · rw [if_neg e, if_neg (fun h => e h.symm)]
theorem nmt_set (n : Nat) (f : Nat → Nat → Bool) (k : Nat) (xs : List Nat) (c : Int) (y : Nat) : (nmt n f k xs c).set y c = nmt n f k (xs ++ [y]) c := by
  rw [map_set]
  refine List.map_congr_left fun z _ => ?_
  by_cases e : z = y
  · subst e; simp
  · rw [if_neg e]; simp [e]
theorem Prts.nmt_all {n k : Nat} {f : Nat → Nat → Bool} (h : Prts n f) (hk : k < n) (hm : mt f k k = false) : nmt n f k (lst n (f k)) ((rcs n f k).length : Nat) = nml n f (k + 1) := by
  have hh := (h.mt_head hk).1 hm
  refine List.map_congr_left fun y hy => ?_
  have hy := List.mem_range.1 hy
  unfold nmk
  rw [mt_succ]
  by_cases e : f k y = true
  · rw [if_pos (mem_lst.2 ⟨hy, e⟩), e, Bool.or_true, if_pos rfl, h.num_in hk hy e, h.num_first hk hh]
  · rw [if_neg (fun h9 => e (mem_lst.1 h9).2), Bool.eq_false_iff.2 e, Bool.or_false]
theorem num_lt_rcs {n y : Nat} {f : Nat → Nat → Bool} (h : Prts n f) (hy : y < n) : ∃ k, k < n ∧ f k y = true ∧ (lst n (f k)).head? = some k := by
  have hne : lst n (f y) ≠ [] := List.ne_nil_of_mem (mem_lst.2 ⟨hy, h.refl y hy⟩)
  cases hl : (lst n (f y)).head? with
  | none => rw [List.head?_eq_none_iff] at hl; exact absurd hl hne
  | some k =>
    have h1 := head_lst.1 hl
    refine ⟨k, h1.1, h.symm hy h1.1 h1.2.1, head_lst.2 ⟨h1.1, h.refl k h1.1, fun b hb => ?_⟩⟩
    rw [← h.same y k hy h1.1 h1.2.1 b (by omega)]
    exact h1.2.2 b hb
end Go.Proofs.YtobnfbnholbfoaaDoor

namespace Go.Proofs.YtobnfbnholbfoaaDoor
open Go Go.RowKit Go.Maps

theorem call126 (b : Int) (x y : Value) (W : World) : Sem.run Tryd.prog (callFunc 62 (#[.int .i64 b] ++ #[x, y])) W = .ok (.enter 62 (#[.int .i64 b] ++ #[x, y])) W := by kernel_rfl
set_option maxRecDepth 100000 in
set_option maxHeartbeats 2000000 in
theorem cs1_ok (k a b fb ab : Nat) (caps : Array Value) (r : Bool) (w : World) (hF : Boxed w fb 74 (.func (.func k) #[] caps)) (hA : Boxed w ab 3 (.int .i64 a))
    (hcall : ∀ W, Sem.run Tryd.prog (callFunc k (#[.int .i64 a, .int .i64 b] ++ caps)) W = .ok (.enter k (#[.int .i64 a, .int .i64 b] ++ caps)) W)
    (hp : Calls Tryd.prog k (#[.int .i64 a, .int .i64 b] ++ caps) w fun e w' => e = .returned (.bool r) ∧ Below w.heap.size w w') :
    Calls Tryd.prog 62 (#[.int .i64 b] ++ #[.pointer (some ⟨fb, 0, none⟩), .pointer (some ⟨ab, 0, none⟩)]) w fun e w' => e = .returned (.bool r) ∧ Below w.heap.size w w' := by
  show Calls Tryd.prog 62 #[.int .i64 b, .pointer (some ⟨fb, 0, none⟩), .pointer (some ⟨ab, 0, none⟩)] w _
  have c0 := hF.cell
  have c1 := hA.cell
  have HP := hide hp
  clear hp
  go_enter Tryd.func62, Tryd.ntmps62
  go_wp2_with fail
  refine HP.out.mono ?_
  rintro x w1 ⟨rfl, hb1⟩
  go_wp2
  go_ret
  exact ⟨rfl, hb1⟩

set_option maxRecDepth 100000 in
set_option maxHeartbeats 8000000 in
theorem cosets_ok (n k : Nat) (v : Value) (caps : Array Value) (q : Nat → Nat → Bool) (w : World) (hn : n ≤ 60)
    (hcall : ∀ a b W, Sem.run Tryd.prog (callFunc k (#[.int .i64 a, .int .i64 b] ++ caps)) W = .ok (.enter k (#[.int .i64 a, .int .i64 b] ++ caps)) W)
    (hp : ∀ (W : World) (a b : Nat), Below w.heap.size w W → a < n → b < n → Calls Tryd.prog k (#[.int .i64 a, .int .i64 b] ++ caps) W fun e w' => e = .returned (.bool (q a b)) ∧ Below W.heap.size W w') :
    Calls Tryd.prog 42 #[.agg #[.int .i64 n, v], .func (.func k) #[] caps] w fun x w' => ∃ r vs, x = .returned r ∧ w'.ownsRow w.heap.size 22 1 r vs.length vs ∧ Lsts w' w.heap.size r vs (rcs n q n) ∧ Below w.heap.size w w' := by
  obtain ⟨i0, hi, hz0, hz1, hz2⟩ := info_parts info22b
  have HP := hide hp
  have HC := hide hcall
  clear hp hcall
  obtain ⟨W0, hW0⟩ : ∃ W0, W0 = (w.alloc (.cells #[.int .i64 n, v] 24)).alloc (.cells #[.func (.func k) #[] caps] 74) := ⟨_, rfl⟩
  have hs0 : W0.heap.size = w.heap.size + 1 + 1 := by rw [hW0]; simp
  have hX0 : BoxG W0 w.heap.size n v := by rw [hW0]; exact (blk0 (w := w) (T := 24) _ _).alloc _
  have hF0 : Boxed W0 (w.heap.size + 1) 74 (.func (.func k) #[] caps) := by
    have h := Boxed.new (w.alloc (.cells #[.int .i64 n, v] 24)) 74 (.func (.func k) #[] caps)
    rw [World.size_alloc, ← hW0] at h
    exact h
  have hb0 : Below w.heap.size w W0 := by rw [hW0]; exact (balloc w _).alloc (by simp) _
  have hP1 : Boxed (W0.alloc (.cells #[.int .i64 0] 3)) (w.heap.size + 1 + 1) 3 (.int .i64 (0 : Nat)) := by
    rw [← hs0]; exact Boxed.new W0 3 (.int .i64 0)
  have hb1 : Below W0.heap.size W0 (W0.alloc (.cells #[.int .i64 0] 3)) := balloc W0 _
  have hX1 := blk_below hX0 hb1
  have hF1 := Boxed.below hF0 hb1
  have hB1 := bcat2 hb0 hb1
  rw [hW0] at hP1 hX1 hF1 hB1
  clear hX0 hF0 hb0 hb1 hs0 hW0
  go_enter Tryd.func42, Tryd.ntmps42
  go_wp2
  go_loopw [5, 6] (fun r i wr => ∃ (j pb : Nat) (vs : List Value), j ≤ n ∧ i = .pointer (some ⟨pb, 0, none⟩) ∧ Boxed wr pb 3 (.int .i64 j) ∧ w.heap.size + 1 < pb ∧ wr.ownsRow (w.heap.size + 1 + 1) 22 1 r vs.length vs ∧ Lsts wr (w.heap.size + 1 + 1) r vs (rcs n q j) ∧ BoxG wr w.heap.size n v ∧ Boxed wr (w.heap.size + 1) 74 (.func (.func k) #[] caps) ∧ Below w.heap.size w wr) (fun _ i wr => n - boxN wr i)
  case atStart => exact ⟨0, w.heap.size + 1 + 1, [], Nat.zero_le _, rfl, hP1, by omega, World.ownsRow_nil _ _ _ _, ⟨rfl, fun t x l h => by simp at h⟩, hX1, hF1, hB1⟩
  case round =>
    clear hP1 hX1 hF1 hB1
    obtain ⟨j, pb, vs, hj, rfl, hP, hpb, hrow, hls, hX, hF, hB⟩ := hrel
    obtain ⟨ra, rcap, rfl⟩ := own_slice' hrow
    obtain ⟨c0, c1, _, _⟩ := hX.two
    have c2 := hP.cell
    by_cases hlt : j < n
    · have hji : (j : Int) < (n : Int) := by omega
      go_wp2_with fail
      refine (rthose_ok n 62 v #[.pointer (some ⟨w.heap.size + 1, 0, none⟩), .pointer (some ⟨pb, 0, none⟩)] (q j) wr hn (fun a W => call126 a _ _ W) (fun W b hW hb => cs1_ok k j b (w.heap.size + 1) pb caps (q j b) W (Boxed.below hF hW) (Boxed.below hP hW) (fun W => HC.out j b W) (HP.out W j b (bcat2 hB hW) hlt hb))).mono ?_
      rintro x w1 ⟨c, rfl, hc, hb1⟩
      clear c0 c1 c2
      have hP1 := Boxed.below hP hb1
      have hX1 := blk_below hX hb1
      have hF1 := Boxed.below hF hb1
      have hB1 := bcat2 hB hb1
      have hrow1 := hrow.kept (below_grown hb1 none) (by cases ra <;> simp [Value.ownBlock])
      have hls1 : Lsts w1 (w.heap.size + 1 + 1) (.slice ra vs.length rcap) vs (rcs n q j) := hls.keep hb1.size (fun g _ h2 _ => hb1.block g h2) (.inl rfl)
      have hown1 : ∀ g, (Value.slice ra vs.length rcap).ownBlock = some g → g < wr.heap.size := fun g hg => by
        rcases hrow.2 with ⟨h1, _⟩ | ⟨g', cap, cur, h1, _, hh9, _⟩
        · rw [h1] at hg; simp [Value.ownBlock] at hg
        · rw [h1] at hg
          simp [Value.ownBlock] at hg
          subst hg
          exact (Array.getElem?_eq_some_iff.1 hh9).1
      have hwr : w.heap.size + 1 + 1 ≤ wr.heap.size := by have := hP.lt; omega
      have hb1s := hb1.size
      have HPW := hide hP
      clear hP hX hF hB hrow hls hb1
      have c2 := hP1.cell
      have hvl : vs.length ≤ j := by rw [hls1.1]; exact rcs_len n q j
      cases hl : lst n (q j) with
      | nil =>
        have hc : w1.ownsRow wr.heap.size 3 1 c 0 [] := by rw [hl] at hc; exact hc
        have HE := hide (rcs_no (n := n) (j := j) (q := q) (by rw [hl]; simp))
        obtain ⟨ca, ccap, rfl⟩ := own_slice' hc
        go_wp2_with fail
        go_quiet (fail)
        have hbq : Below w1.heap.size w1 (w1.drewN nq) := bdrewN (Below.refl _ w1) nq
        generalize w1.drewN nq = wq at hbq ⊢
        clear c2
        have hP1 := Boxed.below hP1 hbq
        have hX1 := blk_below hX1 hbq
        have hF1 := Boxed.below hF1 hbq
        have hB1 := bcat2 hB1 hbq
        have hrow1 := hrow1.kept (below_grown hbq none) (by cases ra <;> simp [Value.ownBlock])
        have hls1 := hls1.keep (r' := .slice ra (vs.length) rcap) hbq.size (fun g _ h2 _ => hbq.block g h2) (.inl rfl)
        have c2 := hP1.cell
        have hqs : w.heap.size + 1 < wq.heap.size := by have := hbq.size; omega
        obtain ⟨hN1, hN2⟩ := newbox wq j
        go_wp2
        go_roundw
        case rel => exact ⟨j + 1, wq.heap.size, vs, by omega, rfl, hN1, by omega, hrow1.kept (below_grown hN2 none) (by cases ra <;> simp [Value.ownBlock]), by rw [HE.out]; exact hls1.keep (r' := .slice ra (vs.length) rcap) hN2.size (fun g _ h2 _ => hN2.block g h2) (.inl rfl), blk_below hX1 hN2, Boxed.below hF1 hN2, bcat2 hB1 hN2⟩
        case measure =>
          show n - boxN _ (Value.pointer (some ⟨wq.heap.size, 0, none⟩)) < n - boxN wr (Value.pointer (some ⟨pb, 0, none⟩))
          rw [boxN_eq hN1, boxN_eq HPW.out]
          omega
      | cons x t =>
        have hc : w1.ownsRow wr.heap.size 3 1 c (t.length + 1) ((li (x :: t)).map (Value.int .i64)) := by rw [hl] at hc; simpa [Row, li] using hc
        obtain ⟨cg, ccap, rfl⟩ := ownsRow_succ hc
        have hcF : SlF wr.heap.size w1 (.slice (some ⟨cg, 0, none⟩) (t.length + 1) ccap) (li (x :: t)) := SlF.of_own (by simp [li]) hc
        obtain ⟨qa, qcap, qb, qo, hqe, hq, hq1, hq2, hq3, hq4⟩ := hcF
        have hx0 := hq.cell 0 (by simp [li])
        have hqa : qa = some ⟨cg, 0, none⟩ := by injection hqe with h1; exact h1.symm
        have hqc : qcap = ccap := by injection hqe with _ _ h1; exact h1.symm
        have hqb : qb = cg ∧ qo = 0 := by
          have := hq.at_ (by simp [li])
          rw [hqa] at this
          injection this with h1
          injection h1 with h1 h2
          exact ⟨h1.symm, h2.symm⟩
        obtain ⟨rfl, rfl⟩ := hqb
        subst hqa hqc
        simp only [li, List.map_cons, List.getElem?_cons_zero, Option.getD_some, Nat.add_zero] at hx0
        have hxh : (lst n (q j)).head? = some x := by rw [hl]; rfl
        have HQ := hide hq
        clear hq hqe hc
        have hlen0 : ((0 : Nat) : Int) < ((t.length + 1 : Nat) : Int) := by omega
        by_cases hxj : x = j
        · subst hxj
          have HE := hide (rcs_yes (n := n) (j := x) (q := q) hxh)
          go_wp2_with fail
          go_quiet (fail)
          have hbq : Below w1.heap.size w1 (w1.drewN nq) := bdrewN (Below.refl _ w1) nq
          generalize w1.drewN nq = wq at hbq ⊢
          clear c2 hx0
          have hP1 := Boxed.below hP1 hbq
          have hX1 := blk_below hX1 hbq
          have hF1 := Boxed.below hF1 hbq
          have hB1 := bcat2 hB1 hbq
          have hrow1 := hrow1.kept (below_grown hbq none) (by cases ra <;> simp [Value.ownBlock])
          have hls1 := hls1.keep (r' := .slice ra (vs.length) rcap) hbq.size (fun g _ h2 _ => hbq.block g h2) (.inl rfl)
          have hqw : Reads wq (some ⟨qb, 0, none⟩) qb 0 (li (x :: t)) := HQ.out.of_eq (hbq.block qb hq1)
          have hq1 : qb < wq.heap.size := Nat.lt_of_lt_of_le hq1 hbq.size
          have hq2 : t.length + 1 ≤ qcap := by simpa [li] using hq2
          have HQW := hide hqw
          have hqz : w.heap.size + 1 + 1 ≤ wq.heap.size := by have := hbq.size; omega
          have hqs := hbq.size
          clear hqw hbq HQ
          go_wp2_with (first
            | (at_builtin; refine wpList_append_own_at _ rfl _ _ 25 rfl (w.heap.size + 1 + 1) 22 i0 (.slice none 0 0) 1 24 under25b hi hz0 hz1 hz2 rfl (by decide) _ _ _ rfl (World.ownsRow.alloc hrow1 _) ⟨wq.heap.size, 0, none⟩ 1 1 [.slice (some ⟨qb, 0, none⟩) (t.length + 1) qcap] rfl rfl ?c1 ?c2 ?c3 ?c4 ?c5 ?_))
          case c1 => exact cell_one_new _ _ _
          case c2 => simp [Value.oneCell']
          case c3 => unfold maxLen; omega
          case c4 => omega
          case c5 => simp; omega
          intro v' w4 hown' hgrow hnil hloc
          obtain ⟨ra', rcap', rfl⟩ := own_slice' hown'
          have hB4 : Below w.heap.size w w4 := (hB1.alloc hB1.size _).grown hgrow (by simp; omega) (fun t e => by have := owns_ge hrow1 t e; omega)
          have hbl : ∀ g, g < wq.heap.size → (Value.slice ra vs.length rcap).ownBlock ≠ some g → w4.heap[g]? = wq.heap[g]? := fun g h1 h2 => (hgrow.block g (by simp; omega) (fun e => h2 e.symm)).trans (Below.block (balloc wq _) g h1)
          have hs4 : wq.heap.size < w4.heap.size := by have := hgrow.size; simp at this; omega
          have hlo : (Value.slice ra' (vs.length + 1) rcap').ownBlock = (Value.slice ra vs.length rcap).ownBlock ∨ ∀ g, (Value.slice ra' (vs.length + 1) rcap').ownBlock = some g → wq.heap.size ≤ g := by
            rcases hloc with h | h
            · exact .inl h
            · right; intro g hg; rw [h] at hg; simp at hg; omega
          have hle : (li (x :: t)).length = t.length + 1 := by simp [li]
          have hls4 := (hls1.keep (r' := .slice ra' (vs.length + 1) rcap') (by omega) (fun g _ h2 h3 => hbl g h2 h3) hlo).snoc (x := .slice (some ⟨qb, 0, none⟩) (t.length + 1) qcap) (l := li (x :: t)) ⟨some ⟨qb, 0, none⟩, qcap, qb, 0, by rw [hle], HQW.out.of_eq (hbl qb hq1 (fun e => by have := hown1 _ e; omega)), by omega, by rw [hle]; exact hq2, hq3, by omega, fun g hg e => by
            subst e
            rcases hlo with h | h
            · have := hown1 _ (h ▸ hg); omega
            · have := h _ hg; omega⟩
          have hrow4 : w4.ownsRow (w.heap.size + 1 + 1) 22 1 (.slice ra' (vs.length + 1) rcap') (vs ++ [Value.slice (some ⟨qb, 0, none⟩) (t.length + 1) qcap]).length (vs ++ [Value.slice (some ⟨qb, 0, none⟩) (t.length + 1) qcap]) := by simpa using hown'
          have hP4 := Boxed.kept (Boxed.alloc hP1 _) hgrow (hP1.not_row (by decide) hrow1)
          have hF4 := Boxed.kept (Boxed.alloc hF1 _) hgrow (hF1.not_row (by decide) hrow1)
          have hX4 : BoxG w4 w.heap.size n v := hX1.of_eq (hbl _ (by omega) (fun e => by have := owns_ge hrow1 _ e; omega))
          clear hown' hgrow hloc hlo hbl hrow1 hls1 hP1 hF1 hX1 hB1
          have c2 := hP4.cell
          obtain ⟨hN1, hN2⟩ := newbox w4 x
          have hlv : (vs ++ [Value.slice (some ⟨qb, 0, none⟩) (t.length + 1) qcap]).length = vs.length + 1 := by simp
          rw [hlv] at hrow4
          go_wp2
          go_roundw
          case rel => exact ⟨x + 1, w4.heap.size, vs ++ [Value.slice (some ⟨qb, 0, none⟩) (t.length + 1) qcap], by omega, rfl, hN1, by omega, by rw [hlv]; exact hrow4.kept (below_grown hN2 none) (by cases ra' <;> simp [Value.ownBlock]), by rw [HE.out, hl]; exact hls4.keep (r' := .slice ra' (vs.length + 1) rcap') hN2.size (fun g _ h2 _ => hN2.block g h2) (.inl rfl), blk_below hX4 hN2, Boxed.below hF4 hN2, bcat2 hB4 hN2⟩
          case measure =>
            show n - boxN _ (Value.pointer (some ⟨w4.heap.size, 0, none⟩)) < n - boxN wr (Value.pointer (some ⟨pb, 0, none⟩))
            rw [boxN_eq hN1, boxN_eq HPW.out]
            omega
        · have HE := hide (rcs_no (n := n) (j := j) (q := q) (by rw [hxh]; simpa using hxj))
          have hxi : ¬ (x : Int) = (j : Int) := by omega
          go_wp2_with fail
          go_quiet (fail)
          have hbq : Below w1.heap.size w1 (w1.drewN nq) := bdrewN (Below.refl _ w1) nq
          generalize w1.drewN nq = wq at hbq ⊢
          clear c2 hx0
          have hP1 := Boxed.below hP1 hbq
          have hX1 := blk_below hX1 hbq
          have hF1 := Boxed.below hF1 hbq
          have hB1 := bcat2 hB1 hbq
          have hrow1 := hrow1.kept (below_grown hbq none) (by cases ra <;> simp [Value.ownBlock])
          have hls1 := hls1.keep (r' := .slice ra (vs.length) rcap) hbq.size (fun g _ h2 _ => hbq.block g h2) (.inl rfl)
          have c2 := hP1.cell
          have hqs : w.heap.size + 1 < wq.heap.size := by have := hbq.size; omega
          obtain ⟨hN1, hN2⟩ := newbox wq j
          go_wp2
          go_roundw
          case rel => exact ⟨j + 1, wq.heap.size, vs, by omega, rfl, hN1, by omega, hrow1.kept (below_grown hN2 none) (by cases ra <;> simp [Value.ownBlock]), by rw [HE.out]; exact hls1.keep (r' := .slice ra (vs.length) rcap) hN2.size (fun g _ h2 _ => hN2.block g h2) (.inl rfl), blk_below hX1 hN2, Boxed.below hF1 hN2, bcat2 hB1 hN2⟩
          case measure =>
            show n - boxN _ (Value.pointer (some ⟨wq.heap.size, 0, none⟩)) < n - boxN wr (Value.pointer (some ⟨pb, 0, none⟩))
            rw [boxN_eq hN1, boxN_eq HPW.out]
            omega
    · have hjn : j = n := by omega
      subst hjn
      have hrow9 := owns_mono hrow (show w.heap.size ≤ w.heap.size + 1 + 1 by omega)
      have hls9 := hls.mono (show w.heap.size ≤ w.heap.size + 1 + 1 by omega)
      go_wp2
      go_ret
      exact ⟨_, vs, rfl, hrow9, hls9, hB⟩
set_option maxRecDepth 100000 in
set_option maxHeartbeats 2000000 in
theorem which_ok (v : Value) (rs : List (List Int)) (a : Int) (w : World) (hv : SlL w v rs) :
    Calls Tryd.prog 25 #[v, .int .i64 a] w fun x w' => x = .returned (.int .i64 (whichI rs a)) ∧ Below w.heap.size w w' := by
  obtain ⟨va, vc, vb, vo, rfl, v1, v2, v3, v4, v5⟩ := hv
  have hm1 : rs.length ≤ 9223372036854775807 := by unfold maxLen at v5; omega
  have HV := hide v2
  have HV1 := hide v1
  clear v1 v2 v5
  go_enter Tryd.func25, Tryd.ntmps25
  go_wp2
  go_loopw [5] (fun i wr => ∃ k : Nat, k ≤ rs.length ∧ i = .int .i64 k ∧ (∀ t, t < k → ¬ a ∈ rs[t]?.getD []) ∧ Below w.heap.size w wr) (fun i _ => rs.length - (intOf i).toNat)
  case atStart => exact ⟨0, Nat.zero_le _, rfl, fun t ht => by omega, Below.refl _ _⟩
  case round =>
    obtain ⟨k, hk, rfl, hno, hB⟩ := hrel
    have HNO := hide hno
    clear hno
    by_cases hlt : k < rs.length
    · have hki : (k : Int) < (rs.length : Int) := by omega
      obtain rfl := HV1.out (by omega)
      obtain ⟨y, cy, hy⟩ := HV.out k hlt
      have cy := below_cell hB cy
      have hy := hy.below hB
      obtain ⟨y1, y2, y3, rfl⟩ := hy.isSlice
      have HH := hide (rhas_ok (.slice y1 y2 y3) (rs[k]?.getD []) a wr hy)
      by_cases hin : a ∈ rs[k]?.getD []
      · have HW := hide (whichI_at hlt hin HNO.out)
        rw [decide_eq_true hin] at HH
        clear hin hy
        go_wp2_with fail
        refine HH.out.mono ?_
        rintro x w1 ⟨rfl, rfl⟩
        go_wp2
        go_ret
        exact ⟨by rw [HW.out]; rfl, hB⟩
      · rw [decide_eq_false hin] at HH
        have HIN := hide hin
        clear hin hy
        go_wp2_with fail
        refine HH.out.mono ?_
        rintro x w1 ⟨rfl, rfl⟩
        go_wp2
        go_roundw
        case rel => exact ⟨k + 1, by omega, by go_num, fun t ht => by
          by_cases e9 : t = k
          · subst e9; exact HIN.out
          · exact HNO.out t (by omega), hB⟩
        case measure => simp [intOf]; omega
    · have hki : ¬ (k : Int) < (rs.length : Int) := by omega
      have HW := hide (whichI_no (rs := rs) (a := a) (fun t ht => HNO.out t (by omega)))
      go_wp2
      go_ret
      exact ⟨by rw [HW.out]; rfl, hB⟩
end Go.Proofs.YtobnfbnholbfoaaDoor

namespace Go.Proofs.YtobnfbnholbfoaaDoor
open Go Go.RowKit Go.Maps

theorem make_run (n : Nat) (hn : n ≤ 60) (W : World) : (Instr.makeSlice 22 (.int .i64 n) (.int .i64 n)).run Tryd.prog W = .ok (.slice (some ⟨W.heap.size, 0, none⟩) n n) (W.alloc (.cells (madeCells #[.int .i64 0] n) 3)) := by
  obtain ⟨i0, hi, hz0, hz1, hz2⟩ := info_parts info3b
  have h := run_make (P := Tryd.prog) W 22 3 i0 (.int .i64 0) under22b hi hz0 .i64 .i64 n n (by omega) (Int.le_refl _) (by rw [hz2]; omega) (by omega)
  rw [hz1] at h
  simp only [Int.toNat_natCast, Nat.mul_one] at h
  exact h
theorem make_blk (n : Nat) (W : World) : Blk (W.alloc (.cells (madeCells #[.int .i64 0] n) 3)) W.heap.size 3 ((List.replicate n (0 : Int)).map (Value.int .i64)) := by
  have h : Blk (W.alloc (.cells (madeCells #[.int .i64 0] n) 3)) W.heap.size 3 (madeCells #[.int .i64 0] n).toList := World.alloc_heap_new W _
  rw [made_rep] at h
  rw [List.map_replicate]; exact h
/-- A group with its classes, written into a box of its own. -/
theorem put65 {A W : World} {ob nb : Nat} {x0 x1 x2 x3 x4 x5 : Value} {ms : List Value} (hB : Below A.heap.size A W) (hO : Blk W ob 65 [x0, x1, x2, x3, x4, x5]) (hN : Blk W nb 3 ms) (hne : ob ≠ nb) (hg : A.heap.size ≤ ob) (n : Nat) (v : Value) (e : Nat) (u c d : Value) :
    Below A.heap.size A ((((((W.setCell ⟨ob, 0, none⟩ (.int .i64 n)).setCell ⟨ob, 1, none⟩ v).setCell ⟨ob, 2, none⟩ (.int .i64 e)).setCell ⟨ob, 3, none⟩ u).setCell ⟨ob, 4, none⟩ c).setCell ⟨ob, 5, none⟩ d) ∧
    Blk ((((((W.setCell ⟨ob, 0, none⟩ (.int .i64 n)).setCell ⟨ob, 1, none⟩ v).setCell ⟨ob, 2, none⟩ (.int .i64 e)).setCell ⟨ob, 3, none⟩ u).setCell ⟨ob, 4, none⟩ c).setCell ⟨ob, 5, none⟩ d) ob 65 [.int .i64 n, v, .int .i64 e, u, c, d] ∧
    Blk ((((((W.setCell ⟨ob, 0, none⟩ (.int .i64 n)).setCell ⟨ob, 1, none⟩ v).setCell ⟨ob, 2, none⟩ (.int .i64 e)).setCell ⟨ob, 3, none⟩ u).setCell ⟨ob, 4, none⟩ c).setCell ⟨ob, 5, none⟩ d) nb 3 ms ∧
    (W.cell? ⟨ob, 0, none⟩ = some x0 ∧ W.cell? ⟨ob, 1, none⟩ = some x1 ∧ W.cell? ⟨ob, 2, none⟩ = some x2 ∧ W.cell? ⟨ob, 3, none⟩ = some x3 ∧ W.cell? ⟨ob, 4, none⟩ = some x4 ∧ W.cell? ⟨ob, 5, none⟩ = some x5 ∧ W.frozen? ⟨ob, 0, none⟩ = false ∧ W.frozen? ⟨ob, 1, none⟩ = false ∧ W.frozen? ⟨ob, 2, none⟩ = false ∧ W.frozen? ⟨ob, 3, none⟩ = false ∧ W.frozen? ⟨ob, 4, none⟩ = false ∧ W.frozen? ⟨ob, 5, none⟩ = false) := by
  have hn : nb ≠ ob := fun h => hne h.symm
  refine ⟨((((((hB.setCell (p := ⟨ob, 0, none⟩) hg _).setCell (p := ⟨ob, 1, none⟩) hg _).setCell (p := ⟨ob, 2, none⟩) hg _).setCell (p := ⟨ob, 3, none⟩) hg _).setCell (p := ⟨ob, 4, none⟩) hg _).setCell (p := ⟨ob, 5, none⟩) hg _), ?_, ?_, hO.cell 0, hO.cell 1, hO.cell 2, hO.cell 3, hO.cell 4, hO.cell 5, hO.frozen 0, hO.frozen 1, hO.frozen 2, hO.frozen 3, hO.frozen 4, hO.frozen 5⟩
  · exact (((((hO.set 0 _).set 1 _).set 2 _).set 3 _).set 4 _).set 5 _
  · exact (((((hN.other (p := ⟨ob, 0, none⟩) hn _).other (p := ⟨ob, 1, none⟩) hn _).other (p := ⟨ob, 2, none⟩) hn _).other (p := ⟨ob, 3, none⟩) hn _).other (p := ⟨ob, 4, none⟩) hn _).other (p := ⟨ob, 5, none⟩) hn _
theorem put68 {A W : World} {rb : Nat} {x0 x1 x2 x3 x4 x5 y0 y1 : Value} (hB : Below A.heap.size A W) (hR : Blk W rb 65 [x0, x1, x2, x3, x4, x5]) (hS : Blk W (rb + 1) 27 [y0, y1]) (h1 : A.heap.size ≤ rb) (h2 : A.heap.size ≤ rb + 1) (n v e u c d x y : Value) :
    ∃ W', W' = (((((((W.setCell ⟨rb, 0, none⟩ n).setCell ⟨rb, 1, none⟩ v).setCell ⟨rb, 2, none⟩ e).setCell ⟨rb, 3, none⟩ u).setCell ⟨rb, 4, none⟩ c).setCell ⟨rb, 5, none⟩ d).setCell ⟨rb + 1, 0, none⟩ x).setCell ⟨rb + 1, 1, none⟩ y ∧
      Blk W' rb 65 [n, v, e, u, c, d] ∧ Blk W' (rb + 1) 27 [x, y] ∧ Below A.heap.size A W' ∧ (∀ g, g ≠ rb → g ≠ rb + 1 → W'.heap[g]? = W.heap[g]?) ∧ W'.heap.size = W.heap.size := by
  have h3 : rb ≠ rb + 1 := by omega
  have h4 : rb + 1 ≠ rb := by omega
  refine ⟨_, rfl, ?_, ?_, ?_, fun g h5 h6 => ?_, by simp [World.setCell]⟩
  · exact (((((((hR.set 0 n).set 1 v).set 2 e).set 3 u).set 4 c).set 5 d).other (p := ⟨rb + 1, 0, none⟩) h3 x).other (p := ⟨rb + 1, 1, none⟩) h3 y
  · exact (((((((hS.other (p := ⟨rb, 0, none⟩) h4 n).other (p := ⟨rb, 1, none⟩) h4 v).other (p := ⟨rb, 2, none⟩) h4 e).other (p := ⟨rb, 3, none⟩) h4 u).other (p := ⟨rb, 4, none⟩) h4 c).other (p := ⟨rb, 5, none⟩) h4 d).set 0 x).set 1 y
  · exact (((((((hB.setCell (p := ⟨rb, 0, none⟩) h1 _).setCell (p := ⟨rb, 1, none⟩) h1 _).setCell (p := ⟨rb, 2, none⟩) h1 _).setCell (p := ⟨rb, 3, none⟩) h1 _).setCell (p := ⟨rb, 4, none⟩) h1 _).setCell (p := ⟨rb, 5, none⟩) h1 _).setCell (p := ⟨rb + 1, 0, none⟩) h2 _).setCell (p := ⟨rb + 1, 1, none⟩) h2 _
  · rw [Below.heap_setCell _ _ _ g h6, Below.heap_setCell _ _ _ g h6, Below.heap_setCell _ _ _ g h5, Below.heap_setCell _ _ _ g h5, Below.heap_setCell _ _ _ g h5, Below.heap_setCell _ _ _ g h5, Below.heap_setCell _ _ _ g h5, Below.heap_setCell _ _ _ g h5]
set_option maxRecDepth 100000 in
set_option maxHeartbeats 4000000 in
theorem kop_good (n e : Nat) (v : Value) (zs : List Int) (w : World) (hv : Sl w v zs) (hg : IsGrp n zs e) (hT : Tab w) :
    Calls Tryd.prog 36 #[.agg #[.int .i64 n, v]] w fun x w' => ∃ u cv nv vs, x = .returned (.tuple #[.agg #[.int .i64 n, v, .int .i64 e, u, cv, nv], .agg #[.int .i64 0, .int .i64 0]]) ∧ Sl w' u (li ((List.range n).map (iv n zs e))) ∧ w'.ownsRow w.heap.size 22 1 cv vs.length vs ∧ Lsts w' w.heap.size cv vs (rcs n (clq n zs e) n) ∧ Sl w' nv (li ((List.range n).map (num n (clq n zs e)))) ∧ Below w.heap.size w w' := by
  obtain ⟨va, vl, vc, rfl⟩ := hv.isSlice
  obtain ⟨w0, hw0⟩ : ∃ w0, w0 = ((w.alloc (.cells #[.int .i64 n, .slice va vl vc] 24)).alloc (.cells #[.int .i64 0, .slice none 0 0, .int .i64 0, .slice none 0 0, .slice none 0 0, .slice none 0 0] 65)).alloc (.cells #[.int .i64 0, .int .i64 0] 27) := ⟨_, rfl⟩
  have hB0 : Below w.heap.size w w0 := by rw [hw0]; exact ((balloc w _).alloc (by simp) _).alloc (by simp; omega) _
  have hX0 : Blk w0 w.heap.size 24 [.int .i64 n, .slice va vl vc] := by rw [hw0]; exact ((blk0 _ _).alloc _).alloc _
  have hR0 : Blk w0 (w.heap.size + 1) 65 [.int .i64 0, .slice none 0 0, .int .i64 0, .slice none 0 0, .slice none 0 0, .slice none 0 0] := by
    rw [hw0]
    have h : Blk ((w.alloc (.cells #[.int .i64 n, .slice va vl vc] 24)).alloc (.cells #[.int .i64 0, .slice none 0 0, .int .i64 0, .slice none 0 0, .slice none 0 0, .slice none 0 0] 65)) _ 65 [.int .i64 0, .slice none 0 0, .int .i64 0, .slice none 0 0, .slice none 0 0, .slice none 0 0] := World.alloc_heap_new _ _
    rw [World.size_alloc] at h
    exact h.alloc _
  have hS0 : Blk w0 (w.heap.size + 1 + 1) 27 [.int .i64 0, .int .i64 0] := by
    rw [hw0]
    have h := blk0 (w := (w.alloc (.cells #[.int .i64 n, .slice va vl vc] 24)).alloc (.cells #[.int .i64 0, .slice none 0 0, .int .i64 0, .slice none 0 0, .slice none 0 0, .slice none 0 0] 65)) (T := 27) (.int .i64 0) (.int .i64 0)
    rw [World.size_alloc, World.size_alloc] at h
    exact h
  have hv0 := hv.below hB0
  have HCK := hide (opened_good n e (.slice va vl vc) zs w0 hv0 hg)
  have hs0 : w.heap.size + 1 + 1 + 1 ≤ w0.heap.size := by rw [hw0]; simp
  obtain ⟨c0, c1, _, _⟩ := hX0.two
  rw [hw0] at c0 c1
  go_enter Tryd.func36, Tryd.ntmps36
  go_wp2_with fail
  rw [← hw0]
  refine HCK.out.mono ?_
  rintro x w1 ⟨u, rfl, hSI, hb1⟩
  clear c0 c1 HCK hw0
  obtain ⟨ia, il, ic, rfl⟩ := hSI.sl.isSlice
  obtain ⟨w2, hw2⟩ : ∃ w2, w2 = (w1.alloc (.cells #[.int .i64 n, .slice va vl vc, .int .i64 e, .slice ia il ic] 63)).alloc (.cells #[.int .i64 0, .int .i64 0] 27) := ⟨_, rfl⟩
  have hb2 : Below w1.heap.size w1 w2 := by rw [hw2]; exact (balloc w1 _).alloc (by simp) _
  have hF2 : Blk w2 (w1.heap.size + 1) 27 [.int .i64 0, .int .i64 0] := by
    rw [hw2]
    have := blk0 (w := w1.alloc (.cells #[.int .i64 n, .slice va vl vc, .int .i64 e, .slice ia il ic] 63)) (T := 27) (.int .i64 0) (.int .i64 0)
    rwa [World.size_alloc] at this
  have hH2 : Blk w2 w1.heap.size 63 [.int .i64 n, .slice va vl vc, .int .i64 e, .slice ia il ic] := by
    rw [hw2]; exact (blk4 _ _ _ _).alloc _
  have hB1 : Below w0.heap.size w0 w2 := bcat2 hb1 hb2
  have hB2 := bcat2 hB0 hB1
  have hR2 := blk_below hR0 hB1
  have hS2 := blk_below hS0 hB1
  have hGA2 : GA w2 n (.slice va vl vc) e (.slice ia il ic) zs := ⟨hg, hv.below hB2, (hSI.sl).below hb2⟩
  have hz1 := hb1.size
  have hz2 : w1.heap.size + 1 < w2.heap.size := hF2.lt
  obtain ⟨t0, t1, _, _⟩ := hF2.two
  obtain ⟨_, h0, h1, h2, h3, _⟩ := Four.mk' hH2
  rw [hw2] at t0 t1 h0 h1 h2 h3
  go_wp2_with fail
  rw [← hw2]
  rw [← hw2] at t0 t1 h0 h1 h2 h3
  clear hw2
  have hSI2 := hSI.keep (fun g _ h2 => hb2.block g h2) hb2.size
  generalize w1.heap.size = hb at *
  have hS : ∀ W, Below w2.heap.size w2 W → (Below w2.heap.size w2 W ∧ W.cell? ⟨hb, 0, none⟩ = some (.int .i64 n) ∧ W.cell? ⟨hb, 1, none⟩ = some (.slice va vl vc) ∧ W.cell? ⟨hb, 2, none⟩ = some (.int .i64 e) ∧ W.cell? ⟨hb, 3, none⟩ = some (.slice ia il ic)) := fun W h => ⟨h, below_cell h h0, below_cell h h1, below_cell h h2, below_cell h h3⟩
  have hBc : Below w2.heap.size w2 w2.drew := bdrew (Below.refl _ _)
  have hS0 := hS _ hBc
  have HMK := hide (make_run n hg.tab.le)
  have HMB := hide (make_blk n)
  clear t0 t1 h0 h1 h2 h3
  go_cut [6] (fun s6 wx => ∃ ob nb, s6 = .pointer (some ⟨ob, 0, none⟩) ∧ Blk wx ob 65 [.int .i64 n, .slice va vl vc, .int .i64 e, .slice ia il ic, .slice none 0 0, .slice (some ⟨nb, 0, none⟩) n n] ∧ Blk wx nb 3 ((List.replicate n (0 : Int)).map (Value.int .i64)) ∧ ob ≠ nb ∧ w2.heap.size ≤ ob ∧ w2.heap.size ≤ nb ∧ Below w2.heap.size w2 wx)
  case first =>
    refine wp_region_held_drew (S := fun W => Below w2.heap.size w2 W ∧ W.cell? ⟨hb, 0, none⟩ = some (.int .i64 n) ∧ W.cell? ⟨hb, 1, none⟩ = some (.slice va vl vc) ∧ W.cell? ⟨hb, 2, none⟩ = some (.int .i64 e) ∧ W.cell? ⟨hb, 3, none⟩ = some (.slice ia il ic)) (by kernel_rfl) hS0 (fun hHeld => ?_)
    generalize w2.drew = wd at *
    refine wpAnyH_take (i := 0) (oi := ({ dst := some 23, op := Go.Op.load 63 (Go.Operand.tmp 4), type := 63, pos := _, after := _, guard := none } : Oper)) (v := ?_) rfl (by kernel_rfl) (by kernel_rfl) (by kernel_rfl) (fun _ _ _ h => h) (Or.inl ⟨by rfl, ?_⟩) (by assumption) ?_
    rotate_left
    · (intro w hSw; (try dsimp only at hSw); go_simp; try with_reducible rfl)
    simp only [Act.put, List.setIfInBounds_toArray, List.set_cons_zero, List.set_cons_succ]
    refine wpAnyH_take (i := 1) (oi := ({ dst := some 24, op := Go.Op.fieldAddr 63 (Go.Operand.tmp 4) 0, type := 0, pos := _, after := _, guard := none } : Oper)) (v := ?_) rfl (by kernel_rfl) (by kernel_rfl) (by kernel_rfl) (fun _ _ _ h => h) (Or.inl ⟨by rfl, ?_⟩) (by assumption) ?_
    rotate_left
    · (intro w hSw; (try dsimp only at hSw); go_simp; try with_reducible rfl)
    simp only [Act.put, List.setIfInBounds_toArray, List.set_cons_zero, List.set_cons_succ]
    refine wpAnyH_take (i := 2) (oi := ({ dst := some 25, op := Go.Op.fieldAddr 24 (Go.Operand.tmp 24) 0, type := 0, pos := _, after := _, guard := none } : Oper)) (v := ?_) rfl (by kernel_rfl) (by kernel_rfl) (by kernel_rfl) (fun _ _ _ h => h) (Or.inl ⟨by rfl, ?_⟩) (by assumption) ?_
    rotate_left
    · (intro w hSw; (try dsimp only at hSw); go_simp; try with_reducible rfl)
    simp only [Act.put, List.setIfInBounds_toArray, List.set_cons_zero, List.set_cons_succ]
    refine wpAnyH_take (i := 3) (oi := ({ dst := some 26, op := Go.Op.load 3 (Go.Operand.tmp 25), type := 3, pos := _, after := _, guard := none } : Oper)) (v := ?_) rfl (by kernel_rfl) (by kernel_rfl) (by kernel_rfl) (fun _ _ _ h => h) (Or.inl ⟨by rfl, ?_⟩) (by assumption) ?_
    rotate_left
    · (intro w hSw; (try dsimp only at hSw); go_simp; try with_reducible rfl)
    simp only [Act.put, List.setIfInBounds_toArray, List.set_cons_zero, List.set_cons_succ]
    refine wpAnyH_ready (rs := [4, 6]) (by kernel_rfl) (by simp) (AllReadyH.cons (o := ({ dst := some 27, op := Go.Op.makeSlice 22 (Go.Operand.tmp 26) (Go.Operand.tmp 26), type := 22, pos := _, after := _, guard := none } : Oper)) rfl (fun KK hK => ?_) (AllReadyH.cons (o := ({ dst := some 6, op := Go.Op.alloc 65, type := 0, pos := _, after := _, guard := none } : Oper)) rfl (fun KK hK => ?_) AllReadyH.nil))
    · have hmk := HMK.out (wd)
      have hgN : w2.heap.size ≤ (wd).heap.size := hBc.size
      have haN := balloc (wd) (.cells (madeCells #[.int .i64 0] n) 3)
      have hBc := bcat2 hBc haN
      have hN : Blk ((wd).alloc (.cells (madeCells #[.int .i64 0] n) 3)) (wd).heap.size 3 ((List.replicate n (0 : Int)).map (Value.int .i64)) := HMB.out (wd)
      go_simp
      refine hK.out _ _ (hS _ hBc) (fun hHeld => ?_)
      clear hK
      try simp only [Act.put, List.setIfInBounds_toArray, List.set_cons_zero, List.set_cons_succ]
      clear hmk
      generalize (wd).alloc (.cells (madeCells #[.int .i64 0] n) 3) = WN at *
      generalize (wd).heap.size = nb at *
      refine wpAnyH_take (i := 5) (oi := ({ dst := some 28, op := Go.Op.build 65 #[(0, Go.Operand.tmp 23), (2, Go.Operand.tmp 27)], type := 65, pos := _, after := _, guard := none } : Oper)) (v := ?_) rfl (by kernel_rfl) (by kernel_rfl) (by kernel_rfl) (fun _ _ _ h => h) (Or.inl ⟨by rfl, ?_⟩) (by assumption) ?_
      rotate_left
      · (intro w hSw; (try dsimp only at hSw); go_simp; try with_reducible rfl)
      simp only [Act.put, List.setIfInBounds_toArray, List.set_cons_zero, List.set_cons_succ]
      refine wpAnyH_ready (rs := [6]) (by kernel_rfl) (by simp) (AllReadyH.cons (o := ({ dst := some 6, op := Go.Op.alloc 65, type := 0, pos := _, after := _, guard := none } : Oper)) rfl (fun KK hK => ?_) AllReadyH.nil)
      have hgO : w2.heap.size ≤ (WN).heap.size := hBc.size
      have haO := balloc (WN) (.cells #[.int .i64 0, .slice none 0 0, .int .i64 0, .slice none 0 0, .slice none 0 0, .slice none 0 0] 65)
      have hBc := bcat2 hBc haO
      have hlt9 := hN.lt
      have hN := blk_below hN haO
      have hO : Blk ((WN).alloc (.cells #[.int .i64 0, .slice none 0 0, .int .i64 0, .slice none 0 0, .slice none 0 0, .slice none 0 0] 65)) (WN).heap.size 65 [.int .i64 0, .slice none 0 0, .int .i64 0, .slice none 0 0, .slice none 0 0, .slice none 0 0] := World.alloc_heap_new _ _
      go_simp
      refine hK.out _ _ (hS _ hBc) (fun hHeld => ?_)
      clear hK
      try simp only [Act.put, List.setIfInBounds_toArray, List.set_cons_zero, List.set_cons_succ]
      generalize (WN).alloc (.cells #[.int .i64 0, .slice none 0 0, .int .i64 0, .slice none 0 0, .slice none 0 0, .slice none 0 0] 65) = WO at *
      generalize (WN).heap.size = ob at *
      have hne : ob ≠ nb := by omega
      refine wpAnyH_ready (rs := [7]) (by kernel_rfl) (by simp) (AllReadyH.cons (o := ({ dst := none, op := Go.Op.store 65 (Go.Operand.tmp 6) (Go.Operand.tmp 28), type := 0, pos := _, after := _, guard := none } : Oper)) rfl (fun KK hK => ?_) AllReadyH.nil)
      obtain ⟨hBc, hO, hN, hcs⟩ := put65 hBc hO hN hne hgO n (.slice va vl vc) e (.slice ia il ic) (.slice none 0 0) (.slice (some ⟨nb, 0, none⟩) n n)
      obtain ⟨q0, q1, q2, q3, q4, q5, p0, p1, p2, p3, p4, p5⟩ := hcs
      go_simp
      refine hK.out _ _ (hS _ hBc) (fun hHeld => ?_)
      clear hK
      try simp only [Act.put, List.setIfInBounds_toArray, List.set_cons_zero, List.set_cons_succ]
      generalize ((((((WO).setCell ⟨ob, 0, none⟩ (.int .i64 n)).setCell ⟨ob, 1, none⟩ (.slice va vl vc)).setCell ⟨ob, 2, none⟩ (.int .i64 e)).setCell ⟨ob, 3, none⟩ (.slice ia il ic)).setCell ⟨ob, 4, none⟩ (.slice none 0 0)).setCell ⟨ob, 5, none⟩ (.slice (some ⟨nb, 0, none⟩) n n) = WF at *
      refine wpAnyH_done (by kernel_rfl) ?_ _
      go_wp2
      go_meet
      exact ⟨ob, nb, rfl, hO, hN, hne, hgO, hgN, hBc⟩
    have hgO : w2.heap.size ≤ (wd).heap.size := hBc.size
    have haO := balloc (wd) (.cells #[.int .i64 0, .slice none 0 0, .int .i64 0, .slice none 0 0, .slice none 0 0, .slice none 0 0] 65)
    have hBc := bcat2 hBc haO
    have hO : Blk ((wd).alloc (.cells #[.int .i64 0, .slice none 0 0, .int .i64 0, .slice none 0 0, .slice none 0 0, .slice none 0 0] 65)) (wd).heap.size 65 [.int .i64 0, .slice none 0 0, .int .i64 0, .slice none 0 0, .slice none 0 0, .slice none 0 0] := World.alloc_heap_new _ _
    go_simp
    refine hK.out _ _ (hS _ hBc) (fun hHeld => ?_)
    clear hK
    try simp only [Act.put, List.setIfInBounds_toArray, List.set_cons_zero, List.set_cons_succ]
    generalize (wd).alloc (.cells #[.int .i64 0, .slice none 0 0, .int .i64 0, .slice none 0 0, .slice none 0 0, .slice none 0 0] 65) = WO at *
    generalize (wd).heap.size = ob at *
    refine wpAnyH_ready (rs := [4]) (by kernel_rfl) (by simp) (AllReadyH.cons (o := ({ dst := some 27, op := Go.Op.makeSlice 22 (Go.Operand.tmp 26) (Go.Operand.tmp 26), type := 22, pos := _, after := _, guard := none } : Oper)) rfl (fun KK hK => ?_) AllReadyH.nil)
    have hmk := HMK.out (WO)
    have hgN : w2.heap.size ≤ (WO).heap.size := hBc.size
    have haN := balloc (WO) (.cells (madeCells #[.int .i64 0] n) 3)
    have hBc := bcat2 hBc haN
    have hlt9 := hO.lt
    have hO := blk_below hO haN
    have hN : Blk ((WO).alloc (.cells (madeCells #[.int .i64 0] n) 3)) (WO).heap.size 3 ((List.replicate n (0 : Int)).map (Value.int .i64)) := HMB.out (WO)
    go_simp
    refine hK.out _ _ (hS _ hBc) (fun hHeld => ?_)
    clear hK
    try simp only [Act.put, List.setIfInBounds_toArray, List.set_cons_zero, List.set_cons_succ]
    clear hmk
    generalize (WO).alloc (.cells (madeCells #[.int .i64 0] n) 3) = WN at *
    generalize (WO).heap.size = nb at *
    have hne : ob ≠ nb := by omega
    refine wpAnyH_take (i := 5) (oi := ({ dst := some 28, op := Go.Op.build 65 #[(0, Go.Operand.tmp 23), (2, Go.Operand.tmp 27)], type := 65, pos := _, after := _, guard := none } : Oper)) (v := ?_) rfl (by kernel_rfl) (by kernel_rfl) (by kernel_rfl) (fun _ _ _ h => h) (Or.inl ⟨by rfl, ?_⟩) (by assumption) ?_
    rotate_left
    · (intro w hSw; (try dsimp only at hSw); go_simp; try with_reducible rfl)
    simp only [Act.put, List.setIfInBounds_toArray, List.set_cons_zero, List.set_cons_succ]
    refine wpAnyH_ready (rs := [7]) (by kernel_rfl) (by simp) (AllReadyH.cons (o := ({ dst := none, op := Go.Op.store 65 (Go.Operand.tmp 6) (Go.Operand.tmp 28), type := 0, pos := _, after := _, guard := none } : Oper)) rfl (fun KK hK => ?_) AllReadyH.nil)
    obtain ⟨hBc, hO, hN, hcs⟩ := put65 hBc hO hN hne hgO n (.slice va vl vc) e (.slice ia il ic) (.slice none 0 0) (.slice (some ⟨nb, 0, none⟩) n n)
    obtain ⟨q0, q1, q2, q3, q4, q5, p0, p1, p2, p3, p4, p5⟩ := hcs
    go_simp
    refine hK.out _ _ (hS _ hBc) (fun hHeld => ?_)
    clear hK
    try simp only [Act.put, List.setIfInBounds_toArray, List.set_cons_zero, List.set_cons_succ]
    generalize ((((((WN).setCell ⟨ob, 0, none⟩ (.int .i64 n)).setCell ⟨ob, 1, none⟩ (.slice va vl vc)).setCell ⟨ob, 2, none⟩ (.int .i64 e)).setCell ⟨ob, 3, none⟩ (.slice ia il ic)).setCell ⟨ob, 4, none⟩ (.slice none 0 0)).setCell ⟨ob, 5, none⟩ (.slice (some ⟨nb, 0, none⟩) n n) = WF at *
    refine wpAnyH_done (by kernel_rfl) ?_ _
    go_wp2
    go_meet
    exact ⟨ob, nb, rfl, hO, hN, hne, hgO, hgN, hBc⟩
  case rest =>
    obtain ⟨ob, nb, rfl, hO, hN, hne, hgO, hgN, hbx⟩ := hcut
    have hn := hg.tab.le
    have hpt := clq_parts hg
    have HPT := hide hpt
    obtain ⟨i0, hi, hz0, hz1, hz2⟩ := info_parts info22b
    have hH3 := blk_below hH2 hbx
    obtain ⟨_, h0, h1, h2, h3, _⟩ := Four.mk' hH3
    have hobx := hO.lt
    have hnbx := hN.lt
    obtain ⟨B0, hB0e⟩ : ∃ B0, B0 = wc.heap.size := ⟨_, rfl⟩
    have hoB : ob < B0 := by omega
    have hnB : nb < B0 := by omega
    have hB0x : B0 ≤ wc.heap.size := by omega
    have h2B : w2.heap.size ≤ B0 := by have := hbx.size; omega
    clear hB0e
    go_wp2_with fail
    clear h0 h1 h2 h3
    go_loopw [7, 32] (fun s i wr => ∃ (k : Nat) (vs : List Value) (cv : Value), k ≤ n ∧ i = .int .i64 k ∧ s = .int .u64 (bs (mt (clq n zs e) k) n) ∧ Blk wr ob 65 [.int .i64 n, .slice va vl vc, .int .i64 e, .slice ia il ic, cv, .slice (some ⟨nb, 0, none⟩) n n] ∧ Blk wr nb 3 ((nml n (clq n zs e) k).map (Value.int .i64)) ∧ wr.ownsRow B0 22 1 cv vs.length vs ∧ Lsts wr B0 cv vs (rcs n (clq n zs e) k) ∧ Below w2.heap.size w2 wr ∧ B0 ≤ wr.heap.size) (fun _ i _ => n - (intOf i).toNat)
    case atStart => exact ⟨0, [], .slice none 0 0, Nat.zero_le _, rfl, by rw [show bs (mt (clq n zs e) 0) n = 0 from bs_none n]; rfl, hO, by rw [nml_zero]; exact hN, World.ownsRow_nil _ _ _ _, ⟨rfl, fun t x l h => by simp at h⟩, hbx, hB0x⟩
    case round =>
      clear hO hN hbx hobx hnbx hB0x hH3
      obtain ⟨k, vs, cv, hk, rfl, rfl, hO, hN, hrow, hls, hB, hBs⟩ := hrel
      obtain ⟨ra, rcap, rfl⟩ := own_slice' hrow
      by_cases hlt : k < n
      · have HHA := hide (has_ok n k (mt (clq n zs e) k) wr hn hlt)
        cases hm : mt (clq n zs e) k k with
        | true =>
          rw [hm] at HHA
          have HE := hide (rcs_no (n := n) (j := k) (q := clq n zs e) (fun h9 => by
            have := (HPT.out.mt_head hlt).2 h9
            rw [hm] at this; cases this))
          have HE2 := hide (HPT.out.nml_old hlt hm)
          have HE3 := hide (show bs (mt (clq n zs e) (k + 1)) n = bs (mt (clq n zs e) k) n from bs_ext fun y hy => HPT.out.mt_old hlt hy hm)
          clear hm
          generalize bs (mt (clq n zs e) k) n = S9 at *
          go_wp2_with fail
          refine HHA.out.mono ?_
          rintro x9 w9 ⟨rfl, rfl⟩
          go_wp2
          go_roundw
          case rel => exact ⟨k + 1, vs, _, by omega, by go_num, by rw [HE3.out], hO, by rw [HE2.out]; exact hN, hrow, by rw [HE.out]; exact hls, hB, hBs⟩
          case measure => simp [intOf]; omega
        | false =>
          rw [hm] at HHA
          have hhd := (HPT.out.mt_head hlt).1 hm
          have HE := hide (rcs_yes (n := n) (j := k) (q := clq n zs e) hhd)
          have HNA := hide (HPT.out.nmt_all hlt hm)
          have HOR := hide (show bits BinOp.or IntKind.u64 (bs (mt (clq n zs e) k) n : Int) (bs (clq n zs e k) n : Int) = (bs (mt (clq n zs e) (k + 1)) n : Int) by
            rw [or_bs _ _ hn]
            congr 2
            funext y
            exact mt_succ.symm)
          have hGr := hGA2.below hB
          have HCL := hide (clsof_ok n (.slice va vl vc) (.slice ia il ic) zs e k wr hGr hlt)
          have HT2 := hide (hT.below hB2)
          have HLI := hide (fun W (h : Below w2.heap.size w2 W) => list_ok n (clq n zs e k) W hn (HT2.out.below h))
          have HLX := hide (fun x (h : x ∈ lst n (clq n zs e k)) => (mem_lst.1 h).1)
          have hxl := lst_len n (clq n zs e k)
          have HVL := hide (show vs.length = (rcs n (clq n zs e) k).length from hls.1)
          have hv60 : vs.length ≤ n := by rw [HVL.out]; exact Nat.le_trans (rcs_len n _ k) (by omega)
          clear hm hhd
          generalize bs (mt (clq n zs e) k) n = S9 at *
          generalize hS10 : bs (mt (clq n zs e) (k + 1)) n = S10 at *
          have HS10 := hide hS10
          clear hS10
          generalize bs (clq n zs e k) n = S8 at *
          generalize lst n (clq n zs e k) = xs at *
          have hH := blk_below hH2 hB
          obtain ⟨_, h0, h1, h2, h3, _⟩ := Four.mk' hH
          go_wp2_with fail
          refine HHA.out.mono ?_
          rintro x9 w9 ⟨rfl, rfl⟩
          go_wp2_with fail
          refine HCL.out.mono ?_
          rintro x9 w4 ⟨rfl, hb4⟩
          clear h0 h1 h2 h3 hH
          have hB4 := bcat2 hB hb4
          have hor := HOR.out
          go_wp2_with fail
          clear hor
          refine (HLI.out _ hB4).mono ?_
          rintro x9 w5 ⟨r, rfl, hr, hb5⟩
          have hb45 := bcat2 hb4 hb5
          have hB5 := bcat2 hB hb45
          have hO5 := blk_below hO hb45
          have hN5 := blk_below hN hb45
          have hrow5 := hrow.kept (below_grown hb45 none) (by cases ra <;> simp [Value.ownBlock])
          have hls5 : Lsts w5 B0 (.slice ra vs.length rcap) vs (rcs n (clq n zs e) k) := hls.keep hb45.size (fun g _ h2 _ => hb45.block g h2) (.inl rfl)
          have hBs5 : B0 ≤ w5.heap.size := Nat.le_trans hBs hb45.size
          obtain ⟨qa, qcap, qb, qo, rfl, hq, hq1, hq2, hq3, hq4⟩ := hr
          have hqB : B0 ≤ qb := by have := hb4.size; omega
          have hown5 : ∀ g, (Value.slice ra vs.length rcap).ownBlock = some g → g < w4.heap.size := fun g hg9 => by
            have hg8 : g < w9.heap.size := by
              rcases hrow.2 with ⟨h1, _⟩ | ⟨g', cap, cur, h1, _, hh9, _⟩
              · rw [h1] at hg9; simp [Value.ownBlock] at hg9
              · rw [h1] at hg9
                simp [Value.ownBlock] at hg9
                subst hg9
                exact (Array.getElem?_eq_some_iff.1 hh9).1
            exact Nat.lt_of_lt_of_le hg8 hb4.size
          rw [li_len] at hq2 ⊢
          have HQ := hide hq
          have HLL := hide (li_len xs)
          clear hq hO hN hrow hls hB hb4 hb5 hb45 hBs hB4
          go_wp2
          go_loopw [48] (fun j wi => ∃ t : Nat, t ≤ xs.length ∧ j = .int .i64 t ∧ Blk wi nb 3 ((nmt n (clq n zs e) k (xs.take t) (vs.length : Nat)).map (Value.int .i64)) ∧ w5.grownBy wi (some nb)) (fun j _ => xs.length - (intOf j).toNat)
          case atStart => exact ⟨0, Nat.zero_le _, rfl, by rw [List.take_zero, nmt_nil]; exact hN5, gb_refl _ _⟩
          case round =>
            clear hN5
            obtain ⟨t, ht, rfl, hN, hgw⟩ := hrel
            have hOi := hO5.grown hgw (by simp; omega)
            have o4 : wr.cell? ⟨ob, 4, none⟩ = some (.slice ra vs.length rcap) := hOi.cell 4
            have o5 : wr.cell? ⟨ob, 5, none⟩ = some (.slice (some ⟨nb, 0, none⟩) n n) := hOi.cell 5
            by_cases htl : t < xs.length
            · have hrd : Reads wr qa qb qo (li xs) := HQ.out.of_eq (hgw.block qb hq1 (by simp; omega))
              have hck := hrd.cell t (by rw [HLL.out]; exact htl)
              rw [li_get htl] at hck
              obtain rfl := hrd.at_ (by rw [HLL.out]; omega)
              obtain ⟨y, hye⟩ : ∃ y, xs[t] = y := ⟨_, rfl⟩
              have hyn : y < n := by rw [← hye]; exact HLX.out _ (List.getElem_mem htl)
              have hsn : xs.take (t + 1) = xs.take t ++ [y] := by rw [List.take_succ_eq_append_getElem htl, hye]
              rw [hye] at hck
              have HN6 := hide (show Blk (wr.setCell ⟨nb, y, none⟩ (.int .i64 (vs.length : Nat))) nb 3 ((nmt n (clq n zs e) k (xs.take (t + 1)) (vs.length : Nat)).map (Value.int .i64)) by
                rw [hsn, ← nmt_set]; exact hN.setInt y _)
              have hgw6 := gb_trans hgw (gb_set wr nb y (.int .i64 (vs.length : Nat))) (fun j hj => .inl (by injection hj with hj; exact hj.symm))
              have hMc := hN.int (y := y) (by simp; exact hyn)
              have hMf := hN.frozen y
              clear hsn hye hN hgw hOi hrd
              generalize ((nmt n (clq n zs e) k (xs.take t) (vs.length : Nat))[y]?.getD 0) = z9 at *
              go_wp2
              go_roundw
              case rel => exact ⟨t + 1, by omega, by go_num, HN6.out, hgw6⟩
              case measure => simp [intOf]; omega
            · have htn : t = xs.length := by omega
              subst htn
              have HN6 := hide (show Blk wr nb 3 ((nml n (clq n zs e) (k + 1)).map (Value.int .i64)) by
                rw [← HNA.out, ← HVL.out]
                rw [List.take_length] at hN
                exact hN)
              have hrow6 := own_keep' hrow5 (fun g h1 h2 => hgw.block g h2 (by simp; omega))
              have hls6 : Lsts wr B0 (.slice ra vs.length rcap) vs (rcs n (clq n zs e) k) := hls5.keep hgw.size (fun g h1 h2 _ => hgw.block g h2 (by simp; omega)) (.inl rfl)
              have hB6 : Below w2.heap.size w2 wr := hB5.grown hgw (by omega) (fun t e9 => by injection e9; omega)
              have hrd : Reads wr qa qb qo (li xs) := HQ.out.of_eq (hgw.block qb hq1 (by simp; omega))
              have hs6 := hgw.size
              have HRD := hide hrd
              have hq1' : qb < wr.heap.size := by omega
              clear hrow5 hls5 hB5 hN hgw hrd
              go_wp2_with (first
                | (at_builtin; refine wpList_append_own_at _ rfl _ _ 25 rfl B0 22 i0 (.slice none 0 0) 1 24 under25b hi hz0 hz1 hz2 rfl (by decide) _ _ _ rfl (World.ownsRow.alloc hrow6 _) ⟨wr.heap.size, 0, none⟩ 1 1 [.slice qa xs.length qcap] rfl rfl ?c1 ?c2 ?c3 ?c4 ?c5 ?_))
              case c1 => exact cell_one_new _ _ _
              case c2 => simp [Value.oneCell']
              case c3 => unfold maxLen; omega
              case c4 => omega
              case c5 => simp; omega
              intro v' w7 hown' hgrow hnil hloc
              obtain ⟨ra', rcap', rfl⟩ := own_slice' hown'
              have hbl : ∀ g, g < wr.heap.size → (Value.slice ra vs.length rcap).ownBlock ≠ some g → w7.heap[g]? = wr.heap[g]? := fun g h1 h2 => (hgrow.block g (by simp; omega) (fun e => h2 e.symm)).trans (Below.block (balloc wr _) g h1)
              have hs7 : wr.heap.size < w7.heap.size := by have := hgrow.size; simp at this; omega
              have hB7 : Below w2.heap.size w2 w7 := (hB6.alloc hB6.size _).grown hgrow (by simp; omega) (fun t e => by have := owns_ge hrow6 t e; omega)
              have hlo : (Value.slice ra' (vs.length + 1) rcap').ownBlock = (Value.slice ra vs.length rcap).ownBlock ∨ ∀ g, (Value.slice ra' (vs.length + 1) rcap').ownBlock = some g → wr.heap.size ≤ g := by
                rcases hloc with h | h
                · exact .inl h
                · right; intro g hg; rw [h] at hg; simp at hg; omega
              have hle : (li xs).length = xs.length := HLL.out
              have hls7 := (hls6.keep (r' := .slice ra' (vs.length + 1) rcap') (by omega) (fun g _ h2 h3 => hbl g h2 h3) hlo).snoc (x := .slice qa xs.length qcap) (l := li xs) ⟨qa, qcap, qb, qo, by rw [hle], HRD.out.of_eq (hbl qb hq1' (fun e => by have := hown5 _ e; omega)), by omega, by rw [hle]; exact hq2, hq3, by omega, fun g hg e => by
                subst e
                rcases hlo with h | h
                · have := hown5 _ (h ▸ hg); omega
                · have := h _ hg; omega⟩
              have hrow7 : w7.ownsRow B0 22 1 (.slice ra' (vs.length + 1) rcap') (vs ++ [Value.slice qa xs.length qcap]).length (vs ++ [Value.slice qa xs.length qcap]) := by simpa using hown'
              have hgo : ∀ g, (Value.slice ra vs.length rcap).ownBlock = some g → B0 ≤ g := fun g hg => owns_ge hrow6 g hg
              have hO7 := hOi.of_eq (hbl ob hOi.lt (fun e => by have := hgo _ e; omega))
              have hN7 := HN6.out.of_eq (hbl nb HN6.out.lt (fun e => by have := hgo _ e; omega))
              have p4 : w7.cell? ⟨ob, 4, none⟩ = some (.slice ra vs.length rcap) := hO7.cell 4
              have p4f := hO7.frozen 4
              have HO8 := hide (hO7.set 4 (.slice ra' (vs.length + 1) rcap'))
              have HN8 := hide (hN7.other (p := ⟨ob, 4, none⟩) (fun h => hne h.symm) (.slice ra' (vs.length + 1) rcap'))
              have hB8 := hB7.setCell (p := ⟨ob, 4, none⟩) hgO (.slice ra' (vs.length + 1) rcap')
              have hk8 : ∀ g, B0 ≤ g → g < w7.heap.size → (w7.setCell ⟨ob, 4, none⟩ (.slice ra' (vs.length + 1) rcap')).heap[g]? = w7.heap[g]? := fun g h1 _ => Below.heap_setCell _ _ _ g (by simp; omega)
              have HR8 := hide (own_keep' hrow7 hk8)
              have HL8 := hide (hls7.keep (W' := w7.setCell ⟨ob, 4, none⟩ (.slice ra' (vs.length + 1) rcap')) (r' := .slice ra' (vs.length + 1) rcap') (by rw [size_set]; omega) (fun g h1 h2 _ => hk8 g h1 h2) (.inl rfl))
              have hs8 : B0 ≤ (w7.setCell ⟨ob, 4, none⟩ (.slice ra' (vs.length + 1) rcap')).heap.size := by rw [size_set]; omega
              have hlv : (vs ++ [Value.slice qa xs.length qcap]).length = vs.length + 1 := by simp
              clear hown' hgrow hnil hloc hlo hbl hrow6 hls6 hB6 hOi o4 o5 hls7 hrow7 hO7 hN7 hB7 hk8
              go_wp2
              go_roundw
              case rel => exact ⟨k + 1, vs ++ [Value.slice qa xs.length qcap], _, by omega, by go_num, by rw [HS10.out], HO8.out, HN8.out, HR8.out, by rw [HE.out]; exact HL8.out, hB8, hs8⟩
              case measure => simp [intOf]; omega
      · have hkn : k = n := by omega
        subst hkn
        have hR := blk_below hR2 hB
        have hS9 := blk_below hS2 hB
        have hBw := bcat2 hB2 hB
        have hz0' := hB0.size
        obtain ⟨W8, hW8, hR8, hS8, hB8, hk8, hs8⟩ := put68 hBw hR hS9 (by omega) (by omega) (.int .i64 k) (.slice va vl vc) (.int .i64 e) (.slice ia il ic) (.slice ra vs.length rcap) (.slice (some ⟨nb, 0, none⟩) k k) (.int .i64 0) (.int .i64 0)
        obtain ⟨g0, g1, g2, g3, g4, g5⟩ : wr.cell? ⟨ob, 0, none⟩ = some (.int .i64 k) ∧ wr.cell? ⟨ob, 1, none⟩ = some (.slice va vl vc) ∧ wr.cell? ⟨ob, 2, none⟩ = some (.int .i64 e) ∧ wr.cell? ⟨ob, 3, none⟩ = some (.slice ia il ic) ∧ wr.cell? ⟨ob, 4, none⟩ = some (.slice ra vs.length rcap) ∧ wr.cell? ⟨ob, 5, none⟩ = some (.slice (some ⟨nb, 0, none⟩) k k) := ⟨hO.cell 0, hO.cell 1, hO.cell 2, hO.cell 3, hO.cell 4, hO.cell 5⟩
        obtain ⟨r0, r1, r2, r3, r4, r5⟩ : wr.cell? ⟨w.heap.size + 1, 0, none⟩ = some (.int .i64 0) ∧ wr.cell? ⟨w.heap.size + 1, 1, none⟩ = some (.slice none 0 0) ∧ wr.cell? ⟨w.heap.size + 1, 2, none⟩ = some (.int .i64 0) ∧ wr.cell? ⟨w.heap.size + 1, 3, none⟩ = some (.slice none 0 0) ∧ wr.cell? ⟨w.heap.size + 1, 4, none⟩ = some (.slice none 0 0) ∧ wr.cell? ⟨w.heap.size + 1, 5, none⟩ = some (.slice none 0 0) := ⟨hR.cell 0, hR.cell 1, hR.cell 2, hR.cell 3, hR.cell 4, hR.cell 5⟩
        obtain ⟨f0, f1, f2, f3, f4, f5⟩ : wr.frozen? ⟨w.heap.size + 1, 0, none⟩ = false ∧ wr.frozen? ⟨w.heap.size + 1, 1, none⟩ = false ∧ wr.frozen? ⟨w.heap.size + 1, 2, none⟩ = false ∧ wr.frozen? ⟨w.heap.size + 1, 3, none⟩ = false ∧ wr.frozen? ⟨w.heap.size + 1, 4, none⟩ = false ∧ wr.frozen? ⟨w.heap.size + 1, 5, none⟩ = false := ⟨hR.frozen 0, hR.frozen 1, hR.frozen 2, hR.frozen 3, hR.frozen 4, hR.frozen 5⟩
        obtain ⟨_, y0, y1, fy0, fy1, s0, s1⟩ := Two.mk' hS9
        go_wp2
        rw [← hW8]
        clear hW8 g0 g1 g2 g3 g4 g5 r0 r1 r2 r3 r4 r5 f0 f1 f2 f3 f4 f5 y0 y1 fy0 fy1 s0 s1
        have hk9 : ∀ g, B0 ≤ g → g < wr.heap.size → W8.heap[g]? = wr.heap[g]? := fun g h1 _ => hk8 g (by omega) (by omega)
        have hIV := ((hSI2.keep (fun g _ h2 => hB.block g h2) hB.size).keep (w' := W8) (fun g h1 _ => hk8 g (by omega) (by omega)) (by omega)).sl
        have hRW := owns_mono (own_keep' hrow hk9) (show w.heap.size ≤ B0 by omega)
        have hLS := (hls.keep (W' := W8) (r' := .slice ra vs.length rcap) (by omega) (fun g h1 h2 _ => hk9 g h1 h2) (.inl rfl)).mono (show w.heap.size ≤ B0 by omega)
        have hN8 := hN.of_eq (hk8 nb (by omega) (by omega))
        have hNS := (SlF.of_blk (base := w.heap.size) hN8 (nml_len k _ k).symm (by rw [nml_len]; omega) (by omega)).sl
        rw [HPT.out.nml_all] at hNS
        obtain ⟨z0, z1, _, _⟩ := hS8.two
        obtain ⟨q0, q1, q2, q3, q4, q5⟩ : W8.cell? ⟨w.heap.size + 1, 0, none⟩ = some (.int .i64 k) ∧ W8.cell? ⟨w.heap.size + 1, 1, none⟩ = some (.slice va vl vc) ∧ W8.cell? ⟨w.heap.size + 1, 2, none⟩ = some (.int .i64 e) ∧ W8.cell? ⟨w.heap.size + 1, 3, none⟩ = some (.slice ia il ic) ∧ W8.cell? ⟨w.heap.size + 1, 4, none⟩ = some (.slice ra vs.length rcap) ∧ W8.cell? ⟨w.heap.size + 1, 5, none⟩ = some (.slice (some ⟨nb, 0, none⟩) k k) := ⟨hR8.cell 0, hR8.cell 1, hR8.cell 2, hR8.cell 3, hR8.cell 4, hR8.cell 5⟩
        exact bodyPost_ret (v := .tuple #[.agg #[.int .i64 k, .slice va vl vc, .int .i64 e, .slice ia il ic, .slice ra vs.length rcap, .slice (some ⟨nb, 0, none⟩) k k], .agg #[.int .i64 0, .int .i64 0]]) (by simp [results, Tryd.results36, go_sem, z0, z1, q0, q1, q2, q3, q4, q5]) rfl ⟨_, _, _, vs, rfl, hIV, hRW, hLS, hNS, hB8⟩
end Go.Proofs.YtobnfbnholbfoaaDoor

namespace Go.Proofs.YtobnfbnholbfoaaDoor
open Go Go.RowKit Go.Maps

/-- A block of six cells, with all that the walk asks of it. -/
structure Six (W : World) (b : Nat) (x y z t p q : Value) : Prop where
  blk : Blk W b 65 [x, y, z, t, p, q]
  c0 : W.cell? ⟨b, 0, none⟩ = some x
  c1 : W.cell? ⟨b, 1, none⟩ = some y
  c2 : W.cell? ⟨b, 2, none⟩ = some z
  c3 : W.cell? ⟨b, 3, none⟩ = some t
  c4 : W.cell? ⟨b, 4, none⟩ = some p
  c5 : W.cell? ⟨b, 5, none⟩ = some q
  f0 : W.frozen? ⟨b, 0, none⟩ = false
  f1 : W.frozen? ⟨b, 1, none⟩ = false
  f2 : W.frozen? ⟨b, 2, none⟩ = false
  f3 : W.frozen? ⟨b, 3, none⟩ = false
  f4 : W.frozen? ⟨b, 4, none⟩ = false
  f5 : W.frozen? ⟨b, 5, none⟩ = false
  s0 : W.setCell ⟨b, 0, none⟩ x = W
  s1 : W.setCell ⟨b, 1, none⟩ y = W
  s2 : W.setCell ⟨b, 2, none⟩ z = W
  s3 : W.setCell ⟨b, 3, none⟩ t = W
  s4 : W.setCell ⟨b, 4, none⟩ p = W
  s5 : W.setCell ⟨b, 5, none⟩ q = W
theorem Six.mk' {W : World} {b : Nat} {x y z t p q : Value} (h : Blk W b 65 [x, y, z, t, p, q]) : Six W b x y z t p q :=
  ⟨h, h.cell 0, h.cell 1, h.cell 2, h.cell 3, h.cell 4, h.cell 5, h.frozen 0, h.frozen 1, h.frozen 2, h.frozen 3, h.frozen 4, h.frozen 5, setCell_self h (by simp), setCell_self h (by simp), setCell_self h (by simp), setCell_self h (by simp), setCell_self h (by simp), setCell_self h (by simp)⟩
set_option maxRecDepth 100000 in
set_option maxHeartbeats 4000000 in
theorem kop_bad (N : Int) (v : Value) (zs : List Int) (w : World) (hv : Sl w v zs) (hc : (gfault N zs).1 ≠ 0) :
    Calls Tryd.prog 36 #[.agg #[.int .i64 N, v]] w fun x w' => x = .returned (.tuple #[.agg #[.int .i64 0, .slice none 0 0, .int .i64 0, .slice none 0 0, .slice none 0 0, .slice none 0 0], .agg #[.int .i64 (gfault N zs).1, .int .i64 (gfault N zs).2]]) ∧ Below w.heap.size w w' := by
  obtain ⟨w0, hw0⟩ : ∃ w0, w0 = ((w.alloc (.cells #[.int .i64 N, v] 24)).alloc (.cells #[.int .i64 0, .slice none 0 0, .int .i64 0, .slice none 0 0, .slice none 0 0, .slice none 0 0] 65)).alloc (.cells #[.int .i64 0, .int .i64 0] 27) := ⟨_, rfl⟩
  have hB0 : Below w.heap.size w w0 := by rw [hw0]; exact ((balloc w _).alloc (by simp) _).alloc (by simp; omega) _
  have hX0 : Blk w0 w.heap.size 24 [.int .i64 N, v] := by rw [hw0]; exact ((blk0 _ _).alloc _).alloc _
  have hR0 : Blk w0 (w.heap.size + 1) 65 [.int .i64 0, .slice none 0 0, .int .i64 0, .slice none 0 0, .slice none 0 0, .slice none 0 0] := by
    rw [hw0]
    have h : Blk ((w.alloc (.cells #[.int .i64 N, v] 24)).alloc (.cells #[.int .i64 0, .slice none 0 0, .int .i64 0, .slice none 0 0, .slice none 0 0, .slice none 0 0] 65)) _ 65 [.int .i64 0, .slice none 0 0, .int .i64 0, .slice none 0 0, .slice none 0 0, .slice none 0 0] := World.alloc_heap_new _ _
    rw [World.size_alloc] at h
    exact h.alloc _
  have hS0 : Blk w0 (w.heap.size + 1 + 1) 27 [.int .i64 0, .int .i64 0] := by
    rw [hw0]
    have h := blk0 (w := (w.alloc (.cells #[.int .i64 N, v] 24)).alloc (.cells #[.int .i64 0, .slice none 0 0, .int .i64 0, .slice none 0 0, .slice none 0 0, .slice none 0 0] 65)) (T := 27) (.int .i64 0) (.int .i64 0)
    rw [World.size_alloc, World.size_alloc] at h
    exact h
  have hv0 := hv.below hB0
  have HCK := hide (opened_bad N v zs w0 hv0 hc)
  have hcb : ((gfault N zs).1 != 0) = true := by simpa using hc
  obtain ⟨c0, c1, _, _⟩ := hX0.two
  generalize (gfault N zs).1 = c at *
  generalize (gfault N zs).2 = i at *
  rw [hw0] at c0 c1
  go_enter Tryd.func36, Tryd.ntmps36
  go_wp2_with fail
  rw [← hw0]
  refine HCK.out.mono ?_
  rintro x w1 ⟨rfl, hb1⟩
  clear c0 c1 HCK hw0
  obtain ⟨w2, hw2⟩ : ∃ w2, w2 = (w1.alloc (.cells #[.int .i64 0, .slice none 0 0, .int .i64 0, .slice none 0 0] 63)).alloc (.cells #[.int .i64 c, .int .i64 i] 27) := ⟨_, rfl⟩
  have hb2 : Below w1.heap.size w1 w2 := by rw [hw2]; exact (balloc w1 _).alloc (by simp) _
  have hF2 : Blk w2 (w1.heap.size + 1) 27 [.int .i64 c, .int .i64 i] := by
    rw [hw2]
    have := blk0 (w := w1.alloc (.cells #[.int .i64 0, .slice none 0 0, .int .i64 0, .slice none 0 0] 63)) (T := 27) (.int .i64 c) (.int .i64 i)
    rwa [World.size_alloc] at this
  have hB1 : Below w0.heap.size w0 w2 := bcat2 hb1 hb2
  have hB2 := bcat2 hB0 hB1
  have hR := blk_below hR0 hB1
  have hS9 := blk_below hS0 hB1
  obtain ⟨t0, t1, _, _⟩ := hF2.two
  obtain ⟨_, g0, g1, g2, g3, g4, g5, gf0, gf1, gf2, gf3, gf4, gf5, gs0, gs1, gs2, gs3, gs4, gs5⟩ := Six.mk' hR
  obtain ⟨y0, y1, fy0, fy1⟩ := hS9.two
  rw [hw2] at t0 t1
  go_wp2_with fail
  rw [← hw2]
  rw [← hw2] at t0 t1
  clear hw2
  go_region
  go_wp2
  obtain ⟨hR6, hB6⟩ := put2 hS9 hB2 (by omega) c i
  have hB7 := bdrew hB6
  have hR7 : Blk ((w2.setCell ⟨w.heap.size + 1 + 1, 0, none⟩ (.int .i64 c)).setCell ⟨w.heap.size + 1 + 1, 1, none⟩ (.int .i64 i)).drew (w.heap.size + 1 + 1) 27 [.int .i64 c, .int .i64 i] := hR6
  have hG7 : Blk ((w2.setCell ⟨w.heap.size + 1 + 1, 0, none⟩ (.int .i64 c)).setCell ⟨w.heap.size + 1 + 1, 1, none⟩ (.int .i64 i)).drew (w.heap.size + 1) 65 [.int .i64 0, .slice none 0 0, .int .i64 0, .slice none 0 0, .slice none 0 0, .slice none 0 0] :=
    (hR.other (p := ⟨w.heap.size + 1 + 1, 0, none⟩) (by simp) (.int .i64 c)).other (p := ⟨w.heap.size + 1 + 1, 1, none⟩) (by simp) (.int .i64 i)
  generalize ((w2.setCell ⟨w.heap.size + 1 + 1, 0, none⟩ (.int .i64 c)).setCell ⟨w.heap.size + 1 + 1, 1, none⟩ (.int .i64 i)).drew = W at hR7 hB7 hG7 ⊢
  obtain ⟨z0, z1, _, _⟩ := hR7.two
  obtain ⟨_, q0, q1, q2, q3, q4, q5, _⟩ := Six.mk' hG7
  exact bodyPost_ret (v := .tuple #[.agg #[.int .i64 0, .slice none 0 0, .int .i64 0, .slice none 0 0, .slice none 0 0, .slice none 0 0], .agg #[.int .i64 c, .int .i64 i]]) (by simp [results, Tryd.results36, go_sem, z0, z1, q0, q1, q2, q3, q4, q5]) rfl ⟨rfl, hB7⟩
set_option maxRecDepth 100000 in
set_option maxHeartbeats 4000000 in
theorem cla_bad (N : Int) (v : Value) (zs : List Int) (w : World) (hv : Sl w v zs) (hc : (gfault N zs).1 ≠ 0) :
    Calls Tryd.prog 9 #[.agg #[.int .i64 N, v]] w fun x w' => x = .returned (.tuple #[.slice none 0 0, .agg #[.int .i64 (gfault N zs).1, .int .i64 (gfault N zs).2]]) ∧ Below w.heap.size w w' := by
  obtain ⟨w0, BG⟩ := Beg.new w N v
  have HCK := hide (kop_bad N v zs w0 (hv.below BG.bel) hc)
  obtain ⟨c0, c1, _, _⟩ := BG.box.two
  have hcb : ((gfault N zs).1 != 0) = true := by simpa using hc
  generalize (gfault N zs).1 = c at *
  generalize (gfault N zs).2 = i at *
  rw [BG.eq] at c0 c1
  go_enter Tryd.func9, Tryd.ntmps9
  go_wp2_with fail
  rw [← BG.eq]
  refine HCK.out.mono ?_
  rintro x w1 ⟨rfl, hb1⟩
  clear c0 c1
  obtain ⟨w2, hw2⟩ : ∃ w2, w2 = (w1.alloc (.cells #[.int .i64 0, .slice none 0 0, .int .i64 0, .slice none 0 0, .slice none 0 0, .slice none 0 0] 65)).alloc (.cells #[.int .i64 c, .int .i64 i] 27) := ⟨_, rfl⟩
  have hB1 : Below w0.heap.size w0 w2 := by rw [hw2]; exact bcat2 hb1 ((balloc w1 _).alloc (by simp) _)
  have hF1 : Blk w2 (w1.heap.size + 1) 27 [.int .i64 c, .int .i64 i] := by
    rw [hw2]
    have := blk0 (w := w1.alloc (.cells #[.int .i64 0, .slice none 0 0, .int .i64 0, .slice none 0 0, .slice none 0 0, .slice none 0 0] 65)) (T := 27) (.int .i64 c) (.int .i64 i)
    rwa [World.size_alloc] at this
  have hR1 := blk_below BG.res hB1
  have hBw := bcat BG.bel hB1 BG.bel.size
  obtain ⟨y0, y1, fy0, fy1⟩ := hR1.two
  obtain ⟨t0, t1, _, _⟩ := hF1.two
  rw [hw2] at t0 t1
  go_wp2_with fail
  rw [← hw2]
  rw [← hw2] at t0 t1
  clear hw2
  go_region
  all_goals (
    go_wp2
    obtain ⟨hR6, hB6⟩ := put2 hR1 hBw (by omega) c i
    have hB7 := bdrew hB6
    have hR7 : Blk ((w2.setCell ⟨w.heap.size + 1, 0, none⟩ (.int .i64 c)).setCell ⟨w.heap.size + 1, 1, none⟩ (.int .i64 i)).drew (w.heap.size + 1) 27 [.int .i64 c, .int .i64 i] := hR6
    generalize ((w2.setCell ⟨w.heap.size + 1, 0, none⟩ (.int .i64 c)).setCell ⟨w.heap.size + 1, 1, none⟩ (.int .i64 i)).drew = W at hR7 hB7 ⊢
    obtain ⟨z0, z1, _, _⟩ := hR7.two
    exact bodyPost_ret (v := .tuple #[.slice none 0 0, .agg #[.int .i64 c, .int .i64 i]]) (by simp [results, Tryd.results9, go_sem, z0, z1]) rfl ⟨rfl, hB7⟩)
set_option maxRecDepth 100000 in
set_option maxHeartbeats 4000000 in
theorem cla_good (n e : Nat) (v : Value) (zs : List Int) (w : World) (hv : Sl w v zs) (hg : IsGrp n zs e) (hT : Tab w) :
    Calls Tryd.prog 9 #[.agg #[.int .i64 n, v]] w fun x w' => ∃ r vs, x = .returned (.tuple #[r, .agg #[.int .i64 0, .int .i64 0]]) ∧ w'.ownsRow w.heap.size 22 1 r vs.length vs ∧ Lsts w' w.heap.size r vs (rcs n (clq n zs e) n) ∧ Below w.heap.size w w' := by
  obtain ⟨va, vl, vc, rfl⟩ := hv.isSlice
  obtain ⟨w0, BG⟩ := Beg.new w n (.slice va vl vc)
  have HCK := hide (kop_good n e (.slice va vl vc) zs w0 (hv.below BG.bel) hg (hT.below BG.bel))
  obtain ⟨c0, c1, _, _⟩ := BG.box.two
  have hz0 : w.heap.size + 1 < w0.heap.size := BG.res.lt
  rw [BG.eq] at c0 c1
  go_enter Tryd.func9, Tryd.ntmps9
  go_wp2_with fail
  rw [← BG.eq]
  refine HCK.out.mono ?_
  rintro x w1 ⟨u, cv, nv, vs, rfl, hu, hrow, hls, hnv, hb1⟩
  obtain ⟨ia, il, ic, rfl⟩ := hu.isSlice
  obtain ⟨na, nl, nc, rfl⟩ := hnv.isSlice
  clear c0 c1 hu hnv
  obtain ⟨ra, rcap, rfl⟩ := own_slice' hrow
  obtain ⟨w2, hw2⟩ : ∃ w2, w2 = (w1.alloc (.cells #[.int .i64 n, .slice va vl vc, .int .i64 e, .slice ia il ic, .slice ra vs.length rcap, .slice na nl nc] 65)).alloc (.cells #[.int .i64 0, .int .i64 0] 27) := ⟨_, rfl⟩
  have hb2 : Below w1.heap.size w1 w2 := by rw [hw2]; exact (balloc w1 _).alloc (by simp) _
  have hB1 : Below w0.heap.size w0 w2 := bcat2 hb1 hb2
  have hF1 : Blk w2 (w1.heap.size + 1) 27 [.int .i64 0, .int .i64 0] := by
    rw [hw2]
    have := blk0 (w := w1.alloc (.cells #[.int .i64 n, .slice va vl vc, .int .i64 e, .slice ia il ic, .slice ra vs.length rcap, .slice na nl nc] 65)) (T := 27) (.int .i64 0) (.int .i64 0)
    rwa [World.size_alloc] at this
  have hO1 : Blk w2 w1.heap.size 65 [.int .i64 n, .slice va vl vc, .int .i64 e, .slice ia il ic, .slice ra vs.length rcap, .slice na nl nc] := by
    rw [hw2]
    have h : Blk (w1.alloc (.cells #[.int .i64 n, .slice va vl vc, .int .i64 e, .slice ia il ic, .slice ra vs.length rcap, .slice na nl nc] 65)) _ 65 [.int .i64 n, .slice va vl vc, .int .i64 e, .slice ia il ic, .slice ra vs.length rcap, .slice na nl nc] := World.alloc_heap_new _ _
    exact h.alloc _
  have hR1 := blk_below BG.res hB1
  have hBw := bcat BG.bel hB1 BG.bel.size
  have hrow2 := own_keep' hrow (fun g _ h2 => hb2.block g h2)
  have hls2 : Lsts w2 w0.heap.size (.slice ra vs.length rcap) vs (rcs n (clq n zs e) n) := hls.keep hb2.size (fun g _ h2 _ => hb2.block g h2) (.inl rfl)
  obtain ⟨_, y0, y1, fy0, fy1, s0, s1⟩ := Two.mk' hR1
  obtain ⟨t0, t1, _, _⟩ := hF1.two
  have o4 : w2.cell? ⟨w1.heap.size, 4, none⟩ = some (.slice ra vs.length rcap) := hO1.cell 4
  rw [hw2] at t0 t1 o4 y0 y1 fy0 fy1 s0 s1
  clear hrow hls
  go_wp2
  rw [← hw2]
  rw [← hw2] at y0 y1
  clear hw2
  exact bodyPost_ret (v := .tuple #[.slice ra vs.length rcap, .agg #[.int .i64 0, .int .i64 0]]) (by simp [results, Tryd.results9, go_sem, y0, y1]) rfl ⟨_, vs, rfl, owns_mono hrow2 (by omega), hls2.mono (by omega), hBw⟩
/-- What All answers at a group, read. -/
theorem cla_sl (n e : Nat) (v : Value) (zs : List Int) (w : World) (hv : Sl w v zs) (hg : IsGrp n zs e) (hT : Tab w) :
    Calls Tryd.prog 9 #[.agg #[.int .i64 n, v]] w fun x w' => ∃ r1 r2 r3, x = .returned (.tuple #[.slice r1 r2 r3, .agg #[.int .i64 0, .int .i64 0]]) ∧ SlL w' (.slice r1 r2 r3) (rcs n (clq n zs e) n) ∧ Below w.heap.size w w' :=
  lists_sl hT.lt (cla_good n e v zs w hv hg hT)
end Go.Proofs.YtobnfbnholbfoaaDoor
