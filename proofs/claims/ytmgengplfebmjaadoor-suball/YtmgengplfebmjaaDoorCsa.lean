/- Package coset, and the document on cosets; sets that part things, and their numbers. -/
import Derived.Test.YtmgengplfebmjaaDoorSbf
import Derived.Test.YtmgengplfebmjaaDoorBads
import Derived.Test.YtmgengplfebmjaaDoorMakW
import Derived.Test.YtmgengplfebmjaaDoorDw
import Derived.Deep.AppendLies
import Derived.Laws.EntriesVeiled
import Derived.Maps.OwnSet
import Derived.Maps.AppendAt
import Derived.BigQuiet
import Derived.Maps.Ext
namespace Go.Proofs.YtmgengplfebmjaaDoor
open Go Go.RowKit

def rgtq (n : Nat) (zs : List Int) (xs : List Nat) (a y : Nat) : Bool := xs.any fun x => decide (tm n zs x a = y)
def lftq (n : Nat) (zs : List Int) (xs : List Nat) (a y : Nat) : Bool := xs.any fun x => decide (tm n zs a x = y)
end Go.Proofs.YtmgengplfebmjaaDoor

namespace Go.Proofs.YtmgengplfebmjaaDoor
open Go Go.RowKit Go.Maps

theorem und77 : Tryd.prog.underlying 73 = some (.int .u64) := by kernel_rfl
theorem und3' : Tryd.prog.underlying 3 = some (.int .i64) := by kernel_rfl
theorem under25b : Tryd.prog.underlying 25 = some (.slice 22) := by kernel_rfl
theorem law77 : Keyed Tryd.prog 73 := int_keyed und77
theorem zero3 (w : World) : (zeroValue 3).run Tryd.prog w = .ok (.int .i64 0) w := by kernel_rfl
theorem info22b : (Tryd.prog.info? 22).map (fun i => (i.zero, i.size, i.bytes)) = some (some (.slice none 0 0), 1, 24) := by kernel_rfl
/-- The things at which a set is met first. -/
def fsts (n : Nat) (f : Nat → Nat → Bool) (j : Nat) : List Nat := (List.range j).filter fun a => (List.range a).all fun b => decide (bs (f b) n ≠ bs (f a) n)
theorem fsts_succ (n : Nat) (f : Nat → Nat → Bool) (j : Nat) : fsts n f (j + 1) = if (List.range j).all (fun b => decide (bs (f b) n ≠ bs (f j) n)) then fsts n f j ++ [j] else fsts n f j := by
  unfold fsts
  rw [List.range_succ, List.filter_append]
  by_cases h : (List.range j).all (fun b => decide (bs (f b) n ≠ bs (f j) n)) = true
  · rw [if_pos h, List.filter_cons, if_pos h, List.filter_nil]
  · rw [if_neg h, List.filter_cons, if_neg h, List.filter_nil, List.append_nil]
theorem fsts_len (n : Nat) (f : Nat → Nat → Bool) (j : Nat) : (fsts n f j).length ≤ j := Nat.le_trans (List.length_filter_le _ _) (by simp)
/-- What the map knows. -/
def MInv (n : Nat) (f : Nat → Nat → Bool) (j : Nat) (D : DataW Unit) : Prop := ∀ s : Nat, Maps.has D (.int .u64 s) = true ↔ ∃ a, a < j ∧ bs (f a) n = s
/-- The lists that lie in a slice of slices. -/
def Lsts (W : World) (B : Nat) (r : Value) (vs : List Value) (ls : List (List Int)) : Prop := vs.length = ls.length ∧ ∀ (t : Nat) (x : Value) (l : List Int), vs[t]? = some x → ls[t]? = some l → ∃ a cap pb po, x = .slice a l.length cap ∧ Reads W a pb po l ∧ pb < W.heap.size ∧ l.length ≤ cap ∧ cap ≤ maxLen ∧ B ≤ pb ∧ ∀ g, r.ownBlock = some g → pb ≠ g

theorem Lsts.keep {W W' : World} {B : Nat} {r r' : Value} {vs : List Value} {ls : List (List Int)} (h : Lsts W B r vs ls) (hs : W.heap.size ≤ W'.heap.size) (hk : ∀ g, B ≤ g → g < W.heap.size → r.ownBlock ≠ some g → W'.heap[g]? = W.heap[g]?) (hr : r'.ownBlock = r.ownBlock ∨ ∀ g, r'.ownBlock = some g → W.heap.size ≤ g) : Lsts W' B r' vs ls := by
  refine ⟨h.1, fun t x l h1 h2 => ?_⟩
  obtain ⟨a, cap, pb, po, rfl, h3, h4, h5, h6, h7, h8⟩ := h.2 t x l h1 h2
  refine ⟨a, cap, pb, po, rfl, h3.of_eq (hk pb h7 h4 (fun e => h8 pb e rfl)), Nat.lt_of_lt_of_le h4 hs, h5, h6, h7, fun g hg => ?_⟩
  rcases hr with hr | hr
  · exact h8 g (by rw [← hr]; exact hg)
  · have := hr g hg; omega
theorem Lsts.snoc {W : World} {B : Nat} {r : Value} {vs : List Value} {ls : List (List Int)} {x : Value} {l : List Int} (h : Lsts W B r vs ls) (hx : ∃ a cap pb po, x = Value.slice a l.length cap ∧ Reads W a pb po l ∧ pb < W.heap.size ∧ l.length ≤ cap ∧ cap ≤ maxLen ∧ B ≤ pb ∧ ∀ g, r.ownBlock = some g → pb ≠ g) : Lsts W B r (vs ++ [x]) (ls ++ [l]) := by
  refine ⟨by simp [h.1], fun t y m h1 h2 => ?_⟩
  by_cases ht : t < vs.length
  · rw [List.getElem?_append_left ht] at h1
    rw [List.getElem?_append_left (by rw [← h.1]; exact ht)] at h2
    exact h.2 t y m h1 h2
  · have hv : t = vs.length := by
      have := (List.getElem?_eq_some_iff.1 h1).1
      simp at this; omega
    subst hv
    rw [List.getElem?_append_right (Nat.le_refl _)] at h1
    rw [List.getElem?_append_right (by rw [h.1]; exact Nat.le_refl _), h.1] at h2
    simp at h1 h2
    subst h1 h2
    exact hx
theorem minv_step {n j : Nat} {f : Nat → Nat → Bool} {D : DataW Unit} {d : DataW Unit} (h : MInv n f j D) (hD : IsMap D) : MInv n f (j + 1) (D.put (.int .u64 (bs (f j) n : Nat)) d) := by
  intro s
  by_cases e : s = bs (f j) n
  · subst e
    rw [has_put_same hD (by trivial)]
    exact ⟨fun _ => ⟨j, by omega, rfl⟩, fun _ => rfl⟩
  · rw [has_put_other (fun h9 => e (by injection h9 with _ h9; omega)), h s]
    exact ⟨fun ⟨a, h1, h2⟩ => ⟨a, by omega, h2⟩, fun ⟨a, h1, h2⟩ => ⟨a, by
      have : a ≠ j := fun e9 => e (by rw [← h2, e9])
      omega, h2⟩⟩
theorem minv_same {n j : Nat} {f : Nat → Nat → Bool} {D : DataW Unit} (h : MInv n f j D) (hh : Maps.has D (.int .u64 (bs (f j) n : Nat)) = true) : MInv n f (j + 1) D := by
  obtain ⟨b, hb, e⟩ := (h _).1 hh
  intro s
  rw [h s]
  exact ⟨fun ⟨a, h1, h2⟩ => ⟨a, by omega, h2⟩, fun ⟨a, h1, h2⟩ => by
    by_cases e9 : a = j
    · subst e9; exact ⟨b, hb, by rw [e]; exact h2⟩
    · exact ⟨a, by omega, h2⟩⟩
theorem minv_new {n j : Nat} {f : Nat → Nat → Bool} {D : DataW Unit} (h : MInv n f j D) : Maps.has D (.int .u64 (bs (f j) n : Nat)) = false ↔ (List.range j).all (fun b => decide (bs (f b) n ≠ bs (f j) n)) = true := by
  rw [← Bool.not_eq_true, h]
  simp only [List.all_eq_true, List.mem_range, decide_eq_true_eq, not_exists, not_and]
/-- The lists of the sets that are met first. -/
def csl (n : Nat) (f : Nat → Nat → Bool) (j : Nat) : List (List Int) := (fsts n f j).map fun a => li (lst n (f a))
end Go.Proofs.YtmgengplfebmjaaDoor

namespace Go.Proofs.YtmgengplfebmjaaDoor
open Go Go.RowKit Go.Maps

theorem below_grown {w w' : World} (h : Below w.heap.size w w') (row : Option Nat) : w.grownBy w' row := ⟨h.os, h.tape, h.output, h.size, fun b hb _ => h.block b hb⟩
theorem own_slice' {w : World} {base n : Nat} {e : TypeId} {v : Value} {xs : List Value} (h : w.ownsRow base e 1 v n xs) : ∃ a cap, v = .slice a n cap := by
  rcases h.2 with ⟨rfl, rfl⟩ | ⟨g, cap, cur, rfl, _⟩
  · exact ⟨none, 0, rfl⟩
  · exact ⟨_, cap, rfl⟩
theorem map_more {P : Program} {k : TypeId} {R : Value → Option (DataW Unit × List MemPlace)} {w : World} {b n : Nat} {D : DataW Unit} (h : w.ownsMap P k R b n D) : w.ownsMap P k R b (n + 1) D := by
  obtain ⟨es, clock, hb, F, hs, hD⟩ := h
  exact ⟨es, clock, hb, F, Nat.le_succ_of_le hs, hD⟩
theorem map_is {P : Program} {k : TypeId} {R : Value → Option (DataW Unit × List MemPlace)} {w : World} {b n : Nat} {D : DataW Unit} (h : w.ownsMap P k R b n D) : IsMap D := by
  obtain ⟨es, clock, hb, F, hs, hD⟩ := h
  exact ⟨_, hD⟩
end Go.Proofs.YtmgengplfebmjaaDoor

namespace Go.Proofs.YtmgengplfebmjaaDoor
open Go Go.RowKit

/-- The first fault of subgroups, one after the other. -/
def wfault (N : Int) (zs : List Int) : List (List Int) → Int × Int
  | [] => (0, 0)
  | l :: ls => if (ufault N zs l).1 ≠ 0 then ufault N zs l else wfault N zs ls
theorem wfault_skip {N : Int} {zs : List Int} : ∀ (ls : List (List Int)) (k : Nat), (∀ t, t < k → (ufault N zs (ls[t]?.getD [])).1 = 0) → k ≤ ls.length → wfault N zs ls = wfault N zs (ls.drop k)
  | ls, 0, _, _ => by simp
  | [], k + 1, _, h => by simp at h
  | l :: ls, k + 1, h, hk => by
    have h0 : (ufault N zs l).1 = 0 := by simpa using h 0 (by omega)
    rw [List.drop_succ_cons, ← wfault_skip ls k (fun t ht => by simpa using h (t + 1) (by omega)) (by simpa using hk)]
    show (if _ then _ else _) = _
    rw [if_neg (by simpa using h0)]
theorem wfault_at {N : Int} {zs : List Int} {ls : List (List Int)} {k : Nat} (h : ∀ t, t < k → (ufault N zs (ls[t]?.getD [])).1 = 0) (hk : k < ls.length) (hc : (ufault N zs (ls[k]?.getD [])).1 ≠ 0) : wfault N zs ls = ufault N zs (ls[k]?.getD []) := by
  rw [wfault_skip ls k h (Nat.le_of_lt hk), List.drop_eq_getElem_cons hk]
  have e : ls[k]?.getD [] = ls[k] := by simp [hk]
  rw [e] at hc ⊢
  show (if _ then _ else _) = _
  rw [if_pos hc]
theorem wfault_ok {N : Int} {zs : List Int} {ls : List (List Int)} (h : ∀ t, t < ls.length → (ufault N zs (ls[t]?.getD [])).1 = 0) : wfault N zs ls = (0, 0) := by
  rw [wfault_skip ls ls.length h (Nat.le_refl _), List.drop_length]; rfl
end Go.Proofs.YtmgengplfebmjaaDoor

namespace Go.Proofs.YtmgengplfebmjaaDoor
open Go Go.RowKit

theorem own_keep' {W W' : World} {B n : Nat} {e : TypeId} {v : Value} {xs : List Value} (h : W.ownsRow B e 1 v n xs) (hk : ∀ g, B ≤ g → g < W.heap.size → W'.heap[g]? = W.heap[g]?) : W'.ownsRow B e 1 v n xs := by
  refine ⟨h.1, ?_⟩
  rcases h.2 with h0 | ⟨g, cap, cur, hv, hg, hh, rest⟩
  · exact .inl h0
  · exact .inr ⟨g, cap, cur, hv, hg, (hk g hg (Array.getElem?_eq_some_iff.1 hh).1).trans hh, rest⟩
theorem Lsts.mono {W : World} {B B' : Nat} {r : Value} {vs : List Value} {ls : List (List Int)} (h : Lsts W B r vs ls) (hb : B' ≤ B) : Lsts W B' r vs ls :=
  ⟨h.1, fun t x l h1 h2 => by
    obtain ⟨a, cap, pb, po, rfl, h3, h4, h5, h6, h7, h8⟩ := h.2 t x l h1 h2
    exact ⟨a, cap, pb, po, rfl, h3, h4, h5, h6, Nat.le_trans hb h7, h8⟩⟩
theorem wfault_one (N : Int) (zs l : List Int) : wfault N zs [l] = ufault N zs l := by
  show (if (ufault N zs l).1 ≠ 0 then ufault N zs l else (0, 0)) = ufault N zs l
  by_cases h : (ufault N zs l).1 ≠ 0
  · rw [if_pos h]
  · rw [if_neg h]
    obtain ⟨_, _, _, _, _, _, h9⟩ := ufault_zero (by simpa using h)
    exact h9.symm
/-- Three boxes: a group, a list, and a fault that is answered. -/
structure Beg3 (w w0 : World) (N : Int) (v u : Value) : Prop where
  eq : w0 = ((w.alloc (.cells #[.int .i64 N, v] 24)).alloc (.cells #[u] 22)).alloc (.cells #[.int .i64 0, .int .i64 0] 27)
  bel : Below w.heap.size w w0
  box : BoxG w0 w.heap.size N v
  lis : Boxed w0 (w.heap.size + 1) 22 u
  res : Blk w0 (w.heap.size + 1 + 1) 27 [.int .i64 0, .int .i64 0]
theorem Beg3.new (w : World) (N : Int) (v u : Value) : ∃ w0, Beg3 w w0 N v u := by
  refine ⟨_, rfl, ((balloc w _).alloc (by simp) _).alloc (by simp; omega) _, ((blk0 (w := w) (T := 24) _ _).alloc _).alloc _, ?_, ?_⟩
  · have h := (Boxed.new (w.alloc (.cells #[.int .i64 N, v] 24)) 22 u).alloc (.cells #[.int .i64 0, .int .i64 0] 27)
    rw [World.size_alloc] at h
    exact h
  · have h := blk0 (w := (w.alloc (.cells #[.int .i64 N, v] 24)).alloc (.cells #[u] 22)) (T := 27) (.int .i64 0) (.int .i64 0)
    rw [World.size_alloc, World.size_alloc] at h
    exact h
end Go.Proofs.YtmgengplfebmjaaDoor

namespace Go.Proofs.YtmgengplfebmjaaDoor
open Go Go.RowKit

/-- A slice of slices reads as these lists. -/
def SlL (w : World) (v : Value) (rs : List (List Int)) : Prop := ∃ a cap pb po, v = .slice a rs.length cap ∧ (0 < rs.length → a = some ⟨pb, po, none⟩) ∧ (∀ j, j < rs.length → ∃ x, w.cell? ⟨pb, po + j, none⟩ = some x ∧ Sl w x (rs[j]?.getD [])) ∧ pb < w.heap.size ∧ rs.length ≤ cap ∧ cap ≤ maxLen
theorem SlL.below {w w' : World} {v : Value} {rs : List (List Int)} (h : SlL w v rs) (hb : Below w.heap.size w w') : SlL w' v rs := by
  obtain ⟨a, cap, pb, po, rfl, h1, h2, h3, h4, h5⟩ := h
  exact ⟨a, cap, pb, po, rfl, h1, fun j hj => by
    obtain ⟨x, hx, hs⟩ := h2 j hj
    exact ⟨x, below_cell hb hx, hs.below hb⟩, Nat.lt_of_lt_of_le h3 hb.size, h4, h5⟩
theorem SlL.isSlice {w : World} {v : Value} {rs : List (List Int)} (h : SlL w v rs) : ∃ a l c, v = .slice a l c := by
  obtain ⟨a, cap, _, _, rfl, _⟩ := h
  exact ⟨a, _, cap, rfl⟩
end Go.Proofs.YtmgengplfebmjaaDoor

namespace Go.Proofs.YtmgengplfebmjaaDoor
open Go Go.RowKit

theorem SlL.of_own {w : World} {base B : Nat} {v : Value} {vs : List Value} {rs : List (List Int)} (h : w.ownsRow base 22 1 v vs.length vs) (hl : Lsts w B v vs rs) (h0 : 0 < w.heap.size) : SlL w v rs := by
  have hlen := hl.1
  rcases h.2 with ⟨rfl, hz⟩ | ⟨g, cap, cur, rfl, _, hh, h1, h2, _⟩
  · have : rs = [] := List.length_eq_zero_iff.1 (by omega)
    subst this
    exact ⟨none, 0, 0, 0, rfl, by simp, by simp, h0, by simp, by unfold maxLen; omega⟩
  · refine ⟨some ⟨g, 0, none⟩, cap, g, 0, by rw [hlen], fun _ => rfl, fun j hj => ?_, (Array.getElem?_eq_some_iff.1 hh).1, by omega, h2⟩
    have hjv : j < vs.length := by omega
    have h3 := h.cells (g := g) rfl j vs[j] (by simp [hjv])
    rw [show (⟨g, 0, none⟩ : Addr).add j = ⟨g, j, none⟩ by unfold Addr.add; split <;> simp_all] at h3
    obtain ⟨a, c, pb, po, hx, hr, hp, hq1, hq2, _, _⟩ := hl.2 j vs[j] rs[j] (List.getElem?_eq_getElem hjv) (List.getElem?_eq_getElem hj)
    refine ⟨vs[j], by rw [Nat.zero_add]; exact h3, ?_⟩
    rw [List.getElem?_eq_getElem hj]
    exact ⟨a, c, pb, po, hx, hr, hp, hq1, hq2⟩
theorem csl_len (n : Nat) (f : Nat → Nat → Bool) (j : Nat) : (csl n f j).length = (fsts n f j).length := by unfold csl; rw [List.length_map]
/-- What Right and Left answer, read. -/
theorem lists_sl {k : Nat} {args : Array Value} {w : World} {rs : List (List Int)} (h0 : 0 < w.heap.size) (h : Calls Tryd.prog k args w fun x w' => ∃ r vs, x = .returned (.tuple #[r, .agg #[.int .i64 0, .int .i64 0]]) ∧ w'.ownsRow w.heap.size 22 1 r vs.length vs ∧ Lsts w' w.heap.size r vs rs ∧ Below w.heap.size w w') :
    Calls Tryd.prog k args w fun x w' => ∃ r1 r2 r3, x = .returned (.tuple #[.slice r1 r2 r3, .agg #[.int .i64 0, .int .i64 0]]) ∧ SlL w' (.slice r1 r2 r3) rs ∧ Below w.heap.size w w' := by
  refine h.mono ?_
  rintro x w' ⟨r, vs, rfl, hrow, hls, hb⟩
  have hs := SlL.of_own hrow hls (Nat.lt_of_lt_of_le h0 hb.size)
  obtain ⟨a, l, c, rfl⟩ := hs.isSlice
  exact ⟨a, l, c, rfl, hs, hb⟩
end Go.Proofs.YtmgengplfebmjaaDoor

namespace Go.Proofs.YtmgengplfebmjaaDoor
open Go Go.RowKit

def z4 : List Int := [0, 1, 2, 3, 1, 2, 3, 0, 2, 3, 0, 1, 3, 0, 1, 2]
theorem z4_grp : IsGrp 4 z4 0 := by
  obtain ⟨n, e, hn, hg, _⟩ := gfault_grp (N := 4) (zs := z4) (by decide +kernel)
  obtain rfl : n = 4 := by omega
  have h1 := hg.one
  have h2 : one 4 z4 = 0 := by decide +kernel
  obtain rfl : e = 0 := by rw [h2] at h1; omega
  exact hg
theorem z4_lf : lfault 4 [0, 2] = (0, 0) := by decide +kernel
theorem z4_sub : subT 4 z4 0 (pset [0, 2]) = true := by decide +kernel
theorem z4_csl : csl 4 (rgtq 4 z4 (lst 4 (pset [0, 2]))) 4 = [[0, 2], [1, 3]] := by decide +kernel
end Go.Proofs.YtmgengplfebmjaaDoor

namespace Go.Proofs.YtmgengplfebmjaaDoor
open Go Go.RowKit

end Go.Proofs.YtmgengplfebmjaaDoor

namespace Go.Proofs.YtmgengplfebmjaaDoor
open Go Go.RowKit

end Go.Proofs.YtmgengplfebmjaaDoor

namespace Go.Proofs.YtmgengplfebmjaaDoor
open Go Go.RowKit

/-- The document's sets: of each thing its set, where it is the least one of it. -/
def rcs (n : Nat) (q : Nat → Nat → Bool) (j : Nat) : List (List Int) := ((List.range j).filter fun a => decide ((lst n (q a)).head? = some a)).map fun a => li (lst n (q a))
theorem rcs_yes {n j : Nat} {q : Nat → Nat → Bool} (h : (lst n (q j)).head? = some j) : rcs n q (j + 1) = rcs n q j ++ [li (lst n (q j))] := by
  unfold rcs
  rw [List.range_succ, List.filter_append, List.filter_cons, if_pos (by simpa using h), List.filter_nil, List.map_append]
  rfl
theorem rcs_no {n j : Nat} {q : Nat → Nat → Bool} (h : (lst n (q j)).head? ≠ some j) : rcs n q (j + 1) = rcs n q j := by
  unfold rcs
  rw [List.range_succ, List.filter_append, List.filter_cons, if_neg (by simpa using h), List.filter_nil, List.append_nil]
theorem rcs_len (n : Nat) (q : Nat → Nat → Bool) (j : Nat) : (rcs n q j).length ≤ j := by
  unfold rcs
  rw [List.length_map]
  exact Nat.le_trans (List.length_filter_le _ _) (by simp)
/-- The number that lies in a box. -/
def boxN (w : World) (i : Value) : Nat := match i with
  | .pointer (some a) => (intOf ((w.cell? a).getD (.int .i64 0))).toNat
  | _ => 0
theorem boxN_eq {w : World} {b j : Nat} (h : Boxed w b 3 (.int .i64 j)) : boxN w (.pointer (some ⟨b, 0, none⟩)) = j := by simp [boxN, h.cell, intOf]
theorem Lsts.ext {W : World} {B : Nat} {r : Value} {vs : List Value} {ls ms : List (List Int)} (h : Lsts W B r vs ls) (e : ms = ls) : Lsts W B r vs ms := by rw [e]; exact h
end Go.Proofs.YtmgengplfebmjaaDoor

namespace Go.Proofs.YtmgengplfebmjaaDoor
open Go Go.RowKit

/-- A box that is made anew, for the next round. -/
theorem newbox (W : World) (j : Nat) : Boxed (W.alloc (.cells #[.int .i64 ((j : Int) + 1)] 3)) W.heap.size 3 (.int .i64 ((j + 1 : Nat) : Int)) ∧ Below W.heap.size W (W.alloc (.cells #[.int .i64 ((j : Int) + 1)] 3)) :=
  ⟨Boxed.new W 3 (.int .i64 ((j : Int) + 1)), balloc W _⟩
end Go.Proofs.YtmgengplfebmjaaDoor

namespace Go.Proofs.YtmgengplfebmjaaDoor
open Go Go.RowKit

end Go.Proofs.YtmgengplfebmjaaDoor

namespace Go.Proofs.YtmgengplfebmjaaDoor
open Go Go.RowKit

/-- Sets, one for each thing: each has its thing, and is that of each of its things. -/
structure Prts (n : Nat) (f : Nat → Nat → Bool) : Prop where
  refl : ∀ a, a < n → f a a = true
  same : ∀ a b, a < n → b < n → f a b = true → ∀ c, c < n → f a c = f b c
theorem Prts.symm {n a b : Nat} {f : Nat → Nat → Bool} (h : Prts n f) (ha : a < n) (hb : b < n) (hf : f a b = true) : f b a = true := by
  rw [← h.same a b ha hb hf a ha]; exact h.refl a ha
theorem head_lst {n a : Nat} {p : Nat → Bool} : (lst n p).head? = some a ↔ a < n ∧ p a = true ∧ ∀ b, b < a → p b = false := by
  unfold lst
  rw [List.head?_filter, List.find?_range_eq_some]
  simp only [List.mem_range, Bool.not_eq_true']
  exact ⟨fun ⟨h1, h2, h3⟩ => ⟨h2, h1, h3⟩, fun ⟨h1, h2, h3⟩ => ⟨h2, h1, h3⟩⟩
theorem Prts.first {n a : Nat} {f : Nat → Nat → Bool} (h : Prts n f) (ha : a < n) : ((List.range a).all fun b => decide (bs (f b) n ≠ bs (f a) n)) = decide ((lst n (f a)).head? = some a) := by
  rw [Bool.eq_iff_iff, decide_eq_true_eq, head_lst]
  simp only [List.all_eq_true, List.mem_range, decide_eq_true_eq]
  constructor
  · intro hne
    refine ⟨ha, h.refl a ha, fun b hb => ?_⟩
    cases hab : f a b with
    | false => rfl
    | true => exact absurd (bs_ext fun c hc => (h.same a b ha (by omega) hab c hc).symm) (hne b hb)
  · rintro ⟨_, _, h3⟩ b hb he
    have h4 := bs_inj he b (by omega)
    rw [h.refl b (by omega), h3 b hb] at h4
    exact absurd h4 (by decide)
theorem Prts.fsts {n : Nat} {f : Nat → Nat → Bool} (h : Prts n f) : fsts n f n = (List.range n).filter fun a => decide ((lst n (f a)).head? = some a) := by
  unfold Go.Proofs.YtmgengplfebmjaaDoor.fsts
  exact List.filter_congr fun a ha => h.first (List.mem_range.1 ha)
theorem Prts.csl_rcs {n : Nat} {f q : Nat → Nat → Bool} (h : Prts n f) (hq : ∀ a b, a < n → b < n → q a b = f a b) : csl n f n = rcs n q n := by
  have hl : ∀ a, a < n → lst n (q a) = lst n (f a) := fun a ha => lst_congr fun b hb => hq a b ha hb
  unfold csl rcs
  rw [h.fsts]
  have hf : ((List.range n).filter fun a => decide ((lst n (f a)).head? = some a)) = (List.range n).filter fun a => decide ((lst n (q a)).head? = some a) := List.filter_congr fun a ha => by rw [hl a (List.mem_range.1 ha)]
  rw [hf]
  exact List.map_congr_left fun a ha => by rw [hl a (List.mem_range.1 (List.mem_filter.1 ha).1)]
theorem Prts.card {n m : Nat} {f : Nat → Nat → Bool} (h : Prts n f) (hm : ∀ a, a < n → (lst n (f a)).length = m) : n = (csl n f n).length * m := by
  have hK : ∀ a, a ∈ Go.Proofs.YtmgengplfebmjaaDoor.fsts n f n ↔ a < n ∧ (lst n (f a)).head? = some a := fun a => by
    rw [h.fsts, List.mem_filter, List.mem_range, decide_eq_true_eq]
  have hd : ∀ a, a < n → ∃ r, (lst n (f a)).head? = some r ∧ r < n ∧ f a r = true ∧ (lst n (f r)).head? = some r := fun a ha => by
    have hne : lst n (f a) ≠ [] := List.ne_nil_of_mem (mem_lst.2 ⟨ha, h.refl a ha⟩)
    obtain ⟨r, t, ht⟩ := List.exists_cons_of_ne_nil hne
    have hr : (lst n (f a)).head? = some r := by rw [ht]; rfl
    obtain ⟨h1, h2, h3⟩ := head_lst.1 hr
    refine ⟨r, hr, h1, h2, head_lst.2 ⟨h1, h.refl r h1, fun b hb => ?_⟩⟩
    rw [← h.same a r ha h1 h2 b (by omega)]
    exact h3 b hb
  have := Fin.fib_len (fun a => (lst n (f a)).head?.getD 0) m (Go.Proofs.YtmgengplfebmjaaDoor.fsts n f n) (List.range n) (List.nodup_range.sublist List.filter_sublist) (fun x hx => by
    obtain ⟨r, hr, h1, _, h3⟩ := hd x (List.mem_range.1 hx)
    rw [hr]
    exact (hK r).2 ⟨h1, h3⟩) (fun k hk => by
    obtain ⟨hkn, hkh⟩ := (hK k).1 hk
    rw [← hm k hkn]
    unfold lst
    congr 1
    refine List.filter_congr fun x hx => ?_
    have hxn := List.mem_range.1 hx
    rw [Bool.eq_iff_iff, decide_eq_true_eq]
    constructor
    · intro he
      obtain ⟨r, hr, h1, h2, _⟩ := hd x hxn
      have hrk : r = k := by
        have h9 : (lst n (f x)).head?.getD 0 = k := he
        rw [hr] at h9
        exact h9
      subst hrk
      exact h.symm hxn h1 h2
    · intro he
      have : lst n (f x) = lst n (f k) := lst_congr fun c hc => (h.same k x hkn hxn he c hc).symm
      show (lst n (f x)).head?.getD 0 = k
      rw [this, hkh]; rfl)
  rw [List.length_range] at this
  rw [csl_len]
  exact this

section
variable {n e : Nat} {zs : List Int} {q : Nat → Bool}
theorem mem_rgt {xs : List Nat} {a y : Nat} : rgtq n zs xs a y = true ↔ ∃ x, x ∈ xs ∧ tm n zs x a = y := by
  unfold rgtq; simp only [List.any_eq_true, decide_eq_true_eq]
theorem mem_lft {xs : List Nat} {a y : Nat} : lftq n zs xs a y = true ↔ ∃ x, x ∈ xs ∧ tm n zs a x = y := by
  unfold lftq; simp only [List.any_eq_true, decide_eq_true_eq]
theorem sub_iv (g : IsGrp n zs e) (hs : subT n zs e q = true) {x : Nat} (hx : x < n) (hq : q x = true) : iv n zs e x < n ∧ q (iv n zs e x) = true := by
  obtain ⟨h1, h2, _, _⟩ := iv_spec g hx
  exact ⟨h1, (subT_iff.1 hs).inv (grp_fg g) (List.mem_range.2 hx) (List.mem_range.2 h1) h2 hq⟩
theorem sub_mul (hs : subT n zs e q = true) {x y : Nat} (hx : x < n) (hy : y < n) (h1 : q x = true) (h2 : q y = true) : q (tm n zs x y) = true :=
  (subT_iff.1 hs).mul x y (List.mem_range.2 hx) (List.mem_range.2 hy) h1 h2
/-- A right coset by what its things, by an inverse, are. -/
theorem rgt_iff (g : IsGrp n zs e) {a b : Nat} (ha : a < n) (hb : b < n) : rgtq n zs (lst n q) a b = decide (tm n zs b (iv n zs e a) ∈ lst n q) := by
  obtain ⟨h1, h2, h3, _⟩ := iv_spec g ha
  rw [Bool.eq_iff_iff, mem_rgt, decide_eq_true_eq]
  constructor
  · rintro ⟨x, hx, rfl⟩
    obtain ⟨hxn, _⟩ := mem_lst.1 hx
    rw [g.ass x a _ hxn ha h1, h2, g.right x hxn]
    exact hx
  · intro h
    exact ⟨_, h, by rw [g.ass b _ a hb h1 ha, h3, g.right b hb]⟩
theorem lft_iff (g : IsGrp n zs e) {a b : Nat} (ha : a < n) (hb : b < n) : lftq n zs (lst n q) a b = decide (tm n zs (iv n zs e a) b ∈ lst n q) := by
  obtain ⟨h1, h2, h3, _⟩ := iv_spec g ha
  rw [Bool.eq_iff_iff, mem_lft, decide_eq_true_eq]
  constructor
  · rintro ⟨x, hx, rfl⟩
    obtain ⟨hxn, _⟩ := mem_lst.1 hx
    rw [← g.ass _ a x h1 ha hxn, h3, g.left x hxn]
    exact hx
  · intro h
    exact ⟨_, h, by rw [← g.ass a _ b ha h1 hb, h2, g.left b hb]⟩
theorem rgt_parts (g : IsGrp n zs e) (hs : subT n zs e q = true) : Prts n (rgtq n zs (lst n q)) where
  refl := fun a ha => mem_rgt.2 ⟨e, mem_lst.2 ⟨g.elt, (subT_iff.1 hs).one⟩, g.left a ha⟩
  same := fun a b ha hb hab c hc => by
    obtain ⟨x, hx, rfl⟩ := mem_rgt.1 hab
    obtain ⟨hxn, hqx⟩ := mem_lst.1 hx
    obtain ⟨i1, i2⟩ := sub_iv g hs hxn hqx
    obtain ⟨_, i3, i4, _⟩ := iv_spec g hxn
    rw [Bool.eq_iff_iff, mem_rgt, mem_rgt]
    constructor
    · rintro ⟨y, hy, rfl⟩
      obtain ⟨hyn, hqy⟩ := mem_lst.1 hy
      refine ⟨tm n zs y (iv n zs e x), mem_lst.2 ⟨tm_lt g.tab hyn i1, sub_mul hs hyn i1 hqy i2⟩, ?_⟩
      rw [g.ass y _ _ hyn i1 hb, ← g.ass _ x a i1 hxn ha, i4, g.left a ha]
    · rintro ⟨y, hy, rfl⟩
      obtain ⟨hyn, hqy⟩ := mem_lst.1 hy
      exact ⟨tm n zs y x, mem_lst.2 ⟨tm_lt g.tab hyn hxn, sub_mul hs hyn hxn hqy hqx⟩, g.ass y x a hyn hxn ha⟩
theorem lft_parts (g : IsGrp n zs e) (hs : subT n zs e q = true) : Prts n (lftq n zs (lst n q)) where
  refl := fun a ha => mem_lft.2 ⟨e, mem_lst.2 ⟨g.elt, (subT_iff.1 hs).one⟩, g.right a ha⟩
  same := fun a b ha hb hab c hc => by
    obtain ⟨x, hx, rfl⟩ := mem_lft.1 hab
    obtain ⟨hxn, hqx⟩ := mem_lst.1 hx
    obtain ⟨i1, i2⟩ := sub_iv g hs hxn hqx
    obtain ⟨_, i3, i4, _⟩ := iv_spec g hxn
    rw [Bool.eq_iff_iff, mem_lft, mem_lft]
    constructor
    · rintro ⟨y, hy, rfl⟩
      obtain ⟨hyn, hqy⟩ := mem_lst.1 hy
      refine ⟨tm n zs (iv n zs e x) y, mem_lst.2 ⟨tm_lt g.tab i1 hyn, sub_mul hs i1 hyn i2 hqy⟩, ?_⟩
      rw [← g.ass _ _ y hb i1 hyn, g.ass a x _ ha hxn i1, i3, g.right a ha]
    · rintro ⟨y, hy, rfl⟩
      obtain ⟨hyn, hqy⟩ := mem_lst.1 hy
      exact ⟨tm n zs x y, mem_lst.2 ⟨tm_lt g.tab hxn hyn, sub_mul hs hxn hyn hqx hqy⟩, (g.ass a x y ha hxn hyn).symm⟩
theorem rgt_size (g : IsGrp n zs e) {a : Nat} (ha : a < n) : (lst n (rgtq n zs (lst n q) a)).length = (lst n q).length := by
  symm
  refine Fin.bij_len (fun x => tm n zs x a) (List.nodup_range.sublist List.filter_sublist) (List.nodup_range.sublist List.filter_sublist) (fun x hx => ?_) (fun x y hx hy h => ?_) (fun y hy => ?_)
  · exact mem_lst.2 ⟨tm_lt g.tab (mem_lst.1 hx).1 ha, mem_rgt.2 ⟨x, hx, rfl⟩⟩
  · obtain ⟨h1, h2, _, _⟩ := iv_spec g ha
    have h9 : tm n zs (tm n zs x a) (iv n zs e a) = tm n zs (tm n zs y a) (iv n zs e a) := by
      have h8 : tm n zs x a = tm n zs y a := h
      rw [h8]
    rw [g.ass x a _ (mem_lst.1 hx).1 ha h1, g.ass y a _ (mem_lst.1 hy).1 ha h1, h2, g.right x (mem_lst.1 hx).1, g.right y (mem_lst.1 hy).1] at h9
    exact h9
  · obtain ⟨x, hx, he⟩ := mem_rgt.1 (mem_lst.1 hy).2
    exact ⟨x, hx, he⟩
theorem lft_size (g : IsGrp n zs e) {a : Nat} (ha : a < n) : (lst n (lftq n zs (lst n q) a)).length = (lst n q).length := by
  symm
  refine Fin.bij_len (fun x => tm n zs a x) (List.nodup_range.sublist List.filter_sublist) (List.nodup_range.sublist List.filter_sublist) (fun x hx => ?_) (fun x y hx hy h => ?_) (fun y hy => ?_)
  · exact mem_lst.2 ⟨tm_lt g.tab ha (mem_lst.1 hx).1, mem_lft.2 ⟨x, hx, rfl⟩⟩
  · exact (grp_fg g).can (List.mem_range.2 ha) (List.mem_range.2 (mem_lst.1 hx).1) (List.mem_range.2 (mem_lst.1 hy).1) h
  · obtain ⟨x, hx, he⟩ := mem_lft.1 (mem_lst.1 hy).2
    exact ⟨x, hx, he⟩
end
end Go.Proofs.YtmgengplfebmjaaDoor

namespace Go.Proofs.YtmgengplfebmjaaDoor
open Go Go.RowKit Go.Maps

/-- The number of a thing's set. -/
def num (n : Nat) (f : Nat → Nat → Bool) (a : Nat) : Nat := (fsts n f (((List.range n).find? fun b => decide (bs (f b) n = bs (f a) n)).getD 0)).length
theorem num_same {n a b : Nat} {f : Nat → Nat → Bool} (h : bs (f a) n = bs (f b) n) : num n f a = num n f b := by unfold num; rw [h]
theorem num_new {n j : Nat} {f : Nat → Nat → Bool} (hj : j < n) (h : (List.range j).all (fun b => decide (bs (f b) n ≠ bs (f j) n)) = true) : num n f j = (fsts n f j).length := by
  unfold num
  have : ((List.range n).find? fun b => decide (bs (f b) n = bs (f j) n)) = some j := by
    rw [List.find?_range_eq_some]
    refine ⟨by simp, List.mem_range.2 hj, fun b hb => ?_⟩
    have := List.all_eq_true.1 h b (List.mem_range.2 hb)
    simpa using this
  rw [this]; rfl
/-- The numbers that the map has. -/
def MNum (n : Nat) (f : Nat → Nat → Bool) (j : Nat) (D : DataW Unit) : Prop := ∀ a, a < j → D.atKey (.int .u64 (bs (f a) n : Nat)) (.lit (.int .i64 0)) = .lit (.int .i64 (num n f a : Nat))
theorem mnum_step {n j : Nat} {f : Nat → Nat → Bool} {D : DataW Unit} (h : MNum n f j D) (hD : IsMap D) (hj : j < n) (hnew : (List.range j).all (fun b => decide (bs (f b) n ≠ bs (f j) n)) = true) : MNum n f (j + 1) (D.put (.int .u64 (bs (f j) n : Nat)) (.lit (.int .i64 ((fsts n f j).length : Nat)))) := by
  intro a ha
  by_cases e : a = j
  · subst e
    rw [atKey_put_same hD (by trivial), num_new hj hnew]
  · have hne := List.all_eq_true.1 hnew a (List.mem_range.2 (by omega))
    rw [atKey_put_other (fun h9 => by injection h9 with _ h9; simp at hne; omega)]
    exact h a (by omega)
theorem mnum_same {n j : Nat} {f : Nat → Nat → Bool} {D : DataW Unit} (h : MNum n f j D) (hs : ∃ a, a < j ∧ bs (f a) n = bs (f j) n) : MNum n f (j + 1) D := by
  obtain ⟨b, hb, e⟩ := hs
  intro a ha
  by_cases e9 : a = j
  · subst e9
    have := h b hb
    rw [e, num_same e] at this
    exact this
  · exact h a (by omega)
end Go.Proofs.YtmgengplfebmjaaDoor

namespace Go.Proofs.YtmgengplfebmjaaDoor
open Go Go.RowKit

/-- Which of the lists has a number first. -/
def whichI (rs : List (List Int)) (a : Int) : Int := if rs.findIdx (fun y => decide (a ∈ y)) < rs.length then (rs.findIdx (fun y => decide (a ∈ y)) : Int) else -1
theorem whichI_at {rs : List (List Int)} {a : Int} {k : Nat} (hk : k < rs.length) (h : a ∈ rs[k]?.getD []) (hno : ∀ t, t < k → ¬ a ∈ rs[t]?.getD []) : whichI rs a = k := by
  have h1 : rs.findIdx (fun y => decide (a ∈ y)) = k := by
    rw [List.findIdx_eq hk]
    rw [List.getElem?_eq_getElem hk] at h
    refine ⟨by simpa using h, fun t ht => ?_⟩
    have := hno t ht
    rw [List.getElem?_eq_getElem (by omega)] at this
    simpa using this
  unfold whichI
  rw [h1, if_pos hk]
theorem whichI_no {rs : List (List Int)} {a : Int} (hno : ∀ t, t < rs.length → ¬ a ∈ rs[t]?.getD []) : whichI rs a = -1 := by
  unfold whichI
  rw [if_neg]
  intro h
  have h2 := List.findIdx_getElem (w := h)
  have := hno _ h
  rw [List.getElem?_eq_getElem h] at this
  simp at this h2
  exact this h2
end Go.Proofs.YtmgengplfebmjaaDoor
