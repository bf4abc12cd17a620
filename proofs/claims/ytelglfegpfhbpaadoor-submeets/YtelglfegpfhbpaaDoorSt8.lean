/- Meets and joins are found among all subgroups; the closure of the law SubMeets. -/
import Derived.Test.YtelglfegpfhbpaaDoorSt7
import Derived.Test.YtelglfegpfhbpaaDoorDedW
namespace Go.Proofs.YtelglfegpfhbpaaDoor
open Go Go.RowKit

/-- Each subgroup's list is among the lists that All answers. -/
theorem mem_all {n e k : Nat} {zs : List Int} {P : List (Nat → Bool)} {ms : List (List Int)} (g : IsGrp n zs e) (hk : P.length ≤ k) (hI : SInv n zs e P k 0) (hm : ms.Perm (P.map fun p => li (lst n p))) {t : Nat → Bool} (ht : subT n zs e t = true) : li (lst n t) ∈ ms := by
  have h1 := SInv.all g hI hk ht
  unfold bits at h1
  obtain ⟨p, hp, he⟩ := List.mem_map.1 h1
  have h2 : lst n t = lst n p := lst_congr fun a ha => (bs_inj he a ha).symm
  rw [h2]
  exact hm.mem_iff.2 (List.mem_map.2 ⟨p, hp, rfl⟩)
/-- Each list that All answers is a subgroup's. -/
theorem of_all {n e k : Nat} {zs : List Int} {P : List (Nat → Bool)} {ms : List (List Int)} (hI : SInv n zs e P k 0) (hm : ms.Perm (P.map fun p => li (lst n p))) {l : List Int} (hl : l ∈ ms) : ∃ p, subT n zs e p = true ∧ l = li (lst n p) := by
  obtain ⟨p, hp, rfl⟩ := List.mem_map.1 (hm.mem_iff.1 hl)
  exact ⟨p, hI.sub p hp, rfl⟩
theorem both_lst {n : Nat} (p q : Nat → Bool) : ((li (lst n p)).filter fun a => decide (a ∈ li (lst n q))) = li (lst n fun a => p a && q a) := by
  unfold li lst
  rw [List.filter_map, List.filter_filter]
  congr 1
  refine List.filter_congr fun a ha => ?_
  have h : decide ((a : Int) ∈ List.map (fun (x : Nat) => (x : Int)) (List.filter q (List.range n))) = q a := by
    have := pset_lst (p := q) (List.mem_range.1 ha)
    exact this
  show (decide ((a : Int) ∈ _) && p a) = _
  rw [h, Bool.and_comm]
theorem both_sub {n e : Nat} {zs : List Int} {p q : Nat → Bool} (hp : subT n zs e p = true) (hq : subT n zs e q = true) : subT n zs e (fun a => p a && q a) = true := by
  rw [subT_iff] at *
  refine ⟨by rw [hp.one, hq.one]; rfl, fun a b ha hb h1 h2 => ?_⟩
  rw [Bool.and_eq_true] at *
  exact ⟨hp.mul a b ha hb h1.1 h2.1, hq.mul a b ha hb h1.2 h2.2⟩
theorem ent29 (a : Int) (x y z : Value) (W : World) : Sem.run Tryd.prog (callFunc 29 (#[.int .i64 a] ++ #[x, y, z])) W = .ok (.enter 29 (#[.int .i64 a] ++ #[x, y, z])) W := by kernel_rfl
theorem has_int'' (v : Value) (ys : List Int) (a : Int) (w : World) (hv : Sl w v ys) :
    Calls Tryd.prog 30 #[v, .int .i64 a] w fun x w' => x = .returned (.bool (decide (a ∈ ys))) ∧ Below w.heap.size w w' := by
  refine (rhas_ok v ys a w hv).mono ?_
  rintro x w1 ⟨rfl, rfl⟩
  exact ⟨rfl, Below.refl _ _⟩
set_option maxRecDepth 100000 in
set_option maxHeartbeats 2000000 in
theorem mts1_ok (a : Int) (lb ib kb : Nat) (lv : Value) (rs : List (List Int)) (i k : Nat) (w : World) (hL : Boxed w lb 25 lv) (hI : Boxed w ib 3 (.int .i64 i)) (hK : Boxed w kb 3 (.int .i64 k)) (hr : SlL w lv rs) (hi : i < rs.length) (hk : k < rs.length) (xs ys : List Int) (hx : rs[i]? = some xs) (hy : rs[k]? = some ys) :
    Calls Tryd.prog 29 (#[.int .i64 a] ++ #[.pointer (some ⟨lb, 0, none⟩), .pointer (some ⟨ib, 0, none⟩), .pointer (some ⟨kb, 0, none⟩)]) w fun z w' => z = .returned (.bool (decide (a ∈ xs) || decide (a ∈ ys))) ∧ Below w.heap.size w w' := by
  show Calls Tryd.prog 29 #[.int .i64 a, .pointer (some ⟨lb, 0, none⟩), .pointer (some ⟨ib, 0, none⟩), .pointer (some ⟨kb, 0, none⟩)] w _
  obtain ⟨ra, cap, pb, po, rfl, y1, y2, y3, y4, y5⟩ := hr
  obtain rfl := y1 (by omega)
  obtain ⟨u, cu, su⟩ := y2 i hi
  obtain ⟨v, cv, sv⟩ := y2 k hk
  rw [hx, Option.getD_some] at su
  rw [hy, Option.getD_some] at sv
  obtain ⟨u1, u2, u3, rfl⟩ := su.isSlice
  obtain ⟨v1, v2, v3, rfl⟩ := sv.isSlice
  have c0 := hL.cell
  have c1 := hI.cell
  have c2 := hK.cell
  have hii : (i : Int) < (rs.length : Int) := by omega
  have hkk : (k : Int) < (rs.length : Int) := by omega
  have hl9 : rs.length ≤ 9223372036854775807 := by unfold maxLen at y5; omega
  have HH := hide (has_int'' (.slice u1 u2 u3) xs a w su)
  clear y1 y2 y5 hx hy
  cases hd : decide (a ∈ xs) with
  | true =>
    rw [hd] at HH
    go_enter Tryd.func29, Tryd.ntmps29
    go_wp2_with fail
    refine HH.out.mono ?_
    rintro x w1 ⟨rfl, hb1⟩
    go_wp2
    go_ret
    exact ⟨rfl, hb1⟩
  | false =>
    rw [hd] at HH
    go_enter Tryd.func29, Tryd.ntmps29
    go_wp2_with fail
    refine HH.out.mono ?_
    rintro x w1 ⟨rfl, hb1⟩
    have c0 := below_cell hb1 c0
    have c2 := below_cell hb1 c2
    have cv := below_cell hb1 cv
    go_wp2_with fail
    refine (has_int'' (.slice v1 v2 v3) ys a w1 (sv.below hb1)).mono ?_
    rintro x w2 ⟨rfl, hb2⟩
    go_wp2
    go_ret
    exact ⟨rfl, bcat2 hb1 hb2⟩
/-- A list that is new since B: it reads so, whatever lies ahead of B. -/
def Frs' (B : Nat) (W : World) (v : Value) (zs : List Int) : Prop := 0 < W.heap.size ∧ ∀ W' : World, (∀ g, B ≤ g → g < W.heap.size → W'.heap[g]? = W.heap[g]?) → W.heap.size ≤ W'.heap.size → Sl W' v zs
theorem Frs'.sl {B : Nat} {W : World} {v : Value} {zs : List Int} (h : Frs' B W v zs) : Sl W v zs := h.2 W (fun _ _ _ => rfl) (Nat.le_refl _)
theorem Frs'.set {B b o : Nat} {W : World} {v y : Value} {zs : List Int} (h : Frs' B W v zs) (hb : b < B) : Frs' B (W.setCell ⟨b, o, none⟩ y) v zs :=
  ⟨by rw [size_set]; exact h.1, fun W' hk hs => h.2 W' (fun g h1 h2 => (hk g h1 (by rw [size_set]; exact h2)).trans (Below.heap_setCell _ _ _ g (by simp; omega))) (by rw [size_set] at hs; exact hs)⟩
theorem Frs'.sl2 {B b o : Nat} {W : World} {v y : Value} {zs : List Int} (h : Frs' B W v zs) (hb : b < B) : Sl (W.setCell ⟨b, o, none⟩ y) v zs := (h.set hb).sl
theorem SlF.frs' {B : Nat} {W : World} {v : Value} {zs : List Int} (h : SlF B W v zs) (h0 : 0 < W.heap.size) : Frs' B W v zs := ⟨h0, fun _ hk hs => (h.keep hk hs).sl⟩
theorem ans' {f : Nat} {args : Array Value} {w : World} {zs : List Int} (h0 : 0 < w.heap.size) (h : Calls Tryd.prog f args w fun x w' => ∃ r, x = .returned (.tuple #[r, .agg #[.int .i64 0, .int .i64 0]]) ∧ SlF w.heap.size w' r zs ∧ Below w.heap.size w w') :
    Calls Tryd.prog f args w fun x w' => ∃ r1 r2 r3, x = .returned (.tuple #[.slice r1 r2 r3, .agg #[.int .i64 0, .int .i64 0]]) ∧ Frs' w.heap.size w' (.slice r1 r2 r3) zs ∧ Below w.heap.size w w' := by
  refine h.mono ?_
  rintro x w' ⟨r, rfl, hr, hb⟩
  obtain ⟨a, l, c, rfl⟩ := hr.sl.isSlice
  exact ⟨a, l, c, rfl, hr.frs' (Nat.lt_of_lt_of_le h0 hb.size), hb⟩
theorem bx {B : Nat} {a b c : World} (h : Below B a b) (hB : B ≤ a.heap.size) (k : Below b.heap.size b c) : Below B a c := h.trans (k.mono (Nat.le_trans hB h.size))
theorem bxA {B : Nat} {a W : World} {o : Obj} (h : Below B a W) (hB : B ≤ a.heap.size) : Below B a (W.alloc o) := h.alloc (Nat.le_trans hB h.size) o
theorem bxS {B : Nat} {a W : World} {b o : Nat} {x : Value} (h : Below B a W) (hb : B ≤ b) : Below B a (W.setCell ⟨b, o, none⟩ x) := h.setCell (p := ⟨b, o, none⟩) (by simpa using hb) x
theorem below_cell' {B : Nat} {a b : World} (h : Below B a b) {p : Addr} (hp : p.block < B) {v : Value} (hc : a.cell? p = some v) : b.cell? p = some v := by
  rw [← hc]; simp [World.cell?, h.block _ hp]
/-- A world that is as it was but in one box and behind it, and in the box no fault lies. -/
def Qh (B : Nat) (a W : World) : Prop := Below B a W ∧ Blk W B 27 [.int .i64 0, .int .i64 0]
theorem Qh.more {B : Nat} {a W U : World} (h : Qh B a W) (hB : B ≤ a.heap.size) (k : Below W.heap.size W U) : Qh B a U := ⟨bx h.1 hB k, blk_below h.2 k⟩
theorem Qh.alloc {B : Nat} {a W : World} {o : Obj} (h : Qh B a W) (hB : B ≤ a.heap.size) : Qh B a (W.alloc o) := h.more hB (balloc _ _)
theorem Qh.s0 {B : Nat} {a W : World} (h : Qh B a W) : Qh B a (W.setCell ⟨B, 0, none⟩ (.int .i64 0)) := ⟨bxS h.1 (Nat.le_refl _), h.2.set 0 _⟩
theorem Qh.s1 {B : Nat} {a W : World} (h : Qh B a W) : Qh B a (W.setCell ⟨B, 1, none⟩ (.int .i64 0)) := ⟨bxS h.1 (Nat.le_refl _), h.2.set 1 _⟩
theorem Qh.drew {B : Nat} {a W : World} (h : Qh B a W) : Qh B a W.drew := ⟨bdrew h.1, h.2⟩
end Go.Proofs.YtelglfegpfhbpaaDoor
