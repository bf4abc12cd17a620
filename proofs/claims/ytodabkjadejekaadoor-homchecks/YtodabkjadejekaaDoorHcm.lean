/- What the law HomChecks answers: true, at all tables and lists; with its closures. Condition: the library's table of places lies as its text lays it. -/
import Derived.Test.YtodabkjadejekaaDoorHy
import Derived.Test.YtodabkjadejekaaDoorRef1
namespace Go.Proofs.YtodabkjadejekaaDoor
open Go Go.RowKit

theorem call22 (a : Int) (x y : Value) (W : World) : Sem.run Tryd.prog (callFunc 22 (#[.int .i64 a] ++ #[x, y])) W = .ok (.enter 22 (#[.int .i64 a] ++ #[x, y])) W := by kernel_rfl
theorem call25 (a : Int) (x : Value) (W : World) : Sem.run Tryd.prog (callFunc 25 (#[.int .i64 a] ++ #[x])) W = .ok (.enter 25 (#[.int .i64 a] ++ #[x])) W := by kernel_rfl
theorem call20 (x y z : Value) (W : World) : Sem.run Tryd.prog (callFunc 20 #[x, y, z]) W = .ok (.enter 20 #[x, y, z]) W := by kernel_rfl
theorem call24 (x y : Value) (W : World) : Sem.run Tryd.prog (callFunc 24 #[x, y]) W = .ok (.enter 24 #[x, y]) W := by kernel_rfl
set_option maxRecDepth 100000 in
set_option maxHeartbeats 4000000 in
theorem hc11_ok (n m d a mb yb : Nat) (y mv : Value) (ys ms : List Int) (w : World) (hy : Sl w y ys) (hh : IsGrp m ys d) (hm : Sl w mv ms) (hl : ms.length = n) (ha : a < n) (hM : Boxed w mb 22 mv) (hY : BoxG w yb m y) :
    Calls Tryd.prog 22 (#[.int .i64 a] ++ #[.pointer (some ⟨mb, 0, none⟩), .pointer (some ⟨yb, 0, none⟩)]) w fun x w' => x = .returned (.bool (kerq ms d a)) ∧ Below w.heap.size w w' := by
  show Calls Tryd.prog 22 #[.int .i64 a, .pointer (some ⟨mb, 0, none⟩), .pointer (some ⟨yb, 0, none⟩)] w _
  have HE := hide (fun W (h : Below w.heap.size w W) => E_ok m y ys W hh.tab (hy.below h))
  rw [hh.one] at HE
  have hmc := hM.cell
  obtain ⟨k0, k1, _, _⟩ := hY.two
  obtain ⟨ma, mc, mk, mo, rfl, hmr, hmb, _, hmm⟩ := hm
  have hat := hmr.at_ (by omega)
  have hcl := hmr.cell a (by omega)
  rw [hl] at *
  clear hmr hmm hl
  obtain rfl := hat
  have hai : (a : Int) < (n : Int) := by omega
  have HN : Hid (kerq ms d a = decide (ms[a]?.getD 0 = (d : Int))) := rfl
  generalize ms[a]?.getD 0 = z at *
  have hS : ∀ W, Below w.heap.size w W → (Below w.heap.size w W ∧ W.cell? ⟨mb, 0, none⟩ = some (.slice (some ⟨mk, mo, none⟩) n mc) ∧ W.cell? ⟨mk, mo + a, none⟩ = some (.int .i64 z) ∧ W.cell? ⟨yb, 0, none⟩ = some (.int .i64 m) ∧ W.cell? ⟨yb, 1, none⟩ = some y) := fun W h => ⟨h, below_cell h hmc, below_cell h hcl, below_cell h k0, below_cell h k1⟩
  have hS0 := hS _ (bdrew (Below.refl _ w))
  clear hmc hcl k0 k1
  by_cases heq : z = (d : Int)
  · rw [decide_eq_true heq] at HN
    subst heq
    go_enter Tryd.func22, Tryd.ntmps22
    go_wp2_with fail
    go_region_held3 (fun W => Below w.heap.size w W ∧ W.cell? ⟨mb, 0, none⟩ = some (.slice (some ⟨mk, mo, none⟩) n mc) ∧ W.cell? ⟨mk, mo + a, none⟩ = some (.int .i64 (d : Int)) ∧ W.cell? ⟨yb, 0, none⟩ = some (.int .i64 m) ∧ W.cell? ⟨yb, 1, none⟩ = some y)
      (first | exact hS0 | assumption | exact hS _ (bcat2 (And.left ‹_›) hl1))
      (first | (go_at_call 23; refine (HE.out _ (And.left ‹_›)).mono ?_; rintro e1 W1 ⟨rfl, hl1⟩))
    all_goals (
      have hB9 := And.left ‹Below w.heap.size w W1 ∧ _›
      go_wp2
      go_ret
      exact ⟨by rw [HN.out]; simp, hB9⟩)
  · rw [decide_eq_false heq] at HN
    go_enter Tryd.func22, Tryd.ntmps22
    go_wp2_with fail
    go_region_held3 (fun W => Below w.heap.size w W ∧ W.cell? ⟨mb, 0, none⟩ = some (.slice (some ⟨mk, mo, none⟩) n mc) ∧ W.cell? ⟨mk, mo + a, none⟩ = some (.int .i64 z) ∧ W.cell? ⟨yb, 0, none⟩ = some (.int .i64 m) ∧ W.cell? ⟨yb, 1, none⟩ = some y)
      (first | exact hS0 | assumption | exact hS _ (bcat2 (And.left ‹_›) hl1))
      (first | (go_at_call 23; refine (HE.out _ (And.left ‹_›)).mono ?_; rintro e1 W1 ⟨rfl, hl1⟩))
    all_goals (
      have hB9 := And.left ‹Below w.heap.size w W1 ∧ _›
      go_wp2
      go_ret
      exact ⟨by rw [HN.out]; simp [heq], hB9⟩)
set_option maxRecDepth 100000 in
set_option maxHeartbeats 4000000 in
theorem hc1_ok (n m d mb xb yb : Nat) (v y mv : Value) (ys ms : List Int) (w : World) (hn : n ≤ 60) (hy : Sl w y ys) (hh : IsGrp m ys d) (hm : Sl w mv ms) (hl : ms.length = n) (hX : BoxG w xb n v) (hM : Boxed w mb 22 mv) (hY : BoxG w yb m y) :
    Calls Tryd.prog 20 #[.pointer (some ⟨xb, 0, none⟩), .pointer (some ⟨mb, 0, none⟩), .pointer (some ⟨yb, 0, none⟩)] w fun x w' => ∃ r, x = .returned r ∧ Sl w' r (li (lst n (kerq ms d))) ∧ Below w.heap.size w w' := by
  have HT := hide (rthose_ok n 22 v #[.pointer (some ⟨mb, 0, none⟩), .pointer (some ⟨yb, 0, none⟩)] (kerq ms d) w hn (fun a W => call22 a _ _ W) (fun W a hW ha => hc11_ok n m d a mb yb y mv ys ms W (hy.below hW) hh (hm.below hW) hl ha (Boxed.below hM hW) (blk_below hY hW)))
  obtain ⟨k0, k1, _, _⟩ := hX.two
  go_enter Tryd.func20, Tryd.ntmps20
  go_wp2_with fail
  refine HT.out.mono ?_
  rintro x w1 ⟨r, rfl, hr, hb1⟩
  have HZ := hide (show 0 < w1.heap.size by have h1 := hM.lt; have h2 := hb1.size; omega)
  go_wp2
  go_ret
  exact ⟨_, rfl, Sl.of_own hr HZ.out, hb1⟩
set_option maxRecDepth 100000 in
set_option maxHeartbeats 4000000 in
theorem hc21_ok (a mb : Nat) (mv : Value) (xs : List Nat) (w : World) (hm : Sl w mv (li xs)) (hM : Boxed w mb 22 mv) :
    Calls Tryd.prog 25 (#[.int .i64 a] ++ #[.pointer (some ⟨mb, 0, none⟩)]) w fun x w' => x = .returned (.bool (decide (a ∈ xs))) ∧ Below w.heap.size w w' := by
  show Calls Tryd.prog 25 #[.int .i64 a, .pointer (some ⟨mb, 0, none⟩)] w _
  have HH := hide (rhas_ok mv (li xs) a w hm)
  have hmc := hM.cell
  have HD := hide (show decide ((a : Int) ∈ li xs) = decide (a ∈ xs) by
    rw [decide_eq_decide]
    simp only [li, List.mem_map]
    exact ⟨fun ⟨b, hb, he⟩ => by have : b = a := by omega
                                 exact this ▸ hb, fun h => ⟨a, h, rfl⟩⟩)
  obtain ⟨m1, m2, m3, rfl⟩ := hm.isSlice
  go_enter Tryd.func25, Tryd.ntmps25
  go_wp2_with fail
  refine HH.out.mono ?_
  rintro x w1 ⟨rfl, rfl⟩
  go_wp2
  go_ret
  exact ⟨by rw [← HD.out]; rfl, Below.refl _ _⟩
set_option maxRecDepth 100000 in
set_option maxHeartbeats 4000000 in
theorem hc2_ok (m mb yb : Nat) (y mv : Value) (xs : List Nat) (w : World) (hm6 : m ≤ 60) (hm : Sl w mv (li xs)) (hM : Boxed w mb 22 mv) (hY : BoxG w yb m y) :
    Calls Tryd.prog 24 #[.pointer (some ⟨yb, 0, none⟩), .pointer (some ⟨mb, 0, none⟩)] w fun x w' => ∃ r, x = .returned r ∧ Sl w' r (li (lst m (fun a => decide (a ∈ xs)))) ∧ Below w.heap.size w w' := by
  have HT := hide (rthose_ok m 25 y #[.pointer (some ⟨mb, 0, none⟩)] (fun a => decide (a ∈ xs)) w hm6 (fun a W => call25 a _ W) (fun W a hW _ => hc21_ok a mb mv xs W (hm.below hW) (Boxed.below hM hW)))
  obtain ⟨k0, k1, _, _⟩ := hY.two
  go_enter Tryd.func24, Tryd.ntmps24
  go_wp2_with fail
  refine HT.out.mono ?_
  rintro x w1 ⟨r, rfl, hr, hb1⟩
  have HZ := hide (show 0 < w1.heap.size by have h1 := hM.lt; have h2 := hb1.size; omega)
  go_wp2
  go_ret
  exact ⟨_, rfl, Sl.of_own hr HZ.out, hb1⟩
end Go.Proofs.YtodabkjadejekaaDoor

namespace Go.Proofs.YtodabkjadejekaaDoor
open Go Go.RowKit

theorem hf_grp8 {N M : Int} {zs ys ms : List Int} (h : (hfault N zs M ys ms).1 = 0) : ∃ n e m d : Nat, N = n ∧ M = m ∧ IsGrp n zs e ∧ IsGrp m ys d := by
  by_cases h1 : (gfault N zs).1 = 0
  · obtain ⟨n, e, rfl, hg, _⟩ := gfault_grp h1
    by_cases h2 : (gfault M ys).1 = 0
    · obtain ⟨m, d, rfl, hh, _⟩ := gfault_grp h2
      exact ⟨n, e, m, d, rfl, rfl, hg, hh⟩
    · rw [hfault_2 hg h2] at h
      exact absurd h h2
  · rw [hfault_1 h1] at h
    exact absurd h h1
/-- What lies behind the copies: two tables in boxes of their own, and a list. -/
def HRel (w0 : World) (N M : Int) (zs ys ms : List Int) (s7 s8 s9 : Value) (wx : World) : Prop :=
  ∃ b7 b8 a1 a2 a3 e1 e2 e3 n1 n2 n3, s7 = .pointer (some ⟨b7, 0, none⟩) ∧ s8 = .pointer (some ⟨b8, 0, none⟩) ∧ s9 = .slice n1 n2 n3 ∧ Blk wx b7 24 [.int .i64 N, .slice a1 a2 a3] ∧ Blk wx b8 24 [.int .i64 M, .slice e1 e2 e3] ∧ Sl wx (.slice a1 a2 a3) zs ∧ Sl wx (.slice e1 e2 e3) ys ∧ Sl wx (.slice n1 n2 n3) ms ∧ Below w0.heap.size w0 wx
theorem blk_new {V : World} {b : Nat} {T : TypeId} {x y : Value} (h : b = V.heap.size) : Blk (V.alloc (.cells #[x, y] T)) b T [x, y] := by rw [h]; exact blk0 _ _
theorem blk_old {V : World} {b : Nat} {T : TypeId} {o : Obj} {l : List Value} (h : Blk V b T l) : Blk (V.alloc o) b T l := h.alloc o
theorem blk_put {V : World} {b : Nat} {T : TypeId} {x y p q : Value} (h : Blk V b T [p, q]) : Blk ((V.setCell ⟨b, 0, none⟩ x).setCell ⟨b, 1, none⟩ y) b T [x, y] := (h.set 0 x).set 1 y
theorem blk_far {V : World} {b c k : Nat} {T : TypeId} {x : Value} {l : List Value} (h : Blk V b T l) (hb : b ≠ c) : Blk (V.setCell ⟨c, k, none⟩ x) b T l := h.other (p := ⟨c, k, none⟩) hb x
theorem row_far {V : World} {B c k : Nat} {u x : Value} {zs : List Int} (h : Row V B u zs) (hc : c < B) : Row (V.setCell ⟨c, k, none⟩ x) B u zs := rowset h hc
theorem row_new {V : World} {B : Nat} {u : Value} {zs : List Int} {o : Obj} (h : Row V B u zs) : Row (V.alloc o) B u zs := World.ownsRow.alloc h o
theorem und {W U : World} (k : Below W.drew.heap.size W.drew U) : Below W.heap.size W U := ⟨k.os, k.tape, k.output, k.size, k.block⟩
theorem mk1 {X U : World} {x y : Value} (k : Below (X.alloc (.cells #[x, y] 24)).heap.size (X.alloc (.cells #[x, y] 24)) U) : Blk U X.heap.size 24 [x, y] := blk_below (blk0 x y) k
theorem mk2 {X U : World} {x y : Value} {o : Obj} (k : Below ((X.alloc (.cells #[x, y] 24)).alloc o).heap.size ((X.alloc (.cells #[x, y] 24)).alloc o) U) : Blk U X.heap.size 24 [x, y] := blk_below ((blk0 x y).alloc o) k
theorem mk3 {X U : World} {x y : Value} {o : Obj} (k : Below ((X.alloc o).alloc (.cells #[x, y] 24)).heap.size ((X.alloc o).alloc (.cells #[x, y] 24)) U) : Blk U (X.heap.size + 1) 24 [x, y] := by
  have := blk_below (blk0 (w := X.alloc o) (T := 24) x y) k
  rwa [World.size_alloc] at this
theorem blk_ne {U : World} {b c : Nat} {l k : List Value} (_ : Blk U b 24 l) (_ : Blk U c 24 k) (h : b < c) : b ≠ c ∧ c ≠ b := ⟨Nat.ne_of_lt h, Nat.ne_of_gt h⟩
theorem size_drew (w : World) : w.drew.heap.size = w.heap.size := rfl
/-- A slice that reads as zs, and lies from lo on and below hi where there is something in it. -/
def SlB (lo hi : Nat) (w : World) (v : Value) (zs : List Int) : Prop := ∃ a cap pb po, v = .slice a zs.length cap ∧ Reads w a pb po zs ∧ (0 < zs.length → lo ≤ pb ∧ pb < hi) ∧ zs.length ≤ cap ∧ cap ≤ maxLen
theorem SlB.keep {lo hi : Nat} {w w' : World} {v : Value} {zs : List Int} (h : SlB lo hi w v zs) (hk : ∀ b, lo ≤ b → b < hi → w'.heap[b]? = w.heap[b]?) : SlB lo hi w' v zs := by
  obtain ⟨a, cap, pb, po, h1, h2, h3, h4, h5⟩ := h
  rcases Nat.eq_zero_or_pos zs.length with hz | hz
  · exact ⟨a, cap, pb, po, h1, ⟨fun h => by omega, fun j hj => by omega⟩, h3, h4, h5⟩
  · obtain ⟨p1, p2⟩ := h3 hz
    exact ⟨a, cap, pb, po, h1, h2.of_eq (hk pb p1 p2), h3, h4, h5⟩
theorem SlB.sl {lo hi : Nat} {w : World} {v : Value} {zs : List Int} (h : SlB lo hi w v zs) (hh : hi ≤ w.heap.size) (h0 : 0 < w.heap.size) : Sl w v zs := by
  obtain ⟨a, cap, pb, po, h1, h2, h3, h4, h5⟩ := h
  rcases Nat.eq_zero_or_pos zs.length with hz | hz
  · exact ⟨a, cap, 0, 0, h1, ⟨fun h => by omega, fun j hj => by omega⟩, h0, h4, h5⟩
  · obtain ⟨p1, p2⟩ := h3 hz
    exact ⟨a, cap, pb, po, h1, h2, by omega, h4, h5⟩
theorem SlB.of_own {base : Nat} {w : World} {v : Value} {zs : List Int} (h : w.ownsRow base 3 1 v zs.length (zs.map (Value.int .i64))) : SlB base w.heap.size w v zs := by
  rcases h.2 with ⟨rfl, hz⟩ | ⟨g, cap, cur, rfl, hb, hh, h1, h2, _⟩
  · have : zs = [] := List.length_eq_zero_iff.1 hz
    subst this
    exact ⟨none, 0, 0, 0, rfl, ⟨by simp, by simp⟩, by simp, by simp, by unfold maxLen; omega⟩
  · refine ⟨some ⟨g, 0, none⟩, cap, g, 0, rfl, ⟨fun _ => rfl, fun j hj => ?_⟩, fun _ => ⟨hb, (Array.getElem?_eq_some_iff.1 hh).1⟩, h1, h2⟩
    have h3 := h.cells (g := g) rfl j (.int .i64 (zs[j]?.getD 0)) (by simp [hj])
    rw [show (⟨g, 0, none⟩ : Addr).add j = ⟨g, j, none⟩ by unfold Addr.add; split <;> simp_all] at h3
    rw [Nat.zero_add]; exact h3
theorem slb_up {lo hi : Nat} {V U : World} {v : Value} {zs : List Int} (h : SlB lo hi V v zs) (k : Below V.heap.size V U) (hh : hi ≤ V.heap.size) : SlB lo hi U v zs := h.keep fun b _ hb => k.block b (by omega)
theorem slb_new {lo hi : Nat} {V : World} {o : Obj} {v : Value} {zs : List Int} (h : SlB lo hi V v zs) (hh : hi ≤ V.heap.size) : SlB lo hi (V.alloc o) v zs := h.keep fun b _ hb => Below.heap_alloc _ _ _ (by omega)
theorem slb_put {lo hi c k : Nat} {V : World} {x v : Value} {zs : List Int} (h : SlB lo hi V v zs) (hh : c < lo ∨ hi ≤ c) : SlB lo hi (V.setCell ⟨c, k, none⟩ x) v zs := h.keep fun b h1 h2 => Below.heap_setCell _ _ _ _ (by show b ≠ c; omega)
set_option maxRecDepth 100000 in
set_option maxHeartbeats 80000000 in
theorem hchk_first (N M : Int) (v1 : Option Addr) (v2 v3 : Nat) (y1 : Option Addr) (y2 y3 : Nat) (m1 : Option Addr) (m2 m3 : Nat) (zs ys ms : List Int) (KP IP : World → Value → Prop) (c i : Int) (w : World) (hv : Sl w (.slice v1 v2 v3) zs) (hy : Sl w (.slice y1 y2 y3) ys) (hm : Sl w (.slice m1 m2 m3) ms) (hT : Tab w) (hz : zs.length * 8 ≤ 140737488355328) (hz2 : ys.length * 8 ≤ 140737488355328) (hz3 : ms.length * 8 ≤ 140737488355328)
    (HCK : Hid (∀ W x y n, Below w.heap.size w W → Sl W x zs → Sl W y ys → Sl W n ms → Calls Tryd.prog 13 #[.agg #[.int .i64 N, x], .agg #[.int .i64 M, y], n] W fun x W' => x = .returned (.agg #[.int .i64 c, .int .i64 i]) ∧ Below W.heap.size W W'))
    (HKE : Hid (∀ W x y n, Below w.heap.size w W → Sl W x zs → Sl W y ys → Sl W n ms → Calls Tryd.prog 14 #[.agg #[.int .i64 N, x], .agg #[.int .i64 M, y], n] W fun x W' => ∃ r1 r2 r3, x = .returned (.tuple #[.slice r1 r2 r3, .agg #[.int .i64 c, .int .i64 i]]) ∧ KP W' (.slice r1 r2 r3) ∧ Below W.heap.size W W'))
    (HIM : Hid (∀ W x y n, Below w.heap.size w W → Sl W x zs → Sl W y ys → Sl W n ms → Calls Tryd.prog 15 #[.agg #[.int .i64 N, x], .agg #[.int .i64 M, y], n] W fun x W' => ∃ r1 r2 r3, x = .returned (.tuple #[.slice r1 r2 r3, .agg #[.int .i64 c, .int .i64 i]]) ∧ IP W' (.slice r1 r2 r3) ∧ Below W.heap.size W W'))
    (HHF : Hid (∀ W, Below w.heap.size w W → Calls Tryd.prog 16 #[.agg #[.int .i64 N, .slice v1 v2 v3], .agg #[.int .i64 M, .slice y1 y2 y3], .slice m1 m2 m3] W fun x W' => x = .returned (.agg #[.int .i64 c, .int .i64 i]) ∧ Below W.heap.size W W'))
    (hKP : Hid (∀ W W' v, KP W v → Below W.heap.size W W' → KP W' v)) (hIP : Hid (∀ W W' v, IP W v → Below W.heap.size W W' → IP W' v))
    (HL1 : Hid (∀ W s, Below w.heap.size w W → KP W s → BoxG W w.heap.size N (.slice v1 v2 v3) → BoxG W (w.heap.size + 1) M (.slice y1 y2 y3) → Boxed W (w.heap.size + 2) 22 (.slice m1 m2 m3) → Calls Tryd.prog 19 #[s, .agg #[.int .i64 c, .int .i64 i], .agg #[.int .i64 c, .int .i64 i], .func (.func 20) #[] #[.pointer (some ⟨w.heap.size, 0, none⟩), .pointer (some ⟨w.heap.size + 2, 0, none⟩), .pointer (some ⟨w.heap.size + 1, 0, none⟩)]] W fun x W' => x = .returned (.bool true) ∧ Below W.heap.size W W'))
    (HL2 : Hid (∀ W s, Below w.heap.size w W → IP W s → BoxG W (w.heap.size + 1) M (.slice y1 y2 y3) → Boxed W (w.heap.size + 2) 22 (.slice m1 m2 m3) → Calls Tryd.prog 19 #[s, .agg #[.int .i64 c, .int .i64 i], .agg #[.int .i64 c, .int .i64 i], .func (.func 24) #[] #[.pointer (some ⟨w.heap.size + 1, 0, none⟩), .pointer (some ⟨w.heap.size + 2, 0, none⟩)]] W fun x W' => x = .returned (.bool true) ∧ Below W.heap.size W W')) :
    Calls Tryd.prog 3 #[.agg #[.int .i64 N, .slice v1 v2 v3], .agg #[.int .i64 M, .slice y1 y2 y3], .slice m1 m2 m3] w fun e w' => e = .returned (.bool true) ∧ Below w.heap.size w w' := by
  obtain ⟨w0, hw0⟩ : ∃ w0, w0 = ((w.alloc (.cells #[.int .i64 N, .slice v1 v2 v3] 24)).alloc (.cells #[.int .i64 M, .slice y1 y2 y3] 24)).alloc (.cells #[.slice m1 m2 m3] 22) := ⟨_, rfl⟩
  have hB0 : Below w.heap.size w w0 := by rw [hw0]; exact ((balloc w _).alloc (by simp) _).alloc (by simp; omega) _
  have hX0 : BoxG w0 w.heap.size N (.slice v1 v2 v3) := by rw [hw0]; exact ((blk0 (w := w) (T := 24) _ _).alloc _).alloc _
  have hY0 : BoxG w0 (w.heap.size + 1) M (.slice y1 y2 y3) := by
    have := (blk0 (w := w.alloc (.cells #[.int .i64 N, .slice v1 v2 v3] 24)) (T := 24) (.int .i64 M) (.slice y1 y2 y3)).alloc (.cells #[.slice m1 m2 m3] 22)
    rw [World.size_alloc] at this
    rw [hw0]; exact this
  have hM0 : Boxed w0 (w.heap.size + 2) 22 (.slice m1 m2 m3) := by
    have := Boxed.new ((w.alloc (.cells #[.int .i64 N, .slice v1 v2 v3] 24)).alloc (.cells #[.int .i64 M, .slice y1 y2 y3] 24)) 22 (.slice m1 m2 m3)
    rw [World.size_alloc, World.size_alloc] at this
    rw [hw0]; exact this
  have HO1 := hide (fun W (h : Below w0.heap.size w0 W) => ownGroup_row N (.slice v1 v2 v3) zs W (hv.below (bcat2 hB0 h)) hz)
  have HO2 := hide (fun W (h : Below w0.heap.size w0 W) => ownGroup_row M (.slice y1 y2 y3) ys W (hy.below (bcat2 hB0 h)) hz2)
  have HOW := hide (fun W (h : Below w0.heap.size w0 W) => own_any (.slice m1 m2 m3) ms W (hm.below (bcat2 hB0 h)) hz3)
  have at0 : ∀ W : World, Below w0.heap.size w0 W → 0 < W.heap.size := fun W h => Nat.lt_of_lt_of_le (hT.below hB0).lt h.size
  obtain ⟨c0, c1, _, _⟩ := hX0.two
  obtain ⟨d0, d1, _, _⟩ := hY0.two
  have k0 := hM0.cell
  have hS : ∀ W9, Below w0.heap.size w0 W9 → ((fun W9 => Below w0.heap.size w0 W9 ∧ W9.cell? ⟨w.heap.size, 0, none⟩ = some (.int .i64 N) ∧ W9.cell? ⟨w.heap.size, 1, none⟩ = some (.slice v1 v2 v3) ∧ W9.cell? ⟨w.heap.size + 1, 0, none⟩ = some (.int .i64 M) ∧ W9.cell? ⟨w.heap.size + 1, 1, none⟩ = some (.slice y1 y2 y3) ∧ W9.cell? ⟨w.heap.size + 2, 0, none⟩ = some (.slice m1 m2 m3)) W9) := fun W9 h => ⟨h, below_cell h c0, below_cell h c1, below_cell h d0, below_cell h d1, below_cell h k0⟩
  have hS0 := hS _ (bdrew (Below.refl _ w0))
  clear c0 c1 d0 d1 k0
  go_enter Tryd.func3, Tryd.ntmps3
  go_wp2_with fail
  rw [← hw0]
  clear hw0
  have hk1 : Hid True := trivial
  go_cut [7, 8, 9] (fun s7 s8 s9 wx => HRel w0 N M zs ys ms s7 s8 s9 wx)
  case first =>
    clear HCK HKE HIM HHF HL1 HL2 hKP hIP
    go_region_held3 (fun W9 => Below w0.heap.size w0 W9 ∧ W9.cell? ⟨w.heap.size, 0, none⟩ = some (.int .i64 N) ∧ W9.cell? ⟨w.heap.size, 1, none⟩ = some (.slice v1 v2 v3) ∧ W9.cell? ⟨w.heap.size + 1, 0, none⟩ = some (.int .i64 M) ∧ W9.cell? ⟨w.heap.size + 1, 1, none⟩ = some (.slice y1 y2 y3) ∧ W9.cell? ⟨w.heap.size + 2, 0, none⟩ = some (.slice m1 m2 m3))
      (first | exact hS0 | assumption | exact hS _ (bcat2 (And.left ‹_›) hl1) | exact hS _ (bcat2 (And.left ‹_›) hl2) | exact hS _ (bcat2 (And.left ‹_›) hl3) | exact hS _ (bcat2 (And.left ‹_›) (balloc _ _)) | (refine hS _ ?_; repeat (first | exact hU3 | (refine bAlloc ?_) | (refine bSet ?_ (by omega)))))
      (first
        | (go_at_call 11; clear hk1; refine (HO1.out _ (And.left ‹_›)).mono ?_; rintro e1 U1 ⟨x9, rfl, hx9, hl1⟩; obtain ⟨x1, x3, rfl⟩ := row_len hx9; have hU1 := bcat2 (And.left ‹_›) hl1; have hs1 := hl1.size; (try simp only [size_drew] at hs1); (try simp only [World.size_alloc] at hs1); (try simp only [size_drew] at hs1); (first | (with_reducible have pA1 := mk1 hl1) | (with_reducible have pA1 := mk1 (und hl1)) | skip); (first | (with_reducible have pA2 := mk2 hl1) | (with_reducible have pA2 := mk2 (und hl1)) | skip); (first | (with_reducible have pA3 := mk3 hl1) | (with_reducible have pA3 := mk3 (und hl1)) | skip); have hx := SlB.of_own hx9; (try simp only [size_drew] at hx); (try simp only [World.size_alloc] at hx); (try simp only [size_drew] at hx))
        | (go_at_call 11; refine (HO2.out _ (And.left ‹_›)).mono ?_; rintro e2 U2 ⟨z9, rfl, hz9, hl2⟩; obtain ⟨z1, z3, rfl⟩ := row_len hz9; have hU2 := bcat2 (And.left ‹_›) hl2; have hs2 := hl2.size; (try simp only [size_drew] at hs2); (try simp only [World.size_alloc] at hs2); (try simp only [size_drew] at hs2); (first | (with_reducible have pB1 := mk1 hl2) | (with_reducible have pB1 := mk1 (und hl2)) | skip); (first | (with_reducible have pB2 := mk2 hl2) | (with_reducible have pB2 := mk2 (und hl2)) | skip); (first | (with_reducible have pB3 := mk3 hl2) | (with_reducible have pB3 := mk3 (und hl2)) | skip); (first | (with_reducible have pA1 := blk_below pA1 hl2) | (with_reducible have pA1 := blk_below (blk_old pA1) hl2) | (with_reducible have pA1 := blk_below (blk_old (blk_old pA1)) hl2) | skip); (first | (with_reducible have pA2 := blk_below pA2 hl2) | (with_reducible have pA2 := blk_below (blk_old pA2) hl2) | (with_reducible have pA2 := blk_below (blk_old (blk_old pA2)) hl2) | skip); (first | (with_reducible have pA3 := blk_below pA3 hl2) | (with_reducible have pA3 := blk_below (blk_old pA3) hl2) | (with_reducible have pA3 := blk_below (blk_old (blk_old pA3)) hl2) | skip); (first | (with_reducible have hx := slb_up hx hl2 (Nat.le_refl _)) | (with_reducible have hx := slb_up (slb_new hx (by omega)) hl2 (by rw [World.size_alloc]; omega)) | (with_reducible have hx := slb_up (slb_new (slb_new hx (by omega)) (by rw [World.size_alloc]; omega)) hl2 (by rw [World.size_alloc, World.size_alloc]; omega)) | (with_reducible have hx := slb_up hx hl2 (by omega))); have hz := SlB.of_own hz9; (try simp only [size_drew] at hz); (try simp only [World.size_alloc] at hz); (try simp only [size_drew] at hz))
        | (go_at_call 12; refine (HOW.out _ (And.left ‹_›)).mono ?_; rintro e3 U3 ⟨n9, rfl, hn9, hl3⟩; obtain ⟨n1, n3, rfl⟩ := own_slice hn9; have hU3 := bcat2 (And.left ‹_›) hl3; have hs3 := hl3.size; (try simp only [size_drew] at hs3); (try simp only [World.size_alloc] at hs3); (try simp only [size_drew] at hs3); (first | (with_reducible have pC1 := mk1 hl3) | (with_reducible have pC1 := mk1 (und hl3)) | skip); (first | (with_reducible have pC2 := mk2 hl3) | (with_reducible have pC2 := mk2 (und hl3)) | skip); (first | (with_reducible have pC3 := mk3 hl3) | (with_reducible have pC3 := mk3 (und hl3)) | skip); (first | (with_reducible have pA1 := blk_below pA1 hl3) | (with_reducible have pA1 := blk_below (blk_old pA1) hl3) | (with_reducible have pA1 := blk_below (blk_old (blk_old pA1)) hl3) | skip); (first | (with_reducible have pA2 := blk_below pA2 hl3) | (with_reducible have pA2 := blk_below (blk_old pA2) hl3) | (with_reducible have pA2 := blk_below (blk_old (blk_old pA2)) hl3) | skip); (first | (with_reducible have pA3 := blk_below pA3 hl3) | (with_reducible have pA3 := blk_below (blk_old pA3) hl3) | (with_reducible have pA3 := blk_below (blk_old (blk_old pA3)) hl3) | skip); (first | (with_reducible have pB1 := blk_below pB1 hl3) | (with_reducible have pB1 := blk_below (blk_old pB1) hl3) | (with_reducible have pB1 := blk_below (blk_old (blk_old pB1)) hl3) | skip); (first | (with_reducible have pB2 := blk_below pB2 hl3) | (with_reducible have pB2 := blk_below (blk_old pB2) hl3) | (with_reducible have pB2 := blk_below (blk_old (blk_old pB2)) hl3) | skip); (first | (with_reducible have pB3 := blk_below pB3 hl3) | (with_reducible have pB3 := blk_below (blk_old pB3) hl3) | (with_reducible have pB3 := blk_below (blk_old (blk_old pB3)) hl3) | skip); (first | (with_reducible have hx := slb_up hx hl3 (Nat.le_refl _)) | (with_reducible have hx := slb_up (slb_new hx (by omega)) hl3 (by rw [World.size_alloc]; omega)) | (with_reducible have hx := slb_up (slb_new (slb_new hx (by omega)) (by rw [World.size_alloc]; omega)) hl3 (by rw [World.size_alloc, World.size_alloc]; omega)) | (with_reducible have hx := slb_up hx hl3 (by omega))); (first | (with_reducible have hz := slb_up hz hl3 (Nat.le_refl _)) | (with_reducible have hz := slb_up (slb_new hz (by omega)) hl3 (by rw [World.size_alloc]; omega)) | (with_reducible have hz := slb_up (slb_new (slb_new hz (by omega)) (by rw [World.size_alloc]; omega)) hl3 (by rw [World.size_alloc, World.size_alloc]; omega)) | (with_reducible have hz := slb_up hz hl3 (by omega))); have hnn := SlB.of_own hn9; (try simp only [size_drew] at hnn); (try simp only [World.size_alloc] at hnn); (try simp only [size_drew] at hnn); have hpos3 := at0 _ hU3; (try (obtain ⟨_, _, _, _⟩ := pA1.two; have := pA1.lt; have := Nat.ne_of_lt pA1.lt; have := Nat.ne_of_gt pA1.lt)); (try (obtain ⟨_, _, _, _⟩ := pA2.two; have := pA2.lt; have := Nat.ne_of_lt pA2.lt; have := Nat.ne_of_gt pA2.lt)); (try (obtain ⟨_, _, _, _⟩ := pA3.two; have := pA3.lt; have := Nat.ne_of_lt pA3.lt; have := Nat.ne_of_gt pA3.lt)); (try (obtain ⟨_, _, _, _⟩ := pB1.two; have := pB1.lt; have := Nat.ne_of_lt pB1.lt; have := Nat.ne_of_gt pB1.lt)); (try (obtain ⟨_, _, _, _⟩ := pB2.two; have := pB2.lt; have := Nat.ne_of_lt pB2.lt; have := Nat.ne_of_gt pB2.lt)); (try (obtain ⟨_, _, _, _⟩ := pB3.two; have := pB3.lt; have := Nat.ne_of_lt pB3.lt; have := Nat.ne_of_gt pB3.lt)); (try (obtain ⟨_, _, _, _⟩ := pC1.two; have := pC1.lt; have := Nat.ne_of_lt pC1.lt; have := Nat.ne_of_gt pC1.lt)); (try (obtain ⟨_, _, _, _⟩ := pC2.two; have := pC2.lt; have := Nat.ne_of_lt pC2.lt; have := Nat.ne_of_gt pC2.lt)); (try (obtain ⟨_, _, _, _⟩ := pC3.two; have := pC3.lt; have := Nat.ne_of_lt pC3.lt; have := Nat.ne_of_gt pC3.lt)); (first | (with_reducible have hnpA1pB1 := blk_ne pA1 pB1 (by omega)) | (with_reducible have hnpA1pB1 := blk_ne pA1 pB1 (by rw [size_drew]; omega)) | skip); (try (obtain ⟨_, _⟩ := hnpA1pB1)); (first | (with_reducible have hnpA1pC1 := blk_ne pA1 pC1 (by omega)) | (with_reducible have hnpA1pC1 := blk_ne pA1 pC1 (by rw [size_drew]; omega)) | skip); (try (obtain ⟨_, _⟩ := hnpA1pC1)); (first | (with_reducible have hnpB1pC1 := blk_ne pB1 pC1 (by omega)) | (with_reducible have hnpB1pC1 := blk_ne pB1 pC1 (by rw [size_drew]; omega)) | skip); (try (obtain ⟨_, _⟩ := hnpB1pC1))))
    all_goals (go_wp2; go_meet)
    all_goals (refine ⟨_, _, x1, zs.length, x3, z1, ys.length, z3, n1, ms.length, n3, rfl, rfl, rfl, ?_, ?_, ?_, ?_, ?_, ?_⟩)
    all_goals (first
      | ((repeat (first | (with_reducible assumption) | (with_reducible exact blk_new (by first | rfl | (simp; done) | (simp; omega))) | (with_reducible apply blk_put) | (with_reducible refine blk_old ?_) | (with_reducible refine blk_far ?_ (by first | assumption | omega)))); done)
      | (with_reducible apply SlB.sl; (repeat (first | (with_reducible exact hx) | (with_reducible exact hz) | (with_reducible exact hnn) | (with_reducible apply slb_new) | (with_reducible apply slb_put))); all_goals (first | omega | (simp; omega) | (simp; done)); done)
      | ((repeat (first | (with_reducible exact hU3) | (with_reducible refine bAlloc ?_) | (with_reducible refine bSet ?_ (by omega)))); done))
  case rest =>
    obtain ⟨b7, b8, a1, a2, a3, e1, e2, e3, n1, n2, n3, rfl, rfl, rfl, G7, G8, hx, hy9, hn9, hBx⟩ := hcut
    have hB := bcat2 hB0 hBx
    have hX := blk_below hX0 hBx
    have hY := blk_below hY0 hBx
    have hM := Boxed.below hM0 hBx
    clear HO1 HO2 HOW at0 hS hS0 hX0 hY0 hM0 hB0 hk1
    obtain ⟨c0, c1, _, _⟩ := G7.two
    obtain ⟨d0, d1, _, _⟩ := G8.two
    go_wp2_with fail
    clear c0 c1 d0 d1
    refine (HCK.out _ _ _ _ hB hx hy9 hn9).mono ?_
    rintro x u1 ⟨rfl, hb1⟩
    have hbb := bcat2 hb1 (balloc u1 (.cells #[.int .i64 c, .int .i64 i] 28))
    have hB := bcat2 hB hbb
    have hX := blk_below hX hbb
    have hY := blk_below hY hbb
    have G7 := blk_below G7 hbb
    have G8 := blk_below G8 hbb
    have hM := Boxed.below hM hbb
    have hx := Sl.below hx hbb
    have hy9 := Sl.below hy9 hbb
    have hn9 := Sl.below hn9 hbb
    have F1 := blk0 (w := u1) (T := 28) (.int .i64 c) (.int .i64 i)
    obtain ⟨c0, c1, _, _⟩ := G7.two
    obtain ⟨d0, d1, _, _⟩ := G8.two
    go_wp2_with fail
    generalize u1.alloc (.cells #[.int .i64 c, .int .i64 i] 28) = t1 at *
    clear c0 c1 d0 d1
    refine (HKE.out _ _ _ _ hB hx hy9 hn9).mono ?_
    rintro x u2 ⟨r1, r2, r3, rfl, hK2, hb2⟩
    have hbb := bcat2 hb2 (balloc u2 (.cells #[.int .i64 c, .int .i64 i] 28))
    have hB := bcat2 hB hbb
    have hX := blk_below hX hbb
    have hY := blk_below hY hbb
    have G7 := blk_below G7 hbb
    have G8 := blk_below G8 hbb
    have hM := Boxed.below hM hbb
    have hx := Sl.below hx hbb
    have hy9 := Sl.below hy9 hbb
    have hn9 := Sl.below hn9 hbb
    have F1 := blk_below F1 hbb
    have F2 := blk0 (w := u2) (T := 28) (.int .i64 c) (.int .i64 i)
    have hK2 := hKP.out _ _ _ hK2 (balloc u2 (.cells #[.int .i64 c, .int .i64 i] 28))
    obtain ⟨c0, c1, _, _⟩ := G7.two
    obtain ⟨d0, d1, _, _⟩ := G8.two
    go_wp2_with fail
    generalize u2.alloc (.cells #[.int .i64 c, .int .i64 i] 28) = t2 at *
    clear c0 c1 d0 d1
    refine (HIM.out _ _ _ _ hB hx hy9 hn9).mono ?_
    rintro x u3 ⟨q1, q2, q3, rfl, hI3, hb3⟩
    have hbb := bcat2 hb3 (balloc u3 (.cells #[.int .i64 c, .int .i64 i] 28))
    have hB := bcat2 hB hbb
    have hX := blk_below hX hbb
    have hY := blk_below hY hbb
    have G7 := blk_below G7 hbb
    have G8 := blk_below G8 hbb
    have hM := Boxed.below hM hbb
    have hx := Sl.below hx hbb
    have hy9 := Sl.below hy9 hbb
    have hn9 := Sl.below hn9 hbb
    have F1 := blk_below F1 hbb
    have F2 := blk_below F2 hbb
    have hK2 := hKP.out _ _ _ hK2 hbb
    have F3 := blk0 (w := u3) (T := 28) (.int .i64 c) (.int .i64 i)
    have hI3 := hIP.out _ _ _ hI3 (balloc u3 (.cells #[.int .i64 c, .int .i64 i] 28))
    obtain ⟨c0, c1, _, _⟩ := hX.two
    obtain ⟨d0, d1, _, _⟩ := hY.two
    have k0 := hM.cell
    go_wp2_with fail
    generalize u3.alloc (.cells #[.int .i64 c, .int .i64 i] 28) = t3 at *
    clear c0 c1 d0 d1 k0
    refine (HHF.out _ hB).mono ?_
    rintro x u4 ⟨rfl, hb4⟩
    have hbb := bcat2 hb4 (balloc u4 (.cells #[.int .i64 c, .int .i64 i] 28))
    have hB := bcat2 hB hbb
    have hX := blk_below hX hbb
    have hY := blk_below hY hbb
    have G7 := blk_below G7 hbb
    have G8 := blk_below G8 hbb
    have hM := Boxed.below hM hbb
    have hx := Sl.below hx hbb
    have hy9 := Sl.below hy9 hbb
    have hn9 := Sl.below hn9 hbb
    have F1 := blk_below F1 hbb
    have F2 := blk_below F2 hbb
    have F3 := blk_below F3 hbb
    have hK2 := hKP.out _ _ _ hK2 hbb
    have hI3 := hIP.out _ _ _ hI3 hbb
    have F4 := blk0 (w := u4) (T := 28) (.int .i64 c) (.int .i64 i)
    go_wp2_with fail
    generalize u4.alloc (.cells #[.int .i64 c, .int .i64 i] 28) = t4 at *
    refine (homBegun_any _ (hT.below hB)).mono ?_
    rintro x u5 ⟨rfl, hb5⟩
    have hB := bcat2 hB hb5
    have hX := blk_below hX hb5
    have hY := blk_below hY hb5
    have G7 := blk_below G7 hb5
    have G8 := blk_below G8 hb5
    have hM := Boxed.below hM hb5
    have hx := Sl.below hx hb5
    have hy9 := Sl.below hy9 hb5
    have hn9 := Sl.below hn9 hb5
    have F1 := blk_below F1 hb5
    have F2 := blk_below F2 hb5
    have F3 := blk_below F3 hb5
    have F4 := blk_below F4 hb5
    have hK2 := hKP.out _ _ _ hK2 hb5
    have hI3 := hIP.out _ _ _ hI3 hb5
    obtain ⟨c0, c1, _, _⟩ := F1.two
    obtain ⟨d0, d1, _, _⟩ := F4.two
    have k0 := hM.cell
    go_wp2_with fail
    clear c0 c1 d0 d1 k0
    have HIN := ints_any (.slice n1 n2 n3) (.slice m1 m2 m3) ms ms u5 hn9 (hm.below hB)
    simp only [decide_true] at HIN
    refine HIN.mono ?_
    rintro x u6 ⟨rfl, hb6⟩
    have hB := bcat2 hB hb6
    have hX := blk_below hX hb6
    have hY := blk_below hY hb6
    have G7 := blk_below G7 hb6
    have G8 := blk_below G8 hb6
    have hM := Boxed.below hM hb6
    have hx := Sl.below hx hb6
    have hy9 := Sl.below hy9 hb6
    have hn9 := Sl.below hn9 hb6
    have F1 := blk_below F1 hb6
    have F2 := blk_below F2 hb6
    have F3 := blk_below F3 hb6
    have F4 := blk_below F4 hb6
    have hK2 := hKP.out _ _ _ hK2 hb6
    have hI3 := hIP.out _ _ _ hI3 hb6
    clear HIN
    obtain ⟨c0, c1, _, _⟩ := F2.two
    obtain ⟨d0, d1, _, _⟩ := F4.two
    go_wp2_with fail
    clear c0 c1 d0 d1
    refine (HL1.out _ _ hB hK2 hX hY hM).mono ?_
    rintro x u7 ⟨rfl, hb7⟩
    have hB := bcat2 hB hb7
    have hX := blk_below hX hb7
    have hY := blk_below hY hb7
    have G7 := blk_below G7 hb7
    have G8 := blk_below G8 hb7
    have hM := Boxed.below hM hb7
    have hx := Sl.below hx hb7
    have hy9 := Sl.below hy9 hb7
    have hn9 := Sl.below hn9 hb7
    have F1 := blk_below F1 hb7
    have F2 := blk_below F2 hb7
    have F3 := blk_below F3 hb7
    have F4 := blk_below F4 hb7
    have hI3 := hIP.out _ _ _ hI3 hb7
    obtain ⟨c0, c1, _, _⟩ := F3.two
    obtain ⟨d0, d1, _, _⟩ := F4.two
    go_wp2_with fail
    clear c0 c1 d0 d1
    refine (HL2.out _ _ hB hI3 hY hM).mono ?_
    rintro x u8 ⟨rfl, hb8⟩
    have hB := bcat2 hB hb8
    go_wp2
    go_ret
    exact ⟨rfl, hB⟩
theorem hchk_law (N M : Int) (v y mv : Value) (zs ys ms : List Int) (w : World) (hv : Sl w v zs) (hy : Sl w y ys) (hm : Sl w mv ms) (hT : Tab w) (hz : zs.length * 8 ≤ 140737488355328) (hz2 : ys.length * 8 ≤ 140737488355328) (hz3 : ms.length * 8 ≤ 140737488355328) :
    Calls Tryd.prog 3 #[.agg #[.int .i64 N, v], .agg #[.int .i64 M, y], mv] w fun e w' => e = .returned (.bool true) ∧ Below w.heap.size w w' := by
  obtain ⟨v1, v2, v3, rfl⟩ := hv.isSlice
  obtain ⟨y1, y2, y3, rfl⟩ := hy.isSlice
  obtain ⟨m1, m2, m3, rfl⟩ := hm.isSlice
  by_cases hc : (hfault N zs M ys ms).1 = 0
  · obtain ⟨n, e, m, d, rfl, rfl, hg, hh⟩ := hf_grp8 hc
    obtain ⟨hf0, hml, φ, H, hms⟩ := hom_of hg hh hc
    have hn6 := hg.tab.le
    have hm6 := hh.tab.le
    have hxl : ∀ x, x ∈ (List.range n).map φ → x < m := fun x hx => by
      obtain ⟨a, ha, rfl⟩ := List.mem_map.1 hx
      exact H.lt a (List.mem_range.1 ha)
    refine hchk_first n m v1 v2 v3 y1 y2 y3 m1 m2 m3 zs ys ms (fun W s => Sl W s (li (lst n (kerq ms d)))) (fun W s => Sl W s (li (lst m (fun a => decide (a ∈ (List.range n).map φ))))) 0 0 w hv hy hm hT hz hz2 hz3
      (hide fun W x y u h hx hy hu => ?_) (hide fun W x y u h hx hy hu => kernel_good n e m d x y u zs ys ms W hx hg hy hh hu (hT.below h) hf0)
      (hide fun W x y u h hx hy hu => image_good n m x y u zs ys ((List.range n).map φ) W hx hy (by rw [← hms]; exact hu) (hT.below h) hm6 hxl (by rw [List.length_map, List.length_range]; exact hn6) (by rw [← hms]; exact hf0))
      (hide fun W h => ?_) (hide fun W W' s h hb => h.below hb) (hide fun W W' s h hb => h.below hb) (hide fun W s h hs hX hY hM => ?_) (hide fun W s h hs hY hM => ?_)
    · have h9 := hcheck_ok n m x y u zs ys ms W hx hy hu
      rw [hf0] at h9
      exact h9
    · have h9 := rhom_any n m (.slice v1 v2 v3) (.slice y1 y2 y3) (.slice m1 m2 m3) zs ys ms W (hv.below h) (hy.below h) (hm.below h)
      rw [hf0] at h9
      exact h9
    · have h9 := las_good 20 #[.pointer (some ⟨w.heap.size, 0, none⟩), .pointer (some ⟨w.heap.size + 2, 0, none⟩), .pointer (some ⟨w.heap.size + 1, 0, none⟩)] s _ _ W hs (fun W => call20 _ _ _ W) (fun W9 hW => hc1_ok n m d (w.heap.size + 2) w.heap.size (w.heap.size + 1) (.slice v1 v2 v3) (.slice y1 y2 y3) (.slice m1 m2 m3) ys ms W9 hn6 ((hy.below h).below hW) hh ((hm.below h).below hW) hml (blk_below hX hW) (Boxed.below hM hW) (blk_below hY hW))
      rw [decide_eq_true rfl] at h9
      exact h9
    · have h9 := las_good 24 #[.pointer (some ⟨w.heap.size + 1, 0, none⟩), .pointer (some ⟨w.heap.size + 2, 0, none⟩)] s _ _ W hs (fun W => call24 _ _ W) (fun W9 hW => hc2_ok m (w.heap.size + 2) (w.heap.size + 1) (.slice y1 y2 y3) (.slice m1 m2 m3) ((List.range n).map φ) W9 hm6 (by rw [← hms]; exact (hm.below h).below hW) (Boxed.below hM hW) (blk_below hY hW))
      rw [decide_eq_true rfl] at h9
      exact h9
  · refine hchk_first N M v1 v2 v3 y1 y2 y3 m1 m2 m3 zs ys ms (fun _ s => s = .slice none 0 0) (fun _ s => s = .slice none 0 0) (hfault N zs M ys ms).1 (hfault N zs M ys ms).2 w hv hy hm hT hz hz2 hz3
      (hide fun W x y u h hx hy hu => hcheck_ok N M x y u zs ys ms W hx hy hu) (hide fun W x y u h hx hy hu => (kernel_bad N M x y u zs ys ms W hx hy hu hc).mono fun x W' h9 => ⟨none, 0, 0, h9.1, rfl, h9.2⟩)
      (hide fun W x y u h hx hy hu => (image_bad N M x y u zs ys ms W hx hy hu hc).mono fun x W' h9 => ⟨none, 0, 0, h9.1, rfl, h9.2⟩)
      (hide fun W h => rhom_any N M (.slice v1 v2 v3) (.slice y1 y2 y3) (.slice m1 m2 m3) zs ys ms W (hv.below h) (hy.below h) (hm.below h)) (hide fun _ _ _ h _ => h) (hide fun _ _ _ h _ => h) (hide fun W s h hs _ _ _ => ?_) (hide fun W s h hs _ _ => ?_)
    · subst hs; exact las_bad 20 _ _ _ W hc
    · subst hs; exact las_bad 24 _ _ _ W hc
end Go.Proofs.YtodabkjadejekaaDoor
