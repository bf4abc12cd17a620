/- What the law CosetTowers answers: true, at every table and every two lists. -/
import Derived.Test.YtoiemlnmcfmakaaDoorCsa
import Derived.Deep.DeepCutAuto
namespace Go.Proofs.YtoiemlnmcfmakaaDoor
open Go Go.RowKit

/-- Sets that part n things, in a set that is made of them. -/
theorem Prts.card_in {n m : Nat} {f : Nat → Nat → Bool} {q : Nat → Bool} (h : Prts n f) (hm : ∀ a, a < n → (lst n (f a)).length = m) (hq : ∀ a b, a < n → b < n → f a b = true → q a = q b) :
    (lst n q).length = ((csl n f n).filter fun y => y.all fun x => decide (x ∈ li (lst n q))).length * m := by
  have hK : ∀ a, a ∈ Go.Proofs.YtoiemlnmcfmakaaDoor.fsts n f n ↔ a < n ∧ (lst n (f a)).head? = some a := fun a => by
    rw [h.fsts, List.mem_filter, List.mem_range, decide_eq_true_eq]
  have hd : ∀ a, a < n → ∃ r, (lst n (f a)).head? = some r ∧ r < n ∧ f a r = true ∧ (lst n (f r)).head? = some r := fun a ha => by
    have hne : lst n (f a) ≠ [] := List.ne_nil_of_mem (mem_lst.2 ⟨ha, h.refl a ha⟩)
    obtain ⟨r, t, ht⟩ := List.exists_cons_of_ne_nil hne
    have hr : (lst n (f a)).head? = some r := by rw [ht]; rfl
    obtain ⟨h1, h2, h3⟩ := head_lst.1 hr
    refine ⟨r, hr, h1, h2, head_lst.2 ⟨h1, h.refl r h1, fun b hb => ?_⟩⟩
    rw [← h.same a r ha h1 h2 b (by omega)]
    exact h3 b hb
  have hp : ∀ a, a < n → ((li (lst n (f a))).all fun x => decide (x ∈ li (lst n q))) = q a := fun a ha => by
    rw [Bool.eq_iff_iff, List.all_eq_true]
    constructor
    · intro k
      have := k (a : Int) (mem_li.2 (mem_lst.2 ⟨ha, h.refl a ha⟩))
      rw [decide_eq_true_eq, mem_li, mem_lst] at this
      exact this.2
    · intro k x hx
      unfold li at hx
      obtain ⟨y, hy, rfl⟩ := List.mem_map.1 hx
      obtain ⟨hyn, hfy⟩ := mem_lst.1 hy
      rw [decide_eq_true_eq]
      exact mem_li.2 (mem_lst.2 ⟨hyn, by rw [← hq a y ha hyn hfy]; exact k⟩)
  have hlen : ((csl n f n).filter fun y => y.all fun x => decide (x ∈ li (lst n q))).length = ((Go.Proofs.YtoiemlnmcfmakaaDoor.fsts n f n).filter q).length := by
    unfold csl
    rw [List.filter_map, List.length_map]
    congr 1
    exact List.filter_congr fun a ha => hp a ((hK a).1 ha).1
  have := Fin.fib_len (fun a => (lst n (f a)).head?.getD 0) m ((Go.Proofs.YtoiemlnmcfmakaaDoor.fsts n f n).filter q) (lst n q) ((List.nodup_range.sublist List.filter_sublist).sublist List.filter_sublist) (fun x hx => by
    obtain ⟨hxn, hqx⟩ := mem_lst.1 hx
    obtain ⟨r, hr, h1, h2, h3⟩ := hd x hxn
    rw [hr]
    exact List.mem_filter.2 ⟨(hK r).2 ⟨h1, h3⟩, by show q r = true; rw [← hq x r hxn h1 h2]; exact hqx⟩) (fun k hk => by
    obtain ⟨hk1, hqk⟩ := List.mem_filter.1 hk
    obtain ⟨hkn, hkh⟩ := (hK k).1 hk1
    rw [← hm k hkn]
    unfold lst
    rw [List.filter_filter]
    congr 1
    refine List.filter_congr fun x hx => ?_
    have hxn := List.mem_range.1 hx
    rw [Bool.eq_iff_iff, Bool.and_eq_true, decide_eq_true_eq]
    constructor
    · rintro ⟨he, _⟩
      obtain ⟨r, hr, h1, h2, _⟩ := hd x hxn
      have hrk : r = k := by
        have h9 : (lst n (f x)).head?.getD 0 = k := he
        rw [hr] at h9
        exact h9
      subst hrk
      exact h.symm hxn h1 h2
    · intro he
      have : lst n (f x) = lst n (f k) := lst_congr fun c hc => (h.same k x hkn hxn he c hc).symm
      refine ⟨?_, by rw [← hq k x hkn hxn he]; exact hqk⟩
      show (lst n (f x)).head?.getD 0 = k
      rw [this, hkh]; rfl)
  rw [this, hlen]
/-- A set of the parting that is not in a set that is made of such ones has nothing of it. -/
theorem Prts.out {n : Nat} {f : Nat → Nat → Bool} {q : Nat → Bool} (h : Prts n f) (hq : ∀ a b, a < n → b < n → f a b = true → q a = q b) {y : List Int} (hy : y ∈ csl n f n) (hn : (y.all fun x => decide (x ∈ li (lst n q))) = false) : (y.filter fun x => decide (x ∈ li (lst n q))) = [] := by
  unfold csl at hy
  obtain ⟨a, ha, rfl⟩ := List.mem_map.1 hy
  rw [h.fsts, List.mem_filter, List.mem_range] at ha
  have hqa : q a = false := by
    cases hqa : q a with
    | false => rfl
    | true =>
      have : ((li (lst n (f a))).all fun x => decide (x ∈ li (lst n q))) = true := by
        rw [List.all_eq_true]
        intro x hx
        unfold li at hx
        obtain ⟨z, hz, rfl⟩ := List.mem_map.1 hx
        obtain ⟨hzn, hfz⟩ := mem_lst.1 hz
        rw [decide_eq_true_eq]
        exact mem_li.2 (mem_lst.2 ⟨hzn, by rw [← hq a z ha.1 hzn hfz]; exact hqa⟩)
      rw [this] at hn
      exact absurd hn (by decide)
  rw [List.filter_eq_nil_iff]
  intro x hx
  unfold li at hx
  obtain ⟨z, hz, rfl⟩ := List.mem_map.1 hx
  obtain ⟨hzn, hfz⟩ := mem_lst.1 hz
  rw [decide_eq_true_eq]
  intro h9
  have h8 := (mem_lst.1 (mem_li.1 h9)).2
  rw [← hq a z ha.1 hzn hfz, hqa] at h8
  exact absurd h8 (by decide)
/-- A right coset of a subgroup lies in a greater one, or has nothing of it. -/
theorem rgt_in {n e : Nat} {zs : List Int} {p q : Nat → Bool} (g : IsGrp n zs e) (hq : subT n zs e q = true) (hpq : ∀ a, a < n → p a = true → q a = true) {a b : Nat} (ha : a < n) (_hb : b < n) (h : rgtq n zs (lst n p) a b = true) : q a = q b := by
  obtain ⟨x, hx, rfl⟩ := mem_rgt.1 h
  obtain ⟨hxn, hpx⟩ := mem_lst.1 hx
  obtain ⟨i1, i2⟩ := sub_iv g hq hxn (hpq x hxn hpx)
  obtain ⟨_, _, i4, _⟩ := iv_spec g hxn
  rw [Bool.eq_iff_iff]
  constructor
  · intro h1
    exact sub_mul hq hxn ha (hpq x hxn hpx) h1
  · intro h1
    have := sub_mul hq i1 (tm_lt g.tab hxn ha) i2 h1
    rw [← g.ass _ x a i1 hxn ha, i4, g.left a ha] at this
    exact this
theorem ent81 (a : Int) (x y : Value) (W : World) : Sem.run Tryd.prog (callFunc 81 (#[.int .i64 a] ++ #[x, y])) W = .ok (.enter 81 (#[.int .i64 a] ++ #[x, y])) W := by kernel_rfl
theorem has_int' (v : Value) (ys : List Int) (a : Int) (w : World) (hv : Sl w v ys) :
    Calls Tryd.prog 53 #[v, .int .i64 a] w fun x w' => x = .returned (.bool (decide (a ∈ ys))) ∧ Below w.heap.size w w' := by
  refine (rhas_ok v ys a w hv).mono ?_
  rintro x w1 ⟨rfl, rfl⟩
  exact ⟨rfl, Below.refl _ _⟩
set_option maxRecDepth 100000 in
set_option maxHeartbeats 2000000 in
theorem tw1_ok (a : Int) (ab mb : Nat) (av mv : Value) (xs ys : List Int) (w : World) (hA : Boxed w ab 22 av) (hM : Boxed w mb 22 mv) (h1 : Sl w av xs) (h2 : Sl w mv ys) :
    Calls Tryd.prog 81 (#[.int .i64 a] ++ #[.pointer (some ⟨ab, 0, none⟩), .pointer (some ⟨mb, 0, none⟩)]) w fun z w' => z = .returned (.bool (decide (a ∈ xs) || decide (a ∈ ys))) ∧ Below w.heap.size w w' := by
  show Calls Tryd.prog 81 #[.int .i64 a, .pointer (some ⟨ab, 0, none⟩), .pointer (some ⟨mb, 0, none⟩)] w _
  have c0 := hA.cell
  have c1 := hM.cell
  have HH := hide (has_int' av xs a w h1)
  cases hd : decide (a ∈ xs) with
  | true =>
    rw [hd] at HH
    go_enter Tryd.func81, Tryd.ntmps81
    go_wp2_with fail
    refine HH.out.mono ?_
    rintro x w1 ⟨rfl, hb1⟩
    go_wp2
    go_ret
    exact ⟨rfl, hb1⟩
  | false =>
    rw [hd] at HH
    go_enter Tryd.func81, Tryd.ntmps81
    go_wp2_with fail
    refine HH.out.mono ?_
    rintro x w1 ⟨rfl, hb1⟩
    have c1 := below_cell hb1 c1
    go_wp2_with fail
    refine (has_int' mv ys a w1 (h2.below hb1)).mono ?_
    rintro x w2 ⟨rfl, hb2⟩
    go_wp2
    go_ret
    exact ⟨rfl, bcat2 hb1 hb2⟩
end Go.Proofs.YtoiemlnmcfmakaaDoor

namespace Go.Proofs.YtoiemlnmcfmakaaDoor
open Go Go.RowKit

/-- A list that is new since B: it reads so, whatever lies ahead of B. -/
def Frs' (B : Nat) (W : World) (v : Value) (zs : List Int) : Prop := 0 < W.heap.size ∧ ∀ W' : World, (∀ g, B ≤ g → g < W.heap.size → W'.heap[g]? = W.heap[g]?) → W.heap.size ≤ W'.heap.size → Sl W' v zs
theorem Frs'.sl {B : Nat} {W : World} {v : Value} {zs : List Int} (h : Frs' B W v zs) : Sl W v zs := h.2 W (fun _ _ _ => rfl) (Nat.le_refl _)
theorem Frs'.set {B b o : Nat} {W : World} {v y : Value} {zs : List Int} (h : Frs' B W v zs) (hb : b < B) : Frs' B (W.setCell ⟨b, o, none⟩ y) v zs :=
  ⟨by rw [size_set]; exact h.1, fun W' hk hs => h.2 W' (fun g h1 h2 => (hk g h1 (by rw [size_set]; exact h2)).trans (Below.heap_setCell _ _ _ g (by simp; omega))) (by rw [size_set] at hs; exact hs)⟩
theorem Frs'.sl2 {B b o : Nat} {W : World} {v y : Value} {zs : List Int} (h : Frs' B W v zs) (hb : b < B) : Sl (W.setCell ⟨b, o, none⟩ y) v zs := (h.set hb).sl
theorem SlF.frs' {B : Nat} {W : World} {v : Value} {zs : List Int} (h : SlF B W v zs) (h0 : 0 < W.heap.size) : Frs' B W v zs := ⟨h0, fun _ hk hs => (h.keep hk hs).sl⟩
theorem ans' {f : Nat} {args : Array Value} {w : World} {zs : List Int} (h0 : 0 < w.heap.size) (h : Calls Tryd.prog f args w fun x w' => ∃ r, x = .returned (.tuple #[r, .agg #[.int .i64 0, .int .i64 0]]) ∧ SlF w.heap.size w' r zs ∧ Below w.heap.size w w') :
    Calls Tryd.prog f args w fun x w' => ∃ r1 r2 r3, x = .returned (.tuple #[.slice r1 r2 r3, .agg #[.int .i64 0, .int .i64 0]]) ∧ Frs' w.heap.size w' (.slice r1 r2 r3) zs ∧ Below w.heap.size w w' := by
  refine h.mono ?_
  rintro x w' ⟨r, rfl, hr, hb⟩
  obtain ⟨a, l, c, rfl⟩ := hr.sl.isSlice
  exact ⟨a, l, c, rfl, hr.frs' (Nat.lt_of_lt_of_le h0 hb.size), hb⟩
/-- What a cut leaves: a list, and a fault in a box of its own. -/
def TRel (w1 : World) (zs : List Int) (s6 s7 : Value) (W : World) : Prop := ∃ fb a l k, s6 = .slice a l k ∧ s7 = .pointer (some ⟨fb, 0, none⟩) ∧ Blk W fb 28 [.int .i64 0, .int .i64 0] ∧ Sl W (.slice a l k) zs ∧ Below w1.heap.size w1 W
set_option maxRecDepth 100000 in
set_option maxHeartbeats 2000000 in
theorem towers_bad1 (N : Int) (v u m : Value) (zs l k : List Int) (w : World) (hv : Sl w v zs) (hu : Sl w u l) (hm : Sl w m k) (hT : Tab w) (hc : (sfault N zs l).1 ≠ 0) :
    Calls Tryd.prog 13 #[.agg #[.int .i64 N, v], u, m] w fun x w' => x = .returned (.bool true) ∧ Below w.heap.size w w' := by
  obtain ⟨v1, v2, v3, rfl⟩ := hv.isSlice
  obtain ⟨u1, u2, u3, rfl⟩ := hu.isSlice
  obtain ⟨m1, m2, m3, rfl⟩ := hm.isSlice
  have HM := hide (fun W (h : Below w.heap.size w W) => mde_bad N (.slice v1 v2 v3) (.slice u1 u2 u3) zs l W (hv.below h) (hu.below h) hc)
  obtain ⟨c, i, hci⟩ : ∃ c i, sfault N zs l = (c, i) := ⟨_, _, rfl⟩
  rw [hci] at HM hc
  simp only at HM hc
  clear hci
  have hcb : (c != 0) = true := by simpa using hc
  have hB0 : Below w.heap.size w ((w.alloc (.cells #[.int .i64 N, .slice v1 v2 v3] 24)).alloc (.cells #[.slice m1 m2 m3] 22)) := (balloc w _).alloc (by simp) _
  have hX0 : BoxG ((w.alloc (.cells #[.int .i64 N, .slice v1 v2 v3] 24)).alloc (.cells #[.slice m1 m2 m3] 22)) w.heap.size N (.slice v1 v2 v3) := (blk0 _ _).alloc _
  have hM0 := Boxed.new (w.alloc (.cells #[.int .i64 N, .slice v1 v2 v3] 24)) 22 (.slice m1 m2 m3)
  rw [World.size_alloc] at hM0
  obtain ⟨w0, hw0⟩ : ∃ w0, w0 = (w.alloc (.cells #[.int .i64 N, .slice v1 v2 v3] 24)).alloc (.cells #[.slice m1 m2 m3] 22) := ⟨_, rfl⟩
  rw [← hw0] at hB0 hX0 hM0
  have HST := hide (cosetBegun_any w0 (hT.below hB0))
  go_enter Tryd.func13, Tryd.ntmps13
  go_wp2_with fail
  rw [← hw0]
  clear hw0
  refine HST.out.mono ?_
  rintro x w1 ⟨rfl, hb1⟩
  clear HST
  have hB := bcat2 hB0 hb1
  have hX := blk_below hX0 hb1
  have hM := Boxed.below hM0 hb1
  clear hb1 hX0 hM0 hB0
  obtain ⟨c0, c1, _, _⟩ := hX.two
  go_wp2_with fail
  clear c0 c1
  refine (HM.out w1 hB).mono ?_
  rintro x w2 ⟨rfl, hb2⟩
  have hF3 : Blk ((w2.alloc (.cells #[.slice none 0 0] 22)).alloc (.cells #[.int .i64 c, .int .i64 i] 28)) (w2.heap.size + 1) 28 [.int .i64 c, .int .i64 i] := by
    have h := blk0 (w := w2.alloc (.cells #[.slice none 0 0] 22)) (T := 28) (.int .i64 c) (.int .i64 i)
    rw [World.size_alloc] at h
    exact h
  have hb3 := bcat2 hb2 ((balloc w2 (.cells #[.slice none 0 0] 22)).alloc (by simp) (.cells #[.int .i64 c, .int .i64 i] 28))
  have hB3 := bcat2 hB hb3
  obtain ⟨t0, t1, _, _⟩ := hF3.two
  go_wp2
  go_ret
  exact ⟨rfl, hB3⟩
set_option maxRecDepth 100000 in
set_option maxHeartbeats 2000000 in
theorem towers_bad2 (n e : Nat) (v u m : Value) (zs l k : List Int) (w : World) (hv : Sl w v zs) (hg : IsGrp n zs e) (hu : Sl w u l) (hm : Sl w m k) (hT : Tab w) (hl : lfault n l = (0, 0)) (hc : (sfault n zs k).1 ≠ 0) :
    Calls Tryd.prog 13 #[.agg #[.int .i64 n, v], u, m] w fun x w' => x = .returned (.bool true) ∧ Below w.heap.size w w' := by
  obtain ⟨v1, v2, v3, rfl⟩ := hv.isSlice
  obtain ⟨u1, u2, u3, rfl⟩ := hu.isSlice
  obtain ⟨m1, m2, m3, rfl⟩ := hm.isSlice
  have at0 : ∀ W : World, Below w.heap.size w W → 0 < W.heap.size := fun W h => Nat.lt_of_lt_of_le hT.lt h.size
  obtain ⟨p, hp⟩ := mkd_test n zs e (pset l)
  have HM := hide (fun W (h : Below w.heap.size w W) => ans' (at0 W h) (mde_good n e (.slice v1 v2 v3) (.slice u1 u2 u3) zs l p W (hv.below h) hg (hu.below h) (hT.below h) hl hp))
  have HS := hide (fun W (h : Below w.heap.size w W) => rset_any n (.slice v1 v2 v3) (.slice m1 m2 m3) zs k W (hv.below h) (hm.below h))
  obtain ⟨c, i, hci⟩ : ∃ c i, sfault n zs k = (c, i) := ⟨_, _, rfl⟩
  rw [hci] at HS hc
  simp only at HS hc
  clear hci
  have hcb : (c != 0) = true := by simpa using hc
  have hB0 : Below w.heap.size w ((w.alloc (.cells #[.int .i64 n, .slice v1 v2 v3] 24)).alloc (.cells #[.slice m1 m2 m3] 22)) := (balloc w _).alloc (by simp) _
  have hX0 : BoxG ((w.alloc (.cells #[.int .i64 n, .slice v1 v2 v3] 24)).alloc (.cells #[.slice m1 m2 m3] 22)) w.heap.size n (.slice v1 v2 v3) := (blk0 _ _).alloc _
  have hM0 := Boxed.new (w.alloc (.cells #[.int .i64 n, .slice v1 v2 v3] 24)) 22 (.slice m1 m2 m3)
  rw [World.size_alloc] at hM0
  obtain ⟨w0, hw0⟩ : ∃ w0, w0 = (w.alloc (.cells #[.int .i64 n, .slice v1 v2 v3] 24)).alloc (.cells #[.slice m1 m2 m3] 22) := ⟨_, rfl⟩
  rw [← hw0] at hB0 hX0 hM0
  have HST := hide (cosetBegun_any w0 (hT.below hB0))
  go_enter Tryd.func13, Tryd.ntmps13
  go_wp2_with fail
  rw [← hw0]
  clear hw0
  refine HST.out.mono ?_
  rintro x w1 ⟨rfl, hb1⟩
  clear HST
  have hB := bcat2 hB0 hb1
  have hX := blk_below hX0 hb1
  have hM := Boxed.below hM0 hb1
  clear hb1 hX0 hM0 hB0
  obtain ⟨c0, c1, _, _⟩ := hX.two
  go_wp2_with fail
  clear c0 c1
  refine (HM.out w1 hB).mono ?_
  rintro x w2 ⟨r1, r2, r3, rfl, hr, hb2⟩
  have hF : Blk ((w2.alloc (.cells #[.slice r1 r2 r3] 22)).alloc (.cells #[.int .i64 0, .int .i64 0] 28)) (w2.heap.size + 1) 28 [.int .i64 0, .int .i64 0] := by
    have h := blk0 (w := w2.alloc (.cells #[.slice r1 r2 r3] 22)) (T := 28) (.int .i64 0) (.int .i64 0)
    rw [World.size_alloc] at h
    exact h
  have hA : Boxed ((w2.alloc (.cells #[.slice r1 r2 r3] 22)).alloc (.cells #[.int .i64 0, .int .i64 0] 28)) w2.heap.size 22 (.slice r1 r2 r3) := (Boxed.new w2 22 (.slice r1 r2 r3)).alloc _
  have hb23 := (balloc w2 (.cells #[.slice r1 r2 r3] 22)).alloc (by simp) (.cells #[.int .i64 0, .int .i64 0] 28)
  have hb3 := bcat2 hb2 hb23
  have hr := hr.sl.below hb23
  have hX := blk_below hX hb3
  have hM := Boxed.below hM hb3
  have hB := bcat2 hB hb3
  obtain ⟨t0, t1, _, _⟩ := hF.two
  obtain ⟨c0, c1, _, _⟩ := hX.two
  have c2 := hM.cell
  go_wp2_with fail
  clear t0 t1 c0 c1 c2 hb3 hb23
  generalize (w2.alloc (.cells #[.slice r1 r2 r3] 22)).alloc (.cells #[.int .i64 0, .int .i64 0] 28) = w3 at *
  refine (HS.out w3 hB).mono ?_
  rintro x w4 ⟨rfl, hb4⟩
  have hfl := field27 c i
  go_wp2
  go_ret
  exact ⟨rfl, bcat2 hB hb4⟩
theorem csl_mem' {n j : Nat} {f : Nat → Nat → Bool} {y : List Int} (h : y ∈ csl n f j) : ∃ a, a < j ∧ y = li (lst n (f a)) := by
  unfold csl at h
  obtain ⟨a, ha, rfl⟩ := List.mem_map.1 h
  unfold fsts at ha
  exact ⟨a, List.mem_range.1 (List.mem_filter.1 ha).1, rfl⟩
end Go.Proofs.YtoiemlnmcfmakaaDoor

namespace Go.Proofs.YtoiemlnmcfmakaaDoor
open Go Go.RowKit

theorem wrap60' {N : Int} (h0 : 0 ≤ N) (h : N ≤ 60) : IntKind.i64.wrap N = N := by rw [IntKind.wrap_i64]; omega
set_option maxRecDepth 100000 in
set_option maxHeartbeats 8000000 in
theorem towers_good (n e : Nat) (v u m : Value) (zs l k : List Int) (w : World) (hv : Sl w v zs) (hg : IsGrp n zs e) (hu : Sl w u l) (hm : Sl w m k) (hT : Tab w) (hl : lfault n l = (0, 0)) (hk : sfault n zs k = (0, 0)) :
    Calls Tryd.prog 13 #[.agg #[.int .i64 n, v], u, m] w fun x w' => x = .returned (.bool true) ∧ Below w.heap.size w w' := by
  obtain ⟨v1, v2, v3, rfl⟩ := hv.isSlice
  obtain ⟨u1, u2, u3, rfl⟩ := hu.isSlice
  obtain ⟨m1, m2, m3, rfl⟩ := hm.isSlice
  have hn := hg.tab.le
  have at0 : ∀ W : World, Below w.heap.size w W → 0 < W.heap.size := fun W h => Nat.lt_of_lt_of_le hT.lt h.size
  obtain ⟨p, hp⟩ := mkd_test n zs e (pset l)
  have HM := hide (fun W (h : Below w.heap.size w W) => ans' (at0 W h) (mde_good n e (.slice v1 v2 v3) (.slice u1 u2 u3) zs l p W (hv.below h) hg (hu.below h) (hT.below h) hl hp))
  have HS := hide (fun W (h : Below w.heap.size w W) => rset_any n (.slice v1 v2 v3) (.slice m1 m2 m3) zs k W (hv.below h) (hm.below h))
  rw [hk] at HS
  simp only at HS
  obtain ⟨qt, hqt⟩ : ∃ qt : Nat → Bool, (fun x : Nat => decide ((x : Int) ∈ li (lst n p)) || decide ((x : Int) ∈ k)) = qt := ⟨_, rfl⟩
  obtain ⟨pb, hpb⟩ := mkd_test n zs e (pset (li (lst n qt)))
  have HMB := hide (fun W x (h : Below w.heap.size w W) (hx : Sl W x (li (lst n qt))) => ans' (at0 W h) (mde_good n e (.slice v1 v2 v3) x zs (li (lst n qt)) pb W (hv.below h) hg hx (hT.below h) (lst_fault n qt) hpb))
  have hsa0 : subT n zs e p = true := subT_iff.2 (made_sg hg hp)
  have hsb0 : subT n zs e pb = true := subT_iff.2 (made_sg hg hpb)
  have hsa : subT n zs e (pset (li (lst n p))) = true := sg_test hg (made_sg hg hp) (fun a _ => Iff.rfl)
  have hsb : subT n zs e (pset (li (lst n pb))) = true := sg_test hg (made_sg hg hpb) (fun a _ => Iff.rfl)
  have HRA := hide (fun W x (h : Below w.heap.size w W) (hx : Sl W x (li (lst n p))) => lists_sl (at0 W h) (rgt_good n e (.slice v1 v2 v3) x zs (li (lst n p)) W (hv.below h) hg hx (hT.below h) (lst_fault n p) hsa))
  have HRB := hide (fun W x (h : Below w.heap.size w W) (hx : Sl W x (li (lst n pb))) => lists_sl (at0 W h) (rgt_good n e (.slice v1 v2 v3) x zs (li (lst n pb)) W (hv.below h) hg hx (hT.below h) (lst_fault n pb) hsb))
  rw [lst_pset] at HRA HRB
  have hpq : ∀ a, a < n → p a = true → pb a = true := fun a ha h => by
    refine (hpb a ha).2 (Fin.Gen.base (List.mem_range.2 ha) ?_)
    rw [pset_lst ha, ← hqt]
    simp only [Bool.or_eq_true, decide_eq_true_eq]
    exact Or.inl (mem_li.2 (mem_lst.2 ⟨ha, h⟩))
  have hin : ∀ a b, a < n → b < n → rgtq n zs (lst n p) a b = true → pb a = pb b := fun a b ha hb h => rgt_in hg hsb0 hpq ha hb h
  have PA := rgt_parts hg hsa0
  have c1 := PA.card (fun a ha => rgt_size hg (q := p) ha)
  have c2 := (rgt_parts hg hsb0).card (fun a ha => rgt_size hg (q := pb) ha)
  have c3 := PA.card_in (fun a ha => rgt_size hg (q := p) ha) hin
  have hpos : 0 < (lst n p).length := List.length_pos_of_mem (mem_lst.2 ⟨hg.elt, (subT_iff.1 hsa0).one⟩)
  have HOUT := hide (fun y (hy : y ∈ csl n (rgtq n zs (lst n p)) n) h => PA.out hin hy h)
  have HL2 := hide (fun y (hy : y ∈ csl n (rgtq n zs (lst n p)) n) => show y.length ≤ 60 by
    obtain ⟨a, ha, rfl⟩ := csl_mem' hy
    rw [li_len]
    exact Nat.le_trans (lst_len _ _) hn)
  have HL1 := hide (show (csl n (rgtq n zs (lst n p)) n).length ≤ 60 by rw [csl_len]; exact Nat.le_trans (fsts_len _ _ _) hn)
  obtain ⟨pr, HPR0⟩ : ∃ pr : List Int → Bool, (fun y : List Int => y.all fun x => decide (x ∈ li (lst n pb))) = pr := ⟨_, rfl⟩
  have HEQ := hide (show ((csl n (rgtq n zs (lst n p)) n).filter pr).length * (csl n (rgtq n zs (lst n pb)) n).length = (csl n (rgtq n zs (lst n p)) n).length by
    rw [← HPR0]
    refine Nat.eq_of_mul_eq_mul_right hpos ?_
    rw [← c1, Nat.mul_assoc, Nat.mul_comm (csl n (rgtq n zs (lst n pb)) n).length, ← Nat.mul_assoc, ← c3, Nat.mul_comm]
    exact c2.symm)
  have HPR := hide HPR0
  have HOUT := hide (fun y (hy : y ∈ csl n (rgtq n zs (lst n p)) n) (h : pr y = false) => HOUT.out y hy (by rw [← HPR0] at h; exact h))
  clear HPR0 c1 c2 c3 PA hin hpq hsa hsb hsa0 hsb0 hpb hp hpos
  generalize csl n (rgtq n zs (lst n p)) n = ra at *
  generalize csl n (rgtq n zs (lst n pb)) n = rb at *
  have hB0 : Below w.heap.size w ((w.alloc (.cells #[.int .i64 n, .slice v1 v2 v3] 24)).alloc (.cells #[.slice m1 m2 m3] 22)) := (balloc w _).alloc (by simp) _
  have hX0 : BoxG ((w.alloc (.cells #[.int .i64 n, .slice v1 v2 v3] 24)).alloc (.cells #[.slice m1 m2 m3] 22)) w.heap.size n (.slice v1 v2 v3) := (blk0 _ _).alloc _
  have hM0 := Boxed.new (w.alloc (.cells #[.int .i64 n, .slice v1 v2 v3] 24)) 22 (.slice m1 m2 m3)
  rw [World.size_alloc] at hM0
  obtain ⟨w0, hw0⟩ : ∃ w0, w0 = (w.alloc (.cells #[.int .i64 n, .slice v1 v2 v3] 24)).alloc (.cells #[.slice m1 m2 m3] 22) := ⟨_, rfl⟩
  rw [← hw0] at hB0 hX0 hM0
  have HST := hide (cosetBegun_any w0 (hT.below hB0))
  go_enter Tryd.func13, Tryd.ntmps13
  go_wp2_with fail
  rw [← hw0]
  clear hw0
  refine HST.out.mono ?_
  rintro x w1 ⟨rfl, hb1⟩
  clear HST
  have hB := bcat2 hB0 hb1
  have hX := blk_below hX0 hb1
  have hM := Boxed.below hM0 hb1
  clear hb1 hX0 hM0 hB0
  obtain ⟨c0, c1, _, _⟩ := hX.two
  go_wp2_with fail
  clear c0 c1
  refine (HM.out w1 hB).mono ?_
  rintro x w2 ⟨r1, r2, r3, rfl, hr, hb2⟩
  have hF : Blk ((w2.alloc (.cells #[.slice r1 r2 r3] 22)).alloc (.cells #[.int .i64 0, .int .i64 0] 28)) (w2.heap.size + 1) 28 [.int .i64 0, .int .i64 0] := by
    have h := blk0 (w := w2.alloc (.cells #[.slice r1 r2 r3] 22)) (T := 28) (.int .i64 0) (.int .i64 0)
    rw [World.size_alloc] at h
    exact h
  have hA : Boxed ((w2.alloc (.cells #[.slice r1 r2 r3] 22)).alloc (.cells #[.int .i64 0, .int .i64 0] 28)) w2.heap.size 22 (.slice r1 r2 r3) := (Boxed.new w2 22 (.slice r1 r2 r3)).alloc _
  have hb23 := (balloc w2 (.cells #[.slice r1 r2 r3] 22)).alloc (by simp) (.cells #[.int .i64 0, .int .i64 0] 28)
  have hb3 := bcat2 hb2 hb23
  have hr := hr.sl.below hb23
  have hX := blk_below hX hb3
  have hM := Boxed.below hM hb3
  have hB := bcat2 hB hb3
  obtain ⟨t0, t1, _, _⟩ := hF.two
  obtain ⟨c0, c1, _, _⟩ := hX.two
  have c2 := hM.cell
  go_wp2_with fail
  clear t0 t1 c0 c1 c2 hb3 hb23
  generalize (w2.alloc (.cells #[.slice r1 r2 r3] 22)).alloc (.cells #[.int .i64 0, .int .i64 0] 28) = w3 at *
  refine (HS.out w3 hB).mono ?_
  rintro x w4 ⟨rfl, hb4⟩
  have hX := blk_below hX hb4
  have hM := Boxed.below hM hb4
  have hA := Boxed.below hA hb4
  have hr := hr.below hb4
  have hB := bcat2 hB hb4
  have hfl := field27 0 0
  have HTH := hide True.intro
  clear hF hb4 hb2
  go_wp2_with fail
  clear hfl
  go_cut [9, 10] (fun s9 s10 wy => TRel w4 (li (lst n pb)) s9 s10 wy)
  case first =>
    have HTHp := hide (fun W (h : Below w4.heap.size w4 W) => rthose_ok n 81 (.slice v1 v2 v3) #[.pointer (some ⟨w2.heap.size, 0, none⟩), .pointer (some ⟨w.heap.size + 1, 0, none⟩)] qt W hn (fun a W => ent81 a _ _ W) (fun W' x hW hx => by
      rw [← hqt]
      exact tw1_ok x w2.heap.size (w.heap.size + 1) (.slice r1 r2 r3) (.slice m1 m2 m3) (li (lst n p)) k W' (Boxed.below (Boxed.below hA h) hW) (Boxed.below (Boxed.below hM h) hW) ((hr.below h).below hW) (((hm.below hB).below h).below hW)))
    have HMBp := hide (fun W x (h : Below w4.heap.size w4 W) (hx : Sl W x (li (lst n qt))) => HMB.out W x (bcat2 hB h) hx)
    obtain ⟨c0, c1, _, _⟩ := hX.two
    have hS : ∀ W, Below w4.heap.size w4 W → (Below w4.heap.size w4 W ∧ W.cell? ⟨w.heap.size, 0, none⟩ = some (.int .i64 n) ∧ W.cell? ⟨w.heap.size, 1, none⟩ = some (.slice v1 v2 v3)) := fun W h => ⟨h, below_cell h c0, below_cell h c1⟩
    have hS0 := hS _ (bdrew (Below.refl _ w4))
    have h04 : 0 < w4.heap.size := at0 _ hB
    go_region_held3 (fun W => Below w4.heap.size w4 W ∧ W.cell? ⟨w.heap.size, 0, none⟩ = some (.int .i64 n) ∧ W.cell? ⟨w.heap.size, 1, none⟩ = some (.slice v1 v2 v3))
      (first | exact hS0 | assumption | exact hS _ (bcat2 (And.left ‹_›) hl1) | exact hS _ (bcat2 (And.left ‹_›) (balloc _ _)) | (refine hS _ ?_; repeat (first | exact hU2 | (refine bAlloc ?_) | (refine bSet ?_ (by omega)))))
      (first
        | (go_at_call 33; refine (HTHp.out _ (And.left ‹_›)).mono ?_; rintro e1 U1 ⟨m9, rfl, hm9, hl1⟩; obtain ⟨n1, n3, rfl⟩ := row_len hm9; have hlA := hl1; have hU1 := bcat2 (And.left ‹_›) hl1; have hzA := hlA.size; have hz1 := hU1.size; have hp1 := cell_eq hl1; have hq1 := frozen_eq hl1; have hmS := row_sl hm9 (by omega))
        | (go_at_call 17; refine (HMBp.out _ _ (And.left ‹_›) (by first | exact hmS | exact hmS.alloc _)).mono ?_; rintro e2 U2 ⟨b1, b2, b3, rfl, hbr, hl1⟩; have hlB := hl1; have hU2 := bcat2 (And.left ‹_›) hl1; have hz2 := hU2.size; have hp2 := cell_eq hl1; have hq2 := frozen_eq hl1))
    all_goals (go_wp2; go_meet)
    all_goals (have hzB := hlB.size; try simp only [World.size_alloc] at hzA; try simp only [World.size_alloc] at hzB)
    all_goals first
      | exact ⟨_, _, _, _, rfl, rfl, blk0 _ _, (hbr.sl).alloc _, bAlloc hU2⟩
      | exact ⟨_, _, _, _, rfl, rfl, ((blk_below (blk0 _ _) hlB).set 0 _).set 1 _, (hbr.set (by simp only [World.size_alloc]; omega)).sl2 (by simp only [World.size_alloc]; omega), bSet (bSet hU2 (by omega)) (by omega)⟩
      | exact ⟨_, _, _, _, rfl, rfl, ((blk_below (blk_below (blkd _ _) hlA) hlB).set 0 _).set 1 _, (hbr.set (Nat.lt_of_lt_of_le (Nat.lt_succ_self _) (show w4.heap.size + 1 ≤ U1.heap.size by simpa using hlA.size))).sl2 (Nat.lt_of_lt_of_le (Nat.lt_succ_self _) (show w4.heap.size + 1 ≤ U1.heap.size by simpa using hlA.size)), bSet (bSet hU2 (by omega)) (by omega)⟩
  case rest =>
    obtain ⟨fb, b1, b2, b3, rfl, rfl, hF2, hbr, hbn⟩ := hcut
    have hX := blk_below hX hbn
    have hA := Boxed.below hA hbn
    have hr := hr.below hbn
    have hB := bcat2 hB hbn
    clear hbn hM HTH
    obtain ⟨c0, c1, _, _⟩ := hX.two
    have c2 := hA.cell
    go_wp2_with fail
    clear c0 c1 c2
    refine (HRA.out _ _ hB hr).mono ?_
    rintro x w5 ⟨x1, x2, x3, rfl, hx, hb5⟩
    have hb6 := bcat2 hb5 (balloc w5 (.cells #[.int .i64 0, .int .i64 0] 28))
    have hF3 := blk0 (w := w5) (T := 28) (.int .i64 0) (.int .i64 0)
    have hx := hx.below (balloc w5 (.cells #[.int .i64 0, .int .i64 0] 28))
    have hX := blk_below hX hb6
    have hF2 := blk_below hF2 hb6
    have hbr := hbr.below hb6
    have hB := bcat2 hB hb6
    obtain ⟨c0, c1, _, _⟩ := hX.two
    go_wp2_with fail
    clear c0 c1 hb6
    generalize w5.alloc (.cells #[.int .i64 0, .int .i64 0] 28) = w6 at *
    refine (HRB.out _ _ hB hbr).mono ?_
    rintro x w7 ⟨y1, y2, y3, rfl, hy, hb7⟩
    have hb8 := bcat2 hb7 (balloc w7 (.cells #[.int .i64 0, .int .i64 0] 28))
    have hF4 := blk0 (w := w7) (T := 28) (.int .i64 0) (.int .i64 0)
    have hx := hx.below hb8
    have hy := hy.below (balloc w7 (.cells #[.int .i64 0, .int .i64 0] 28))
    have hF2 := blk_below hF2 hb8
    have hF3 := blk_below hF3 hb8
    have hbr := hbr.below hb8
    have hB := bcat2 hB hb8
    obtain ⟨t0, t1, _, _⟩ := hF2.two
    obtain ⟨t2, t3, _, _⟩ := hF3.two
    obtain ⟨t4, t5, _, _⟩ := hF4.two
    obtain ⟨xa, xcap, xpb, xpo, hxe, hx1, hx2, _, _, hx5⟩ := hx
    injection hxe with hxe1 hxe2 hxe3
    subst hxe1 hxe2 hxe3
    obtain ⟨ya, ycap, ypb, ypo, hye, _, _, _, _, hy5⟩ := hy
    injection hye with hye1 hye2 hye3
    subst hye1 hye2 hye3
    have hra : ra.length ≤ 60 := HL1.out
    have HX1 := hide hx1
    have HX2 := hide hx2
    clear hx1 hx2 hx5 hy5 hb8
    have HF := hide (And.intro hF2 (And.intro hF3 hF4))
    clear hF2 hF3 hF4 hX hA hr HRA HRB HMB HM HS
    go_wp2
    clear t0 t1 t2 t3 t4 t5 HF
    generalize w7.alloc (.cells #[.int .i64 0, .int .i64 0] 28) = w8 at *
    go_loopw [15, 16] (fun cn i wr => ∃ j : Nat, j ≤ ra.length ∧ i = .int .i64 j ∧ cn = .int .i64 (((ra.take j).filter pr).length : Nat) ∧ Below w8.heap.size w8 wr) (fun _ i _ => ra.length - (intOf i).toNat)
    case atStart => exact ⟨0, Nat.zero_le _, rfl, by simp, Below.refl _ _⟩
    case round =>
      obtain ⟨j, hj, rfl, rfl, hBr⟩ := hrel
      have hcl : ((ra.take j).filter pr).length ≤ j := Nat.le_trans (List.length_filter_le _ _) (by rw [List.length_take]; omega)
      by_cases hlt : j < ra.length
      · have hji : (j : Int) < (ra.length : Int) := by omega
        obtain rfl := HX1.out (by omega)
        obtain ⟨y, cy, hy⟩ := HX2.out j hlt
        have cy := below_cell hBr cy
        have hy := hy.below hBr
        rw [List.getElem?_eq_getElem hlt] at hy
        have hy : Sl wr y ra[j] := hy
        obtain ⟨z1, z2, z3, rfl⟩ := hy.isSlice
        have hbq := hbr.below hBr
        have HPA := hide (parted_ok (.slice z1 z2 z3) (.slice b1 b2 b3) ra[j] (li (lst n pb)) wr hy hbq)
        have HMEM := hide (List.getElem_mem hlt)
        have HTK := hide (show (ra.take (j + 1)).filter pr = (ra.take j).filter pr ++ (if pr ra[j] then [ra[j]] else []) by
          rw [List.take_add_one, List.getElem?_eq_getElem hlt, List.filter_append]
          simp [List.filter_cons])
        have hpr : ((ra[j]).all fun a => decide (a ∈ li (lst n pb))) = pr ra[j] := by rw [← HPR.out]
        rw [hpr] at HPA
        cases hpj : pr ra[j] with
        | true =>
          rw [hpj] at HPA
          go_wp2_with fail
          refine HPA.out.mono ?_
          rintro x w9 ⟨rfl, rfl⟩
          go_wp2
          go_roundw
          case rel => exact ⟨j + 1, by omega, by go_num, by rw [HTK.out, hpj]; simp, hBr⟩
          case measure => simp [intOf]; omega
        | false =>
          rw [hpj] at HPA
          have HBO := hide (both_ok (.slice z1 z2 z3) (.slice b1 b2 b3) ra[j] (li (lst n pb)) wr hy hbq (HL2.out _ HMEM.out))
          rw [HOUT.out _ HMEM.out hpj] at HBO
          go_wp2_with fail
          refine HPA.out.mono ?_
          rintro x w9 ⟨rfl, rfl⟩
          go_wp2_with fail
          refine HBO.out.mono ?_
          rintro x w10 ⟨q9, rfl, hq9, hb10⟩
          obtain ⟨q1, q3, rfl⟩ : ∃ q1 q3, q9 = Value.slice q1 0 q3 := own_slice' hq9
          go_wp2
          go_roundw
          case rel => exact ⟨j + 1, by omega, by go_num, by rw [HTK.out, hpj]; simp, bcat2 hBr hb10⟩
          case measure => simp [intOf]; omega
      · have hji : ¬ (j : Int) < (ra.length : Int) := by omega
        have hjt : ra.take j = ra := List.take_of_length_le (by omega)
        rw [hjt] at hcl ⊢
        have hmul : IntKind.i64.wrap (((ra.filter pr).length : Int) * (rb.length : Int)) = (ra.length : Int) := by
          rw [← Int.natCast_mul, HEQ.out]
          exact wrap60' (by omega) (by omega)
        clear hjt
        go_wp2
        go_ret
        exact ⟨rfl, bcat2 hB hBr⟩
end Go.Proofs.YtoiemlnmcfmakaaDoor

namespace Go.Proofs.YtoiemlnmcfmakaaDoor
open Go Go.RowKit

theorem towers_law (N : Int) (v u m : Value) (zs l k : List Int) (w : World) (hv : Sl w v zs) (hu : Sl w u l) (hm : Sl w m k) (hT : Tab w) :
    Calls Tryd.prog 13 #[.agg #[.int .i64 N, v], u, m] w fun e w' => e = .returned (.bool true) ∧ Below w.heap.size w w' := by
  by_cases hc : (sfault N zs l).1 = 0
  · obtain ⟨n, e, rfl, hg, hl0, _⟩ := sfault_zero hc
    by_cases hk : (sfault n zs k).1 = 0
    · obtain ⟨_, _, _, _, _, hk0⟩ := sfault_zero hk
      exact towers_good n e v u m zs l k w hv hg hu hm hT hl0 hk0
    · exact towers_bad2 n e v u m zs l k w hv hg hu hm hT hl0 hk
  · exact towers_bad1 N v u m zs l k w hv hu hm hT hc
end Go.Proofs.YtoiemlnmcfmakaaDoor
