/- What the law SubAbelian answers: true, at every table. Condition: the library's table of places lies as its text lays it. -/
import Derived.Test.YtoiemlnmcfmakaaDoorSqr
import Derived.Test.YtoiemlnmcfmakaaDoorCmm
namespace Go.Proofs.YtoiemlnmcfmakaaDoor
open Go Go.RowKit

/-- All numbers below n, as a set. -/
theorem full_fault (n : Nat) : lfault n (li (List.range n)) = (0, 0) := by
  refine lfault_ok (by simp [li]) fun t ht => ?_
  have ht : t < n := by simpa [li] using ht
  have h1 : (li (List.range n))[t]?.getD 0 = (t : Int) := by simp [li, ht]
  have h2 : rbad n (li (List.range n)) t = false := by unfold rbad; rw [h1]; simp; omega
  have h3 : fbad (li (List.range n)) t = false := by
    unfold fbad
    rw [h1, decide_eq_false_iff_not]
    rintro ⟨h4, h5⟩
    have h6 : t - 1 < n := by omega
    have h7 : (li (List.range n))[t - 1]?.getD 0 = ((t - 1 : Nat) : Int) := by simp [li, h6]
    rw [h7] at h5; omega
  rw [h2, h3]; rfl
theorem full_pset (n : Nat) : lst n (pset (li (List.range n))) = List.range n := by
  unfold lst
  rw [List.filter_eq_self]
  intro a ha
  unfold pset
  rw [decide_eq_true_eq]
  exact List.mem_map.2 ⟨a, ha, rfl⟩
/-- The commutators of all things make what Fin.Cms makes. -/
theorem cms_iff {n e : Nat} {zs : List Int} (a : Nat) : Mkd n zs e (cmq n zs e (List.range n) (List.range n)) a ↔ Fin.Gen (List.range n) (tm n zs) e (Fin.Cms (List.range n) (tm n zs) (iv n zs e)) a := by
  have h : ∀ x, (cmq n zs e (List.range n) (List.range n) x = true ↔ Fin.Cms (List.range n) (tm n zs) (iv n zs e) x) := fun x => by
    unfold cmq Fin.Cms
    simp only [List.any_eq_true, decide_eq_true_eq]
    exact ⟨fun ⟨a, ha, b, hb, hc⟩ => ⟨a, b, ha, hb, hc⟩, fun ⟨a, b, ha, hb, hc⟩ => ⟨a, ha, b, hb, hc⟩⟩
  exact ⟨fun hg => Fin.Gen.mono (fun x _ hx => (h x).1 hx) hg, fun hg => Fin.Gen.mono (fun x _ hx => (h x).2 hx) hg⟩
theorem stays_sl (n : Nat) (w : World) (hn : n ≤ 60) (h0 : 0 < w.heap.size) :
    Calls Tryd.prog 63 #[.int .i64 n] w fun x w' => ∃ r, x = .returned r ∧ Sl w' r (li (List.range n)) ∧ Below w.heap.size w w' := by
  refine (stays_ok n w hn).mono ?_
  rintro x w' ⟨r, h1, h2, h3⟩
  exact ⟨r, h1, row_sl h2 (Nat.lt_of_lt_of_le h0 h3.size), h3⟩
/-- All commute just where the centre is all. -/
theorem cen_all {n : Nat} {zs : List Int} : comB n zs = decide ((lst n (cenq n zs fun _ => true)).length = n) := by
  have hl : lst n (fun _ => true) = List.range n := by unfold lst; simp
  rw [Bool.eq_iff_iff, decide_eq_true_eq, comB_iff]
  have hlen : (lst n (cenq n zs fun _ => true)).length = n ↔ ∀ a, a < n → cenq n zs (fun _ => true) a = true := by
    unfold lst
    have := List.length_filter_eq_length_iff (l := List.range n) (p := cenq n zs fun _ => true)
    rw [List.length_range] at this
    rw [this]
    exact ⟨fun h a ha => h a (List.mem_range.2 ha), fun h a ha => h a (List.mem_range.1 ha)⟩
  rw [hlen]
  constructor
  · intro h a ha
    unfold cenq
    rw [hl, List.all_eq_true]
    intro x hx
    simpa using h a x ha (List.mem_range.1 hx)
  · intro h a b ha hb
    have := h a ha
    unfold cenq at this
    rw [hl, List.all_eq_true] at this
    simpa using this b (List.mem_range.2 hb)
/-- All commute just where the commutators make the one alone. -/
theorem der_all {n e : Nat} {zs : List Int} (g : IsGrp n zs e) {p : Nat → Bool} (hp : ∀ a, a < n → (p a = true ↔ Mkd n zs e (cmq n zs e (List.range n) (List.range n)) a)) : comB n zs = decide ((lst n p).length = 1) := by
  rw [Bool.eq_iff_iff, decide_eq_true_eq, comB_iff]
  have hd := Fin.der_one (grp_fg g) (grp_iv g)
  have he : p e = true := (hp e g.elt).2 ((Fin.Gen.sg _).one)
  have hem : e ∈ lst n p := mem_lst.2 ⟨g.elt, he⟩
  have h1 : (∀ a b, a < n → b < n → tm n zs a b = tm n zs b a) ↔ ∀ a, a < n → p a = true → a = e := by
    constructor
    · intro h a ha hpa
      exact hd.2 (fun a b ha hb => h a b (List.mem_range.1 ha) (List.mem_range.1 hb)) a (List.mem_range.2 ha) ((cms_iff a).1 ((hp a ha).1 hpa))
    · intro h a b ha hb
      exact hd.1 (fun a ha hg => h a (List.mem_range.1 ha) ((hp a (List.mem_range.1 ha)).2 ((cms_iff a).2 hg))) a b (List.mem_range.2 ha) (List.mem_range.2 hb)
  rw [h1]
  constructor
  · intro h
    have : lst n p = [e] := rise_eq (lst_rise n p) (by simp) fun a => by
      rw [mem_lst, List.mem_singleton]
      exact ⟨fun ⟨h1, h2⟩ => h a h1 h2, fun h1 => by subst h1; exact ⟨g.elt, he⟩⟩
    rw [this]; rfl
  · intro h a ha hpa
    obtain ⟨x, hx⟩ := List.length_eq_one_iff.1 h
    have h2 : a ∈ lst n p := mem_lst.2 ⟨ha, hpa⟩
    rw [hx, List.mem_singleton] at h2 hem
    rw [h2, hem]

set_option maxRecDepth 100000 in
set_option maxHeartbeats 4000000 in
theorem abelian_law (N : Int) (v : Value) (zs : List Int) (w : World) (hv : Sl w v zs) (hT : Tab w) :
    Calls Tryd.prog 9 #[.agg #[.int .i64 N, v]] w fun x w' => x = .returned (.bool true) ∧ Below w.heap.size w w' := by
  have hB0 : Below w.heap.size w (w.alloc (.cells #[.int .i64 N, v] 24)) := balloc w _
  have hX0 : BoxG (w.alloc (.cells #[.int .i64 N, v] 24)) w.heap.size N v := blk0 _ _
  obtain ⟨w0, hw0⟩ : ∃ w0, w0 = w.alloc (.cells #[.int .i64 N, v] 24) := ⟨_, rfl⟩
  rw [← hw0] at hB0 hX0
  have hT0 := hT.below hB0
  by_cases hc : (gfault N zs).1 = 0
  · obtain ⟨n, e, rfl, hg, _⟩ := gfault_grp hc
    go_enter Tryd.func9, Tryd.ntmps9
    go_wp2_with fail
    rw [← hw0]
    clear hw0
    refine (subBegun_any w0 hT0).mono ?_
    rintro x w1 ⟨rfl, hb1⟩
    have hB1 := bcat2 hB0 hb1
    obtain ⟨c0, c1, _, _⟩ := (blk_below hX0 hb1).two
    go_wp2_with fail
    clear c0 c1
    refine (centre_good n e v zs w1 (hv.below hB1) hg (hT.below hB1)).mono ?_
    rintro x w2 ⟨z, rfl, hz, hb2⟩
    obtain ⟨za, zcap, zpb, zpo, rfl, _⟩ := hz
    rw [li_len]
    have HCA := hide (cen_all (n := n) (zs := zs))
    obtain ⟨p, hp⟩ := mkd_test n zs e (cmq n zs e (List.range n) (List.range n))
    have HDA := hide (der_all hg hp)
    have hb3 := bcat2 hb2 (balloc w2 (.cells #[.int .i64 0, .int .i64 0] 28))
    have hB3 := bcat2 hB1 hb3
    have hX3 := blk_below hX0 (bcat2 hb1 hb3)
    have hF3 := blk0 (w := w2) (T := 28) (.int .i64 0) (.int .i64 0)
    have hT3 := hT.below hB3
    have hv3 := hv.below hB3
    obtain ⟨t0, t1, _, _⟩ := hF3.two
    go_wp2_with fail
    generalize w2.alloc (.cells #[.int .i64 0, .int .i64 0] 28) = w3 at *
    clear t0 t1
    have hS : ∀ W, Below w3.heap.size w3 W → (Below w3.heap.size w3 W ∧ W.cell? ⟨w.heap.size, 0, none⟩ = some (.int .i64 n) ∧ W.cell? ⟨w.heap.size, 1, none⟩ = some v ∧ W.cell? ⟨w2.heap.size, 0, none⟩ = some (.int .i64 0) ∧ W.cell? ⟨w2.heap.size, 1, none⟩ = some (.int .i64 0) ∧ W.frozen? ⟨w2.heap.size, 0, none⟩ = false ∧ W.frozen? ⟨w2.heap.size, 1, none⟩ = false ∧ W.setCell ⟨w2.heap.size, 0, none⟩ (.int .i64 0) = W ∧ W.setCell ⟨w2.heap.size, 1, none⟩ (.int .i64 0) = W) := fun W h => by
      obtain ⟨_, y0, y1, fy0, fy1, s0, s1⟩ := Two.mk' (blk_below hF3 h)
      obtain ⟨c0, c1, _, _⟩ := (blk_below hX3 h).two
      exact ⟨h, c0, c1, y0, y1, fy0, fy1, s0, s1⟩
    have hS0 := hS _ (bdrew (Below.refl _ w3))
    have HS := hide (fun W (h : Below w3.heap.size w3 W) => stays_sl n W hg.tab.le (Nat.lt_of_lt_of_le hT3.lt h.size))
    have HC := hide (fun W r1 r2 (h : Below w3.heap.size w3 W) (h1 : Sl W r1 (li (List.range n))) (h2 : Sl W r2 (li (List.range n))) => comm_good n e v r1 r2 zs (li (List.range n)) (li (List.range n)) p W (hv3.below h) hg h1 (hT3.below h) (full_fault n) h2 (full_fault n) (by rw [full_pset]; exact hp))
    have hmark : Hid True := trivial
    generalize hCn : (lst n (cenq n zs fun _ => true)).length = cn at *
    have HCN := hide hCn
    clear hCn
    go_region_held3 (fun W => Below w3.heap.size w3 W ∧ W.cell? ⟨w.heap.size, 0, none⟩ = some (.int .i64 n) ∧ W.cell? ⟨w.heap.size, 1, none⟩ = some v ∧ W.cell? ⟨w2.heap.size, 0, none⟩ = some (.int .i64 0) ∧ W.cell? ⟨w2.heap.size, 1, none⟩ = some (.int .i64 0) ∧ W.frozen? ⟨w2.heap.size, 0, none⟩ = false ∧ W.frozen? ⟨w2.heap.size, 1, none⟩ = false ∧ W.setCell ⟨w2.heap.size, 0, none⟩ (.int .i64 0) = W ∧ W.setCell ⟨w2.heap.size, 1, none⟩ (.int .i64 0) = W)
      (first | exact hS0 | assumption | exact hS _ (bcat2 (And.left ‹_›) hl1))
      (first
        | (go_at_call 63; clear hmark; refine (HS.out _ (And.left ‹_›)).mono ?_; rintro e1 W1 ⟨r1, rfl, hr1, hl1⟩)
        | (go_at_call 63; refine (HS.out _ (And.left ‹_›)).mono ?_; rintro e2 W2 ⟨r2, rfl, hr2, hl1⟩; have hr3 := hr1.below hl1)
        | (go_at_call 29; refine (HC.out _ r1 r2 (And.left ‹_›) hr3 hr2).mono ?_; rintro e3 W3 ⟨d, rfl, hd, hl1⟩))
    all_goals (
      obtain ⟨hB9, c0, c1, y0, y1, _⟩ := ‹Below w3.heap.size w3 W3 ∧ _›
      obtain ⟨da, dcap, dpb, dpo, rfl, _⟩ := hd
      rw [li_len]
      have hBz := bcat2 hB3 hB9
      clear hS hS0
      go_wp2_with fail
      refine (commutes_ok n v zs W3 hg.tab (hv.below hBz)).mono ?_
      rintro x w8 ⟨rfl, hb8⟩
      obtain ⟨k0, k1, _, _⟩ := (blk_below hX3 (bcat2 hB9 hb8)).two
      obtain ⟨f0, f1, _, _⟩ := (blk_below hF3 (bcat2 hB9 hb8)).two
      have hBy := bcat2 hBz hb8
      clear c0 c1 y0 y1
      cases hcb : comB n zs with
      | true =>
        rw [hcb] at HCA HDA
        have q1 : cn = n := by have := HCA.out; simpa using this.symm
        have q2 : (lst n p).length = 1 := by have := HDA.out; simpa using this.symm
        have q1i : (cn : Int) = (n : Int) := by omega
        have q2i : ((lst n p).length : Int) = 1 := by omega
        go_wp2
        go_ret
        exact ⟨rfl, hBy⟩
      | false =>
        rw [hcb] at HCA HDA
        have q1 : ¬ cn = n := by have := HCA.out; simpa using this.symm
        have q2 : ¬ (lst n p).length = 1 := by have := HDA.out; simpa using this.symm
        have q1i : ¬ (cn : Int) = (n : Int) := by omega
        have q2i : ¬ ((lst n p).length : Int) = 1 := by omega
        have q1b : ((cn : Int) == (n : Int)) = false := by rw [beq_eq_false_iff_ne]; exact q1i
        have q2b : (((lst n p).length : Int) == 1) = false := by simpa using q2i
        go_wp2
        go_ret
        exact ⟨rfl, hBy⟩)
  · have hcb : ((gfault N zs).1 != 0) = true := by simpa using hc
    go_enter Tryd.func9, Tryd.ntmps9
    go_wp2_with fail
    rw [← hw0]
    clear hw0
    refine (subBegun_any w0 hT0).mono ?_
    rintro x w1 ⟨rfl, hb1⟩
    have hB1 := bcat2 hB0 hb1
    obtain ⟨c0, c1, _, _⟩ := (blk_below hX0 hb1).two
    go_wp2_with fail
    clear c0 c1
    refine (centre_bad N v zs w1 (hv.below hB1) hc).mono ?_
    have HGF := hide (fun W (h : Sl W v zs) => groupFault_any N v zs W h)
    obtain ⟨c, i, hci⟩ : ∃ c i, gfault N zs = (c, i) := ⟨_, _, rfl⟩
    rw [hci] at HGF hc hcb ⊢
    simp only at hc HGF hcb ⊢
    clear hci
    rintro x w2 ⟨rfl, hb2⟩
    have hb3 := bcat2 hb2 (balloc w2 (.cells #[.int .i64 c, .int .i64 i] 28))
    have hB3 := bcat2 hB1 hb3
    have hX3 := blk_below hX0 (bcat2 hb1 hb3)
    have hF3 := blk0 (w := w2) (T := 28) (.int .i64 c) (.int .i64 i)
    obtain ⟨t0, t1, _, _⟩ := hF3.two
    obtain ⟨c0, c1, _, _⟩ := hX3.two
    have hfl := field27 c i
    go_wp2_with fail
    refine (HGF.out _ (hv.below hB3)).mono ?_
    rintro x w4 ⟨rfl, hb4⟩
    clear t0 t1 c0 c1
    go_wp2
    go_ret
    exact ⟨rfl, bcat2 hB3 hb4⟩
end Go.Proofs.YtoiemlnmcfmakaaDoor
