/- What the law CosetSides answers: true, at every table and every list. -/
import Derived.Test.YtoiemlnmcfmakaaDoorCsa
namespace Go.Proofs.YtoiemlnmcfmakaaDoor
open Go Go.RowKit

theorem ent82 (x : Int) (p q r : Value) (W : World) : Sem.run Tryd.prog (callFunc 82 (#[.int .i64 x] ++ #[p, q, r])) W = .ok (.enter 82 (#[.int .i64 x] ++ #[p, q, r])) W := by kernel_rfl
theorem has_int (v : Value) (ys : List Int) (a : Int) (w : World) (hv : Sl w v ys) :
    Calls Tryd.prog 53 #[v, .int .i64 a] w fun x w' => x = .returned (.bool (decide (a ∈ ys))) ∧ Below w.heap.size w w' := by
  refine (rhas_ok v ys a w hv).mono ?_
  rintro x w1 ⟨rfl, rfl⟩
  exact ⟨rfl, Below.refl _ _⟩
set_option maxRecDepth 100000 in
set_option maxHeartbeats 2000000 in
theorem sd1_ok (n e x j ab ib gb : Nat) (v av : Value) (zs ys : List Int) (ls : List (List Int)) (w : World) (g : IsGrp n zs e) (hv : Sl w v zs) (hx : x < n) (hX : BoxG w gb n v) (hA : Boxed w ab 55 av) (hI : Boxed w ib 3 (.int .i64 j)) (hy : ls[j]? = some ys) (hs : SlL w av ls) :
    Calls Tryd.prog 82 (#[.int .i64 x] ++ #[.pointer (some ⟨ab, 0, none⟩), .pointer (some ⟨ib, 0, none⟩), .pointer (some ⟨gb, 0, none⟩)]) w fun z w' => z = .returned (.bool (decide ((iv n zs e x : Int) ∈ ys))) ∧ Below w.heap.size w w' := by
  show Calls Tryd.prog 82 #[.int .i64 x, .pointer (some ⟨ab, 0, none⟩), .pointer (some ⟨ib, 0, none⟩), .pointer (some ⟨gb, 0, none⟩)] w _
  obtain ⟨aa, cap, pb, po, rfl, h1, h2, _, _, h5⟩ := hs
  have hj : j < ls.length := (List.getElem?_eq_some_iff.1 hy).1
  have hji : (j : Int) < (ls.length : Int) := by omega
  have hlm : ls.length ≤ 9223372036854775807 := by unfold maxLen at h5; omega
  obtain rfl := h1 (by omega)
  obtain ⟨y, c3, hsy⟩ := h2 j hj
  rw [hy] at hsy
  obtain ⟨y1, y2, y3, rfl⟩ := hsy.isSlice
  have HI := hide (fun W (h : Below w.heap.size w W) => Iiv_ok n x e v zs W g (hv.below h) hx)
  have HH := hide (fun W a (h : Below w.heap.size w W) => has_int (.slice y1 y2 y3) ys a W (hsy.below h))
  obtain ⟨g0, g1, _, _⟩ := hX.two
  have c0 := hA.cell
  have c1 := hI.cell
  have hS : ∀ W, Below w.heap.size w W → (Below w.heap.size w W ∧ W.cell? ⟨gb, 0, none⟩ = some (.int .i64 n) ∧ W.cell? ⟨gb, 1, none⟩ = some v ∧ W.cell? ⟨ab, 0, none⟩ = some (.slice (some ⟨pb, po, none⟩) ls.length cap) ∧ W.cell? ⟨ib, 0, none⟩ = some (.int .i64 j) ∧ W.cell? ⟨pb, po + j, none⟩ = some (.slice y1 y2 y3)) := fun W h => ⟨h, below_cell h g0, below_cell h g1, below_cell h c0, below_cell h c1, below_cell h c3⟩
  have hS0 := hS _ (bdrew (Below.refl _ w))
  clear g0 g1 c0 c1 c3 h2 h1 h5 hy
  go_enter Tryd.func82, Tryd.ntmps82
  go_wp2_with fail
  go_region_held3 (fun W => Below w.heap.size w W ∧ W.cell? ⟨gb, 0, none⟩ = some (.int .i64 n) ∧ W.cell? ⟨gb, 1, none⟩ = some v ∧ W.cell? ⟨ab, 0, none⟩ = some (.slice (some ⟨pb, po, none⟩) ls.length cap) ∧ W.cell? ⟨ib, 0, none⟩ = some (.int .i64 j) ∧ W.cell? ⟨pb, po + j, none⟩ = some (.slice y1 y2 y3))
    (first | exact hS0 | assumption | exact hS _ (bcat2 (And.left ‹_›) hl1))
    (first
      | (go_at_call 58; refine (HI.out _ (And.left ‹_›)).mono ?_; rintro e1 U1 ⟨rfl, hl1⟩)
      | (go_at_call 53; refine (HH.out _ _ (And.left ‹_›)).mono ?_; rintro e3 U3 ⟨rfl, hl1⟩))
  all_goals (
    have hB9 := And.left ‹Below w.heap.size w U3 ∧ _›
    go_wp2
    go_ret
    exact ⟨rfl, hB9⟩)
end Go.Proofs.YtoiemlnmcfmakaaDoor

namespace Go.Proofs.YtoiemlnmcfmakaaDoor
open Go Go.RowKit

set_option maxRecDepth 100000 in
set_option maxHeartbeats 2000000 in
theorem sides_bad (N : Int) (v u : Value) (zs l : List Int) (w : World) (hv : Sl w v zs) (hu : Sl w u l) (hT : Tab w) (hc : (ufault N zs l).1 ≠ 0) :
    Calls Tryd.prog 14 #[.agg #[.int .i64 N, v], u] w fun x w' => x = .returned (.bool true) ∧ Below w.heap.size w w' := by
  obtain ⟨v1, v2, v3, rfl⟩ := hv.isSlice
  obtain ⟨u1, u2, u3, rfl⟩ := hu.isSlice
  have HR := hide (fun W (h : Below w.heap.size w W) => rgt_bad N (.slice v1 v2 v3) (.slice u1 u2 u3) zs l W (hv.below h) (hu.below h) (hT.below h) hc)
  have HL := hide (fun W (h : Below w.heap.size w W) => lft_bad N (.slice v1 v2 v3) (.slice u1 u2 u3) zs l W (hv.below h) (hu.below h) (hT.below h) hc)
  have HN := hide (fun W (h : Below w.heap.size w W) => nrm_bad N (.slice v1 v2 v3) (.slice u1 u2 u3) zs l W (hv.below h) (hu.below h) (hT.below h) hc)
  have HU := hide (fun W (h : Below w.heap.size w W) => rsub_any N (.slice v1 v2 v3) (.slice u1 u2 u3) zs l W (hv.below h) (hu.below h))
  obtain ⟨c, i, hci⟩ : ∃ c i, ufault N zs l = (c, i) := ⟨_, _, rfl⟩
  rw [hci] at HR HL HN HU hc
  simp only at HR HL HN HU hc
  clear hci
  have hcb : (c != 0) = true := by simpa using hc
  have hB0 : Below w.heap.size w (w.alloc (.cells #[.int .i64 N, .slice v1 v2 v3] 24)) := balloc w _
  have hX0 : BoxG (w.alloc (.cells #[.int .i64 N, .slice v1 v2 v3] 24)) w.heap.size N (.slice v1 v2 v3) := blk0 _ _
  obtain ⟨w0, hw0⟩ : ∃ w0, w0 = w.alloc (.cells #[.int .i64 N, .slice v1 v2 v3] 24) := ⟨_, rfl⟩
  rw [← hw0] at hB0 hX0
  have HST := hide (cosetBegun_any w0 (hT.below hB0))
  go_enter Tryd.func14, Tryd.ntmps14
  go_wp2_with fail
  rw [← hw0]
  clear hw0
  refine HST.out.mono ?_
  rintro x w1 ⟨rfl, hb1⟩
  have hB1 := bcat2 hB0 hb1
  have hX1 := blk_below hX0 hb1
  obtain ⟨c0, c1, _, _⟩ := hX1.two
  go_wp2_with fail
  clear c0 c1
  refine (HR.out w1 hB1).mono ?_
  rintro x w2 ⟨rfl, hb2⟩
  have hF3 : Blk ((w2.alloc (.cells #[.slice none 0 0] 55)).alloc (.cells #[.int .i64 c, .int .i64 i] 28)) (w2.heap.size + 1) 28 [.int .i64 c, .int .i64 i] := by
    have h := blk0 (w := w2.alloc (.cells #[.slice none 0 0] 55)) (T := 28) (.int .i64 c) (.int .i64 i)
    rw [World.size_alloc] at h
    exact h
  have hb3 := bcat2 hb2 ((balloc w2 (.cells #[.slice none 0 0] 55)).alloc (by simp) (.cells #[.int .i64 c, .int .i64 i] 28))
  have hX3 := blk_below hX1 hb3
  have hB3 := bcat2 hB1 hb3
  obtain ⟨c0, c1, _, _⟩ := hX3.two
  go_wp2_with fail
  clear c0 c1 hb3
  generalize (w2.alloc (.cells #[.slice none 0 0] 55)).alloc (.cells #[.int .i64 c, .int .i64 i] 28) = w3 at *
  refine (HL.out w3 hB3).mono ?_
  rintro x w4 ⟨rfl, hb4⟩
  have hb5 := bcat2 hb4 (balloc w4 (.cells #[.int .i64 c, .int .i64 i] 28))
  have hX5 := blk_below hX3 hb5
  have hF5 := blk_below hF3 hb5
  have hB5 := bcat2 hB3 hb5
  obtain ⟨c0, c1, _, _⟩ := hX5.two
  go_wp2_with fail
  clear c0 c1 hb5
  generalize w4.alloc (.cells #[.int .i64 c, .int .i64 i] 28) = w5 at *
  refine (HN.out w5 hB5).mono ?_
  rintro x w6 ⟨rfl, hb6⟩
  have hb7 := bcat2 hb6 (balloc w6 (.cells #[.int .i64 c, .int .i64 i] 28))
  have hX7 := blk_below hX5 hb7
  have hF7 := blk_below hF5 hb7
  have hB7 := bcat2 hB5 hb7
  obtain ⟨c0, c1, _, _⟩ := hX7.two
  obtain ⟨t0, t1, _, _⟩ := hF7.two
  go_wp2_with fail
  clear c0 c1 t0 t1
  refine (HU.out _ hB7).mono ?_
  rintro x w8 ⟨rfl, hb8⟩
  have hfl := field27 c i
  go_wp2
  go_ret
  exact ⟨rfl, bcat2 hB7 hb8⟩
end Go.Proofs.YtoiemlnmcfmakaaDoor

namespace Go.Proofs.YtoiemlnmcfmakaaDoor
open Go Go.RowKit

theorem Prts.mem {n : Nat} {f : Nat → Nat → Bool} (h : Prts n f) {c : Nat} (hc : c < n) : li (lst n (f c)) ∈ csl n f n := by
  have hne : lst n (f c) ≠ [] := List.ne_nil_of_mem (mem_lst.2 ⟨hc, h.refl c hc⟩)
  obtain ⟨r, t, ht⟩ := List.exists_cons_of_ne_nil hne
  have hr : (lst n (f c)).head? = some r := by rw [ht]; rfl
  obtain ⟨h1, h2, h3⟩ := head_lst.1 hr
  have he : lst n (f c) = lst n (f r) := lst_congr fun x hx => h.same c r hc h1 h2 x hx
  unfold csl
  rw [List.mem_map]
  refine ⟨r, ?_, by rw [he]⟩
  rw [h.fsts, List.mem_filter, decide_eq_true_eq, ← he]
  exact ⟨List.mem_range.2 h1, hr⟩
theorem csl_mem {n j : Nat} {f : Nat → Nat → Bool} {y : List Int} (h : y ∈ csl n f j) : ∃ a, a < j ∧ y = li (lst n (f a)) := by
  unfold csl at h
  obtain ⟨a, ha, rfl⟩ := List.mem_map.1 h
  unfold fsts at ha
  exact ⟨a, List.mem_range.1 (List.mem_filter.1 ha).1, rfl⟩
theorem two_parts (p : Nat → Bool) : ∀ l : List Nat, (l.filter p).length + (l.filter fun a => !p a).length = l.length
  | [] => rfl
  | a :: t => by
    have := two_parts p t
    cases h : p a <;> simp [h] <;> omega
theorem lst_sub {n : Nat} {p q : Nat → Bool} (hs : ∀ a, a < n → p a = true → q a = true) (hl : (lst n q).length ≤ (lst n p).length) : ∀ a, a < n → p a = q a := by
  have h1 : lst n p = (lst n q).filter p := by
    unfold lst
    rw [List.filter_filter]
    exact List.filter_congr fun a ha => by
      cases hp : p a with
      | false => simp
      | true => simp [hs a (List.mem_range.1 ha) hp]
  have h2 : ((lst n q).filter p).length = (lst n q).length := Nat.le_antisymm (List.length_filter_le _ _) (by rw [← h1]; exact hl)
  have h3 := List.length_filter_eq_length_iff.1 h2
  intro a ha
  rw [Bool.eq_iff_iff]
  exact ⟨hs a ha, fun hq => h3 a (mem_lst.2 ⟨ha, hq⟩)⟩
section
variable {n e : Nat} {zs : List Int} {q : Nat → Bool}
theorem iv_iv (g : IsGrp n zs e) {a : Nat} (ha : a < n) : iv n zs e (iv n zs e a) = a := by
  obtain ⟨h1, _, h3, _⟩ := iv_spec g ha
  exact (iv_only g h1 ha h3).symm
theorem iv_mul (g : IsGrp n zs e) {a b : Nat} (ha : a < n) (hb : b < n) : iv n zs e (tm n zs a b) = tm n zs (iv n zs e b) (iv n zs e a) := by
  obtain ⟨a1, a2, _, _⟩ := iv_spec g ha
  obtain ⟨b1, b2, _, _⟩ := iv_spec g hb
  refine (iv_only g (tm_lt g.tab ha hb) (tm_lt g.tab b1 a1) ?_).symm
  rw [g.ass a b _ ha hb (tm_lt g.tab b1 a1), ← g.ass b _ _ hb b1 a1, b2, g.left _ a1, a2]
/-- The inverses of a right coset's things are a left one. -/
theorem inv_coset (g : IsGrp n zs e) (hs : subT n zs e q = true) {a : Nat} (ha : a < n) : lst n (fun x => decide ((iv n zs e x) ∈ lst n (rgtq n zs (lst n q) a))) = lst n (lftq n zs (lst n q) (iv n zs e a)) := by
  obtain ⟨a1, _, _, _⟩ := iv_spec g ha
  refine lst_congr fun x hx => ?_
  obtain ⟨x1, _, _, _⟩ := iv_spec g hx
  rw [Bool.eq_iff_iff, decide_eq_true_eq, mem_lst, mem_rgt, mem_lft]
  constructor
  · rintro ⟨_, y, hy, he⟩
    obtain ⟨hyn, hqy⟩ := mem_lst.1 hy
    obtain ⟨i1, i2⟩ := sub_iv g hs hyn hqy
    refine ⟨iv n zs e y, mem_lst.2 ⟨i1, i2⟩, ?_⟩
    rw [← iv_mul g hyn ha, he, iv_iv g hx]
  · rintro ⟨y, hy, he⟩
    obtain ⟨hyn, hqy⟩ := mem_lst.1 hy
    obtain ⟨i1, i2⟩ := sub_iv g hs hyn hqy
    refine ⟨x1, iv n zs e y, mem_lst.2 ⟨i1, i2⟩, ?_⟩
    rw [← he, iv_mul g a1 hyn, iv_iv g ha]
theorem inv_in (g : IsGrp n zs e) (hs : subT n zs e q = true) {y : List Int} (hy : y ∈ csl n (rgtq n zs (lst n q)) n) : li (lst n (fun x => decide ((iv n zs e x : Int) ∈ y))) ∈ csl n (lftq n zs (lst n q)) n := by
  obtain ⟨a, ha, rfl⟩ := csl_mem hy
  have := (lft_parts g hs).mem (iv_spec g ha).1
  rw [← inv_coset g hs ha] at this
  have he : (fun x => decide ((iv n zs e x : Int) ∈ li (lst n (rgtq n zs (lst n q) a)))) = fun x => decide ((iv n zs e x) ∈ lst n (rgtq n zs (lst n q) a)) := by
    funext x
    rw [Bool.eq_iff_iff, decide_eq_true_eq, decide_eq_true_eq, mem_li]
  rw [he]
  exact this
theorem sides_nrm (g : IsGrp n zs e) : nrmq n zs e q = true ↔ ∀ a b, a < n → b < n → rgtq n zs (lst n q) a b = lftq n zs (lst n q) a b := by
  rw [nrm_iff g]
  unfold Fin.Nm Fin.cj
  constructor
  · intro h a b ha hb
    obtain ⟨a1, a2, a3, _⟩ := iv_spec g ha
    rw [rgt_iff g ha hb, lft_iff g ha hb, Bool.eq_iff_iff, decide_eq_true_eq, decide_eq_true_eq, mem_lst, mem_lst]
    constructor
    · rintro ⟨h1, h2⟩
      refine ⟨tm_lt g.tab a1 hb, ?_⟩
      have := h _ a (List.mem_range.2 h1) (List.mem_range.2 ha) h2
      rw [g.ass b _ a hb a1 ha, a3, g.right b hb] at this
      exact this
    · rintro ⟨h1, h2⟩
      refine ⟨tm_lt g.tab hb a1, ?_⟩
      have := h _ (iv n zs e a) (List.mem_range.2 h1) (List.mem_range.2 a1) h2
      rw [iv_iv g ha, g.ass _ b _ a1 hb a1, ← g.ass a _ _ ha a1 (tm_lt g.tab hb a1), a2, g.left _ (tm_lt g.tab hb a1)] at this
      exact this
  · intro h x a hx ha hq
    have hx := List.mem_range.1 hx
    have ha := List.mem_range.1 ha
    obtain ⟨a1, a2, a3, _⟩ := iv_spec g ha
    have h1 := h a (tm n zs x a) ha (tm_lt g.tab hx ha)
    rw [rgt_iff g ha (tm_lt g.tab hx ha), lft_iff g ha (tm_lt g.tab hx ha), g.ass x a _ hx ha a1, a2, g.right x hx, decide_eq_true (mem_lst.2 ⟨hx, hq⟩)] at h1
    exact (mem_lst.1 (of_decide_eq_true h1.symm)).2
theorem csl_congr {n j : Nat} {f h : Nat → Nat → Bool} (hj : j ≤ n) (he : ∀ a b, a < n → b < n → f a b = h a b) : csl n f j = csl n h j := by
  have hl : ∀ a, a < n → lst n (f a) = lst n (h a) := fun a ha => lst_congr fun b hb => he a b ha hb
  have hb : ∀ a, a < n → bs (f a) n = bs (h a) n := fun a ha => bs_ext fun b hb => he a b ha hb
  unfold csl fsts
  have hf : ((List.range j).filter fun a => (List.range a).all fun b => decide (bs (f b) n ≠ bs (f a) n)) = (List.range j).filter fun a => (List.range a).all fun b => decide (bs (h b) n ≠ bs (h a) n) := List.filter_congr fun a ha => by
    have ha := List.mem_range.1 ha
    rw [Bool.eq_iff_iff, List.all_eq_true, List.all_eq_true]
    constructor
    · intro k b hb9
      have := k b hb9
      rw [hb a (by omega), hb b (by have := List.mem_range.1 hb9; omega)] at this
      exact this
    · intro k b hb9
      rw [hb a (by omega), hb b (by have := List.mem_range.1 hb9; omega)]
      exact k b hb9
  rw [hf]
  exact List.map_congr_left fun a ha => by rw [hl a (by have := List.mem_range.1 (List.mem_filter.1 ha).1; omega)]
/-- Where lists are the same, sets are. -/
theorem Prts.of_csl {n : Nat} {f h : Nat → Nat → Bool} (F : Prts n f) (H : Prts n h) (he : csl n f n = csl n h n) : ∀ a b, a < n → b < n → f a b = h a b := by
  intro a b ha hb
  have h1 := F.mem ha
  rw [he] at h1
  obtain ⟨c, hc, h2⟩ := csl_mem h1
  have h3 : lst n (f a) = lst n (h c) := li_inj h2
  have h4 : ∀ x, x < n → (f a x = true ↔ h c x = true) := lst_inj.1 h3
  have h5 := (h4 a ha).1 (F.refl a ha)
  rw [Bool.eq_iff_iff, h4 b hb, H.same c a hc ha h5 b hb]
theorem sides_eq (g : IsGrp n zs e) (hs : subT n zs e q = true) : nrmq n zs e q = decide (csl n (rgtq n zs (lst n q)) n = csl n (lftq n zs (lst n q)) n) := by
  rw [Bool.eq_iff_iff, decide_eq_true_eq, sides_nrm g]
  exact ⟨fun h => csl_congr (Nat.le_refl _) h, fun h => (rgt_parts g hs).of_csl (lft_parts g hs) h⟩
/-- One of two cosets alone is normal. -/
theorem sides_two (g : IsGrp n zs e) (hs : subT n zs e q = true) (h2 : (csl n (rgtq n zs (lst n q)) n).length = 2) : nrmq n zs e q = true := by
  rw [sides_nrm g]
  have R := rgt_parts g hs
  have L := lft_parts g hs
  have hc := R.card (fun a ha => rgt_size g (q := q) ha)
  rw [h2] at hc
  have hcp : (lst n (fun a => !q a)).length = (lst n q).length := by
    have h9 : (lst n q).length + (lst n (fun a => !q a)).length = n := by
      have := two_parts q (List.range n)
      rw [List.length_range] at this
      exact this
    omega
  have hqr : ∀ b, b < n → rgtq n zs (lst n q) e b = q b := fun b hb => by
    rw [rgt_iff g g.elt hb, show iv n zs e e = e from (iv_only g g.elt g.elt (g.left e g.elt)).symm, g.right b hb, Bool.eq_iff_iff, decide_eq_true_eq, mem_lst]
    exact ⟨fun h => h.2, fun h => ⟨hb, h⟩⟩
  have hql : ∀ b, b < n → lftq n zs (lst n q) e b = q b := fun b hb => by
    rw [lft_iff g g.elt hb, show iv n zs e e = e from (iv_only g g.elt g.elt (g.left e g.elt)).symm, g.left b hb, Bool.eq_iff_iff, decide_eq_true_eq, mem_lst]
    exact ⟨fun h => h.2, fun h => ⟨hb, h⟩⟩
  intro a b ha hb
  cases hqa : q a with
  | true =>
    rw [← R.same e a g.elt ha (by rw [hqr a ha]; exact hqa) b hb, ← L.same e a g.elt ha (by rw [hql a ha]; exact hqa) b hb, hqr b hb, hql b hb]
  | false =>
    have h3 := lst_sub (p := rgtq n zs (lst n q) a) (q := fun x => !q x) (fun x hx h => by
      cases hqx : q x with
      | false => rfl
      | true =>
        have h4 := R.same e x g.elt hx (by rw [hqr x hx]; exact hqx) a ha
        rw [hqr a ha, hqa, R.symm ha hx h] at h4
        exact absurd h4 (by decide)) (by rw [rgt_size g ha, hcp]; exact Nat.le_refl _) b hb
    have h5 := lst_sub (p := lftq n zs (lst n q) a) (q := fun x => !q x) (fun x hx h => by
      cases hqx : q x with
      | false => rfl
      | true =>
        have h4 := L.same e x g.elt hx (by rw [hql x hx]; exact hqx) a ha
        rw [hql a ha, hqa, L.symm ha hx h] at h4
        exact absurd h4 (by decide)) (by rw [lft_size g ha, hcp]; exact Nat.le_refl _) b hb
    rw [h3, h5]
end
end Go.Proofs.YtoiemlnmcfmakaaDoor

namespace Go.Proofs.YtoiemlnmcfmakaaDoor
open Go Go.RowKit

theorem take_snoc {x : List Int} {la : List (List Int)} {t : Nat} {y : List Int} (h : la[t]? = some y) : decide (x ∈ la.take (t + 1)) = (decide (x ∈ la.take t) || decide (x = y)) := by
  rw [List.take_add_one, h]
  simp
set_option maxRecDepth 100000 in
set_option maxHeartbeats 8000000 in
theorem sides_good (n e : Nat) (v u : Value) (zs l : List Int) (w : World) (hv : Sl w v zs) (hg : IsGrp n zs e) (hu : Sl w u l) (hT : Tab w) (hl : lfault n l = (0, 0)) (hsb : subT n zs e (pset l) = true) :
    Calls Tryd.prog 14 #[.agg #[.int .i64 n, v], u] w fun x w' => x = .returned (.bool true) ∧ Below w.heap.size w w' := by
  obtain ⟨v1, v2, v3, rfl⟩ := hv.isSlice
  obtain ⟨u1, u2, u3, rfl⟩ := hu.isSlice
  have hn := hg.tab.le
  have at0 : ∀ W : World, Below w.heap.size w W → 0 < W.heap.size := fun W h => Nat.lt_of_lt_of_le hT.lt h.size
  have HR := hide (fun W (h : Below w.heap.size w W) => lists_sl (at0 W h) (rgt_good n e (.slice v1 v2 v3) (.slice u1 u2 u3) zs l W (hv.below h) hg (hu.below h) (hT.below h) hl hsb))
  have HL := hide (fun W (h : Below w.heap.size w W) => lists_sl (at0 W h) (lft_good n e (.slice v1 v2 v3) (.slice u1 u2 u3) zs l W (hv.below h) hg (hu.below h) (hT.below h) hl hsb))
  have HN := hide (fun W (h : Below w.heap.size w W) => nrm_good n e (.slice v1 v2 v3) (.slice u1 u2 u3) zs l W (hv.below h) hg (hu.below h) (hT.below h) hl hsb)
  rw [sides_eq hg hsb] at HN
  have HIN := hide (fun y => inv_in (y := y) hg hsb)
  have HTW := hide (fun h => sides_two hg hsb h)
  rw [sides_eq hg hsb] at HTW
  generalize csl n (rgtq n zs (lst n (pset l))) n = ra at *
  generalize csl n (lftq n zs (lst n (pset l))) n = la at *
  have HLB := hide (fun sv tv W (h1 : SlL W sv ra) (h2 : SlL W tv la) => lists_any sv tv ra la W h1 h2)
  generalize decide (ra = la) = bb at *
  have hB0 : Below w.heap.size w (w.alloc (.cells #[.int .i64 n, .slice v1 v2 v3] 24)) := balloc w _
  have hX0 : BoxG (w.alloc (.cells #[.int .i64 n, .slice v1 v2 v3] 24)) w.heap.size n (.slice v1 v2 v3) := blk0 _ _
  obtain ⟨w0, hw0⟩ : ∃ w0, w0 = w.alloc (.cells #[.int .i64 n, .slice v1 v2 v3] 24) := ⟨_, rfl⟩
  rw [← hw0] at hB0 hX0
  have HST := hide (cosetBegun_any w0 (hT.below hB0))
  go_enter Tryd.func14, Tryd.ntmps14
  go_wp2_with fail
  rw [← hw0]
  clear hw0
  refine HST.out.mono ?_
  rintro x w1 ⟨rfl, hb1⟩
  have hB1 := bcat2 hB0 hb1
  have hX1 := blk_below hX0 hb1
  obtain ⟨c0, c1, _, _⟩ := hX1.two
  go_wp2_with fail
  clear c0 c1
  refine (HR.out w1 hB1).mono ?_
  rintro x w2 ⟨a1, a2, a3, rfl, hA2, hb2⟩
  have hF3 : Blk ((w2.alloc (.cells #[.slice a1 a2 a3] 55)).alloc (.cells #[.int .i64 0, .int .i64 0] 28)) (w2.heap.size + 1) 28 [.int .i64 0, .int .i64 0] := by
    have h := blk0 (w := w2.alloc (.cells #[.slice a1 a2 a3] 55)) (T := 28) (.int .i64 0) (.int .i64 0)
    rw [World.size_alloc] at h
    exact h
  have hA3 : Boxed ((w2.alloc (.cells #[.slice a1 a2 a3] 55)).alloc (.cells #[.int .i64 0, .int .i64 0] 28)) w2.heap.size 55 (.slice a1 a2 a3) := (Boxed.new w2 55 (.slice a1 a2 a3)).alloc _
  have hb23 := (balloc w2 (.cells #[.slice a1 a2 a3] 55)).alloc (by simp) (.cells #[.int .i64 0, .int .i64 0] 28)
  have hb3 := bcat2 hb2 hb23
  have hS3 := hA2.below hb23
  have hX3 := blk_below hX1 hb3
  have hB3 := bcat2 hB1 hb3
  obtain ⟨c0, c1, _, _⟩ := hX3.two
  go_wp2_with fail
  clear c0 c1 hb3 hb23 hA2
  generalize (w2.alloc (.cells #[.slice a1 a2 a3] 55)).alloc (.cells #[.int .i64 0, .int .i64 0] 28) = w3 at *
  refine (HL.out w3 hB3).mono ?_
  rintro x w4 ⟨b1, b2, b3, rfl, hR4, hb4⟩
  have hb5 := bcat2 hb4 (balloc w4 (.cells #[.int .i64 0, .int .i64 0] 28))
  have hX5 := blk_below hX3 hb5
  have hF5 := blk_below hF3 hb5
  have hA5 := Boxed.below hA3 hb5
  have hS5 := hS3.below hb5
  have hB5 := bcat2 hB3 hb5
  have hR5 := hR4.below (balloc w4 (.cells #[.int .i64 0, .int .i64 0] 28))
  have hG5 := blk0 (w := w4) (T := 28) (.int .i64 0) (.int .i64 0)
  obtain ⟨c0, c1, _, _⟩ := hX5.two
  go_wp2_with fail
  clear c0 c1 hb5 hR4
  generalize w4.alloc (.cells #[.int .i64 0, .int .i64 0] 28) = w5 at *
  refine (HN.out w5 hB5).mono ?_
  rintro x w6 ⟨rfl, hb6⟩
  have hb7 := bcat2 hb6 (balloc w6 (.cells #[.int .i64 0, .int .i64 0] 28))
  have hX7 := blk_below hX5 hb7
  have hF7 := blk_below hF5 hb7
  have hA7 := Boxed.below hA5 hb7
  have hS7 := hS5.below hb7
  have hB7 := bcat2 hB5 hb7
  have hR7 := hR5.below hb7
  have hG7 := blk_below hG5 hb7
  have hH7 := blk0 (w := w6) (T := 28) (.int .i64 0) (.int .i64 0)
  obtain ⟨t0, t1, _, _⟩ := hF7.two
  obtain ⟨t2, t3, _, _⟩ := hG7.two
  obtain ⟨t4, t5, _, _⟩ := hH7.two
  clear hb7
  generalize hw7 : w6.alloc (.cells #[.int .i64 0, .int .i64 0] 28) = w7 at *
  rw [← hw7] at t0 t1 t2 t3 t4 t5
  clear hX0 hX1 hX3 hX5 hF3 hF5 hA3 hA5 hS3 hS5 hR5 hG5 hF7 hG7 hH7 HR HL HN HST hB0 hB1 hB3 hB5 hb1 hb2 hb4 hb6
  have hP7 : Boxed (w7.alloc (.cells #[.int .i64 0] 3)) w7.heap.size 3 (.int .i64 (0 : Nat)) := Boxed.new w7 3 (.int .i64 0)
  have hb8 : Below w7.heap.size w7 (w7.alloc (.cells #[.int .i64 0] 3)) := balloc w7 _
  have hz7 : w7.heap.size = w6.heap.size + 1 := by rw [← hw7]; simp
  rw [hz7] at hP7
  have HW7 := hide hw7
  clear hw7 hz7
  go_wp2
  rw [HW7.out]
  clear HW7 t0 t1 t2 t3 t4 t5
  obtain ⟨aa, acap, apb, apo, hae, hA1, hA2, hA3, hA4, hA5⟩ := id hS7
  injection hae with hae1 hae2 hae3
  subst hae1 hae2 hae3
  obtain ⟨ba, bcap, bpb, bpo, hbe, hC1, hC2, hC3, hC4, hC5⟩ := id hR7
  injection hbe with hbe1 hbe2 hbe3
  subst hbe1 hbe2 hbe3
  have hra : ra.length ≤ 9223372036854775807 := by unfold maxLen at hA5; omega
  have hla : la.length ≤ 9223372036854775807 := by unfold maxLen at hC5; omega
  clear hA1 hA2 hA3 hA4 hA5 hC3 hC4 hC5
  have HC1 := hide hC1
  have HC2 := hide hC2
  have HA7 := hide hA7
  have HS7 := hide hS7
  have HR7 := hide hR7
  have HX7 := hide hX7
  clear hC1 hC2 hS7 hR7
  go_loopw [11] (fun i wr => ∃ j pb : Nat, j ≤ ra.length ∧ i = .pointer (some ⟨pb, 0, none⟩) ∧ Boxed wr pb 3 (.int .i64 j) ∧ Below w7.heap.size w7 wr) (fun i wr => ra.length - boxN wr i)
  case atStart => exact ⟨0, w6.heap.size + 1, Nat.zero_le _, rfl, hP7, hb8⟩
  case round =>
    clear hP7 hb8
    obtain ⟨j, pb, hj, rfl, hP, hB⟩ := hrel
    obtain ⟨wo, rfl⟩ : ∃ wo, wo = wr := ⟨_, rfl⟩
    have hX := blk_below HX7.out hB
    have hA := Boxed.below HA7.out hB
    have hS := HS7.out.below hB
    obtain ⟨c0, c1, _, _⟩ := hX.two
    have c2 := hP.cell
    have c3 := hA.cell
    by_cases hlt : j < ra.length
    · have hji : (j : Int) < (ra.length : Int) := by omega
      obtain ⟨y, hy⟩ : ∃ y, ra[j]? = some y := ⟨ra[j], List.getElem?_eq_getElem hlt⟩
      have HY := hide (HIN.out y (List.mem_of_getElem? hy))
      generalize hq : (fun x => decide ((iv n zs e x : Int) ∈ y)) = q at *
      go_wp2_with fail
      refine (those_sl (at0 wo (bcat2 hB7 hB)) (rthose_ok n 82 (.slice v1 v2 v3) #[.pointer (some ⟨w2.heap.size, 0, none⟩), .pointer (some ⟨pb, 0, none⟩), .pointer (some ⟨w.heap.size, 0, none⟩)] q wo hn (fun a W => ent82 a _ _ _ W) (fun W x hW hx => by
        rw [← hq]
        exact sd1_ok n e x j w2.heap.size pb w.heap.size (.slice v1 v2 v3) (.slice a1 ra.length a3) zs y ra W hg ((hv.below (bcat2 hB7 hB)).below hW) hx (blk_below hX hW) (Boxed.below hA hW) (Boxed.below hP hW) hy (hS.below hW)))).mono ?_
      rintro x w8 ⟨r1, r2, r3, rfl, hr, hb8⟩
      clear c0 c1 c2 c3 hq hy
      have hB8 := bcat2 hB hb8
      have hP8 := Boxed.below hP hb8
      have HPW := hide hP
      clear hX hA hS hP hB
      generalize li (lst n q) = iv9 at *
      go_wp2
      go_loopw [13, 14] (fun ok k wr => ∃ t : Nat, t ≤ la.length ∧ k = .int .i64 t ∧ ok = .bool (decide (iv9 ∈ la.take t)) ∧ Below w8.heap.size w8 wr) (fun _ k _ => la.length - (intOf k).toNat)
      case atStart => exact ⟨0, Nat.zero_le _, rfl, by simp, Below.refl _ _⟩
      case round =>
        obtain ⟨t, ht, rfl, rfl, hBq⟩ := hrel
        by_cases htl : t < la.length
        · have hti : (t : Int) < (la.length : Int) := by omega
          obtain rfl := HC1.out (by omega)
          obtain ⟨z, cz, hz⟩ := HC2.out t htl
          have cz := below_cell (bcat2 hB8 hBq) cz
          have hz := hz.below (bcat2 hB8 hBq)
          rw [List.getElem?_eq_getElem htl] at hz
          obtain ⟨z1, z2, z3, rfl⟩ := hz.isSlice
          have HTK := hide (take_snoc (x := iv9) (List.getElem?_eq_getElem htl))
          cases hok : decide (iv9 ∈ la.take t) with
          | true =>
            go_wp2
            go_roundw
            case rel => exact ⟨t + 1, by omega, by go_num, by rw [HTK.out, hok]; rfl, hBq⟩
            case measure => simp [intOf]; omega
          | false =>
            go_wp2_with fail
            refine (ints_any (.slice r1 r2 r3) (.slice z1 z2 z3) iv9 la[t] wr (hr.below hBq) hz).mono ?_
            rintro x w9 ⟨rfl, hb9⟩
            go_wp2
            go_roundw
            case rel => exact ⟨t + 1, by omega, by go_num, by rw [HTK.out, hok]; rfl, bcat2 hBq hb9⟩
            case measure => simp [intOf]; omega
        · have htn : t = la.length := by omega
          subst htn
          rw [List.take_length, decide_eq_true HY.out]
          have hP9 := Boxed.below hP8 hBq
          have c2 := hP9.cell
          obtain ⟨hN1, hN2⟩ := newbox wr j
          go_wp2
          go_roundw
          case rel => exact ⟨j + 1, wr.heap.size, by omega, rfl, hN1, bcat2 (bcat2 hB8 hBq) hN2⟩
          case measure =>
            show ra.length - boxN _ (Value.pointer (some ⟨wr.heap.size, 0, none⟩)) < ra.length - boxN wo (Value.pointer (some ⟨pb, 0, none⟩))
            rw [boxN_eq hN1, boxN_eq HPW.out]
            omega
    · have hji : ¬ (j : Int) < (ra.length : Int) := by omega
      have hR := HR7.out.below hB
      have HLS := hide (HLB.out _ _ wo hS hR)
      have HB := hide (bcat2 hB7 hB)
      clear hS hR hX hA hP
      go_wp2_with fail
      refine HLS.out.mono ?_
      rintro x w9 ⟨rfl, hb9⟩
      have c3 := below_cell hb9 c3
      clear c0 c1 c2
      cases bb with
      | true =>
        by_cases h2 : ((ra.length : Nat) : Int) = 2
        · go_wp2
          go_ret
          exact ⟨rfl, bcat2 HB.out hb9⟩
        · go_wp2
          go_ret
          exact ⟨rfl, bcat2 HB.out hb9⟩
      | false =>
        have h2 : ¬ ((ra.length : Nat) : Int) = 2 := fun h => absurd (HTW.out (by omega)) (by decide)
        go_wp2
        go_ret
        exact ⟨rfl, bcat2 HB.out hb9⟩
end Go.Proofs.YtoiemlnmcfmakaaDoor

namespace Go.Proofs.YtoiemlnmcfmakaaDoor
open Go Go.RowKit

theorem sides_law (N : Int) (v u : Value) (zs l : List Int) (w : World) (hv : Sl w v zs) (hu : Sl w u l) (hT : Tab w) :
    Calls Tryd.prog 14 #[.agg #[.int .i64 N, v], u] w fun e w' => e = .returned (.bool true) ∧ Below w.heap.size w w' := by
  by_cases hc : (ufault N zs l).1 = 0
  · obtain ⟨n, e, rfl, hg, hl0, hsb, _⟩ := ufault_zero hc
    exact sides_good n e v u zs l w hv hg hu hT hl0 hsb
  · exact sides_bad N v u zs l w hv hu hT hc
end Go.Proofs.YtoiemlnmcfmakaaDoor
