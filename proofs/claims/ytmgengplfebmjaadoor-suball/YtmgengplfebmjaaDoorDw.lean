/- Texts of the Sub family that later ones lean on: what stays in memory; normal subgroups, cores and closures as tests. -/
import Derived.Test.YtmgengplfebmjaaDoorPrd
import Derived.Deep.DeepCutAuto
import Derived.Test.YtmgengplfebmjaaDoorSqr
import Derived.Test.YtmgengplfebmjaaDoorCmm
import Derived.Test.YtmgengplfebmjaaDoorNr2
namespace Go.Proofs.YtmgengplfebmjaaDoor
open Go Go.RowKit

theorem box1 (w : World) (x y z : Value) (t : TypeId) : Boxed ((w.alloc (.cells #[x] t)).alloc (.cells #[y, z] 27)) w.heap.size t x ∧ Blk ((w.alloc (.cells #[x] t)).alloc (.cells #[y, z] 27)) (w.heap.size + 1) 27 [y, z] ∧ Below w.heap.size w ((w.alloc (.cells #[x] t)).alloc (.cells #[y, z] 27)) := by
  refine ⟨(Boxed.new w t x).alloc _, ?_, (balloc w _).alloc (by simp) _⟩
  have := blk0 (w := w.alloc (.cells #[x] t)) (T := 27) y z
  rwa [World.size_alloc] at this

end Go.Proofs.YtmgengplfebmjaaDoor

namespace Go.Proofs.YtmgengplfebmjaaDoor
open Go Go.RowKit

/-- DEDEKIND'S LAW, of tests. -/
theorem dedekind_math {n e : Nat} {zs : List Int} (g : IsGrp n zs e) {p q r : Nat → Bool} (Sp : Fin.Sg (List.range n) (tm n zs) e (fun a => p a = true)) (Sr : Fin.Sg (List.range n) (tm n zs) e (fun a => r a = true)) (hpr : ∀ a, a < n → p a = true → r a = true) :
    lst n (prq n zs e (lst n p) (lst n fun a => q a && r a)) = lst n (fun a => prq n zs e (lst n p) (lst n q) a && r a) := by
  refine lst_congr fun x hx => ?_
  rw [Bool.eq_iff_iff, Bool.and_eq_true, prq_iff g hx, prq_iff g hx]
  constructor
  · rintro ⟨a, b, ha, hb, hpa, hqb, he⟩
    simp only [Bool.and_eq_true] at hqb
    refine ⟨⟨a, b, ha, hb, hpa, hqb.1, he⟩, ?_⟩
    rw [← he]
    exact Sr.mul a b ha hb (hpr a (List.mem_range.1 ha) hpa) hqb.2
  · rintro ⟨⟨a, b, ha, hb, hpa, hqb, he⟩, hrx⟩
    refine ⟨a, b, ha, hb, hpa, ?_, he⟩
    simp only [Bool.and_eq_true]
    refine ⟨hqb, ?_⟩
    have ha' := List.mem_range.1 ha
    have hb' := List.mem_range.1 hb
    obtain ⟨h1, h2, h3, _⟩ := iv_spec g ha'
    have h4 : b = tm n zs (iv n zs e a) x := by rw [← he, ← g.ass _ _ _ h1 ha' hb', h3, g.left b hb']
    rw [h4]
    exact Sr.mul _ _ (List.mem_range.2 h1) (List.mem_range.2 hx) (hpr _ h1 (Sp.inv (grp_fg g) ha (List.mem_range.2 h1) h2 hpa)) hrx
theorem both_li {n : Nat} {p q : Nat → Bool} : (li (lst n p)).filter (fun a => decide (a ∈ li (lst n q))) = li (lst n fun a => p a && q a) := by
  unfold li
  rw [List.filter_map]
  congr 1
  unfold lst
  rw [List.filter_filter]
  refine List.filter_congr fun a ha => ?_
  have h9 := mem_li (xs := lst n q) (a := a)
  unfold li lst at h9
  show (decide ((a : Int) ∈ List.map (fun (x : Nat) => (x : Int)) ((List.range n).filter q)) && p a) = (p a && q a)
  rw [Bool.and_comm]
  congr 1
  rw [Bool.eq_iff_iff, decide_eq_true_eq, h9, List.mem_filter]
  exact ⟨fun h => h.2, fun h => ⟨ha, h⟩⟩
end Go.Proofs.YtmgengplfebmjaaDoor

namespace Go.Proofs.YtmgengplfebmjaaDoor
open Go Go.RowKit

/-- What lies behind the third Made: its list, and a fault in a box that is none. -/
def DRel (w5 : World) (zs : List Int) (s13 s14 : Value) (W : World) : Prop := ∃ fb a l c, s13 = .slice a l c ∧ s14 = .pointer (some ⟨fb, 0, none⟩) ∧ Blk W fb 27 [.int .i64 0, .int .i64 0] ∧ Sl W (.slice a l c) zs ∧ Below w5.heap.size w5 W
theorem blkd {w : World} {T : TypeId} (x y : Value) : Blk (w.alloc (.cells #[x, y] T)).drew w.heap.size T [x, y] := blk0 (w := w) x y
theorem cell_eq {a b : World} (h : Below a.heap.size a b) (p : Addr) (hp : (a.cell? p).isSome = true) : b.cell? p = a.cell? p := by
  obtain ⟨v, hv⟩ := Option.isSome_iff_exists.1 hp
  rw [hv]; exact below_cell h hv
theorem frozen_eq {a b : World} (h : Below a.heap.size a b) (p : Addr) (hp : (a.cell? p).isSome = true) : b.frozen? p = a.frozen? p := by
  obtain ⟨v, hv⟩ := Option.isSome_iff_exists.1 hp
  exact World.frozen?_of_block (h.block _ (World.block_lt_of_cell? a p hv))
theorem those_sl {f : Nat} {args : Array Value} {w : World} {zs : List Int} (h0 : 0 < w.heap.size) (h : Calls Tryd.prog f args w fun x w' => ∃ r, x = .returned r ∧ Row w' w.heap.size r zs ∧ Below w.heap.size w w') :
    Calls Tryd.prog f args w fun x w' => ∃ a l c, x = .returned (.slice a l c) ∧ Sl w' (.slice a l c) zs ∧ Below w.heap.size w w' := by
  refine h.mono ?_
  rintro x w' ⟨r, rfl, hr, hb⟩
  have hs := row_sl hr (Nat.lt_of_lt_of_le h0 hb.size)
  obtain ⟨a, l, c, rfl⟩ := hs.isSlice
  exact ⟨a, l, c, rfl, hs, hb⟩
theorem set_same (W : World) (b o : Nat) (v : Value) (h : W.cell? ⟨b, o, none⟩ = some v) : W.setCell ⟨b, o, none⟩ v = W := by
  unfold World.cell? at h
  cases hb : W.heap[b]? with
  | none => simp [hb] at h
  | some ob =>
    cases ob with
    | cells c T fz =>
      refine setCell_self hb ?_
      simp [hb] at h
      obtain ⟨h1, h2⟩ := Array.getElem?_eq_some_iff.1 h
      apply Array.ext
      · simp
      · intro i h3 h4
        rw [Array.getElem_setIfInBounds (by simpa using h4)]
        split
        · rename_i e; subst e; exact h2.symm
        · rfl
    | _ => simp [hb] at h
theorem Sl.alloc {w : World} {v : Value} {zs : List Int} (h : Sl w v zs) (o : Obj) : Sl (w.alloc o) v zs := h.below (balloc w o)

end Go.Proofs.YtmgengplfebmjaaDoor

namespace Go.Proofs.YtmgengplfebmjaaDoor
open Go Go.RowKit

/-- All numbers below n, as a set. -/
theorem full_fault (n : Nat) : lfault n (li (List.range n)) = (0, 0) := by
  refine lfault_ok (by simp [li]) fun t ht => ?_
  have ht : t < n := by simpa [li] using ht
  have h1 : (li (List.range n))[t]?.getD 0 = (t : Int) := by simp [li, ht]
  have h2 : rbad n (li (List.range n)) t = false := by unfold rbad; rw [h1]; simp; omega
  have h3 : fbad (li (List.range n)) t = false := by
    unfold fbad
    rw [h1, decide_eq_false_iff_not]
    rintro ⟨h4, h5⟩
    have h6 : t - 1 < n := by omega
    have h7 : (li (List.range n))[t - 1]?.getD 0 = ((t - 1 : Nat) : Int) := by simp [li, h6]
    rw [h7] at h5; omega
  rw [h2, h3]; rfl
theorem full_pset (n : Nat) : lst n (pset (li (List.range n))) = List.range n := by
  unfold lst
  rw [List.filter_eq_self]
  intro a ha
  unfold pset
  rw [decide_eq_true_eq]
  exact List.mem_map.2 ⟨a, ha, rfl⟩
/-- The commutators of all things make what Fin.Cms makes. -/
theorem cms_iff {n e : Nat} {zs : List Int} (a : Nat) : Mkd n zs e (cmq n zs e (List.range n) (List.range n)) a ↔ Fin.Gen (List.range n) (tm n zs) e (Fin.Cms (List.range n) (tm n zs) (iv n zs e)) a := by
  have h : ∀ x, (cmq n zs e (List.range n) (List.range n) x = true ↔ Fin.Cms (List.range n) (tm n zs) (iv n zs e) x) := fun x => by
    unfold cmq Fin.Cms
    simp only [List.any_eq_true, decide_eq_true_eq]
    exact ⟨fun ⟨a, ha, b, hb, hc⟩ => ⟨a, b, ha, hb, hc⟩, fun ⟨a, b, ha, hb, hc⟩ => ⟨a, ha, b, hb, hc⟩⟩
  exact ⟨fun hg => Fin.Gen.mono (fun x _ hx => (h x).1 hx) hg, fun hg => Fin.Gen.mono (fun x _ hx => (h x).2 hx) hg⟩
/-- All commute just where the centre is all. -/
theorem cen_all {n : Nat} {zs : List Int} : comB n zs = decide ((lst n (cenq n zs fun _ => true)).length = n) := by
  have hl : lst n (fun _ => true) = List.range n := by unfold lst; simp
  rw [Bool.eq_iff_iff, decide_eq_true_eq, comB_iff]
  have hlen : (lst n (cenq n zs fun _ => true)).length = n ↔ ∀ a, a < n → cenq n zs (fun _ => true) a = true := by
    unfold lst
    have := List.length_filter_eq_length_iff (l := List.range n) (p := cenq n zs fun _ => true)
    rw [List.length_range] at this
    rw [this]
    exact ⟨fun h a ha => h a (List.mem_range.2 ha), fun h a ha => h a (List.mem_range.1 ha)⟩
  rw [hlen]
  constructor
  · intro h a ha
    unfold cenq
    rw [hl, List.all_eq_true]
    intro x hx
    simpa using h a x ha (List.mem_range.1 hx)
  · intro h a b ha hb
    have := h a ha
    unfold cenq at this
    rw [hl, List.all_eq_true] at this
    simpa using this b (List.mem_range.2 hb)
/-- All commute just where the commutators make the one alone. -/
theorem der_all {n e : Nat} {zs : List Int} (g : IsGrp n zs e) {p : Nat → Bool} (hp : ∀ a, a < n → (p a = true ↔ Mkd n zs e (cmq n zs e (List.range n) (List.range n)) a)) : comB n zs = decide ((lst n p).length = 1) := by
  rw [Bool.eq_iff_iff, decide_eq_true_eq, comB_iff]
  have hd := Fin.der_one (grp_fg g) (grp_iv g)
  have he : p e = true := (hp e g.elt).2 ((Fin.Gen.sg _).one)
  have hem : e ∈ lst n p := mem_lst.2 ⟨g.elt, he⟩
  have h1 : (∀ a b, a < n → b < n → tm n zs a b = tm n zs b a) ↔ ∀ a, a < n → p a = true → a = e := by
    constructor
    · intro h a ha hpa
      exact hd.2 (fun a b ha hb => h a b (List.mem_range.1 ha) (List.mem_range.1 hb)) a (List.mem_range.2 ha) ((cms_iff a).1 ((hp a ha).1 hpa))
    · intro h a b ha hb
      exact hd.1 (fun a ha hg => h a (List.mem_range.1 ha) ((hp a (List.mem_range.1 ha)).2 ((cms_iff a).2 hg))) a b (List.mem_range.2 ha) (List.mem_range.2 hb)
  rw [h1]
  constructor
  · intro h
    have : lst n p = [e] := rise_eq (lst_rise n p) (by simp) fun a => by
      rw [mem_lst, List.mem_singleton]
      exact ⟨fun ⟨h1, h2⟩ => h a h1 h2, fun h1 => by subst h1; exact ⟨g.elt, he⟩⟩
    rw [this]; rfl
  · intro h a ha hpa
    obtain ⟨x, hx⟩ := List.length_eq_one_iff.1 h
    have h2 : a ∈ lst n p := mem_lst.2 ⟨ha, hpa⟩
    rw [hx, List.mem_singleton] at h2 hem
    rw [h2, hem]

end Go.Proofs.YtmgengplfebmjaaDoor

namespace Go.Proofs.YtmgengplfebmjaaDoor
open Go

theorem cjq_iff {n e : Nat} {zs : List Int} {q : Nat → Bool} {a y : Nat} : cjq n zs e q a y = true ↔ ∃ x, x ∈ List.range n ∧ q x = true ∧ Fin.cj (tm n zs) (iv n zs e) x a = y := by
  unfold cjq cjl
  simp only [List.any_eq_true, decide_eq_true_eq, mem_lst]
  exact ⟨fun ⟨x, ⟨h1, h2⟩, h3⟩ => ⟨x, List.mem_range.2 h1, h2, h3⟩, fun ⟨x, h1, h2, h3⟩ => ⟨x, ⟨List.mem_range.1 h1, h2⟩, h3⟩⟩
variable {n e : Nat} {zs : List Int} {q : Nat → Bool}
theorem nor_iff (a : Nat) : norq n zs e q a = true ↔ Fin.Nor (List.range n) (tm n zs) (iv n zs e) (fun x => q x = true) a := by
  unfold norq Fin.Nor
  rw [decide_eq_true_eq]
  constructor
  · intro h y hy
    have := bs_inj h y (List.mem_range.1 hy)
    rw [← cjq_iff, this]
  · intro h
    refine bs_ext fun y hy => ?_
    rw [Bool.eq_iff_iff, cjq_iff]
    exact h y (List.mem_range.2 hy)
theorem nrm_iff (g : IsGrp n zs e) : nrmq n zs e q = true ↔ Fin.Nm (List.range n) (tm n zs) (iv n zs e) (fun x => q x = true) := by
  unfold nrmq
  rw [decide_eq_true_eq, ← Fin.nor_all (grp_fg g) (grp_iv g)]
  constructor
  · intro h a ha
    exact (nor_iff a).1 (bs_inj h a (List.mem_range.1 ha))
  · intro h
    exact bs_ext fun a ha => (nor_iff a).2 (h a (List.mem_range.2 ha))
theorem cor_iff (g : IsGrp n zs e) {y : Nat} (hy : y < n) : corq n zs e q n y = true ↔ Fin.Core (List.range n) (tm n zs) (iv n zs e) (fun x => q x = true) y := by
  have hF := grp_fg g
  have hV := grp_iv g
  unfold corq
  rw [Bool.and_eq_true, List.all_eq_true]
  constructor
  · rintro ⟨_, h⟩ b hb
    obtain ⟨x, hx, hq, hc⟩ := cjq_iff.1 (h _ (hV b hb).1)
    rw [← hc, (Fin.cj_back hF hV hx hb).2]
    exact hq
  · intro h
    refine ⟨Fin.core_in hF hV (List.mem_range.2 hy) h, fun a ha => ?_⟩
    exact cjq_iff.2 ⟨_, Fin.cj_mem hF hV (List.mem_range.2 hy) (hV a ha).1, h _ (hV a ha).1, (Fin.cj_back hF hV (List.mem_range.2 hy) ha).2⟩
theorem clo_iff (y : Nat) : cloq n zs e q n y = true ↔ Fin.Conj (List.range n) (tm n zs) (iv n zs e) (fun x => q x = true) y := by
  unfold cloq Fin.Conj
  rw [List.any_eq_true]
  constructor
  · rintro ⟨a, ha, h⟩
    obtain ⟨x, hx, hq, hc⟩ := cjq_iff.1 h
    exact ⟨x, a, hx, ha, hq, hc⟩
  · rintro ⟨x, a, hx, ha, hq, hc⟩
    exact ⟨a, ha, cjq_iff.2 ⟨x, hx, hq, hc⟩⟩
theorem mkd_clo (a : Nat) : Mkd n zs e (cloq n zs e q n) a ↔ Fin.Gen (List.range n) (tm n zs) e (Fin.Conj (List.range n) (tm n zs) (iv n zs e) (fun x => q x = true)) a :=
  ⟨fun h => Fin.Gen.mono (fun x _ hx => (clo_iff x).1 hx) h, fun h => Fin.Gen.mono (fun x _ hx => (clo_iff x).2 hx) h⟩
theorem cen_iff (a : Nat) : cenq n zs (fun _ => true) a = true ↔ Fin.Cen' (List.range n) (tm n zs) a := by
  unfold cenq Fin.Cen'
  rw [List.all_eq_true]
  have hl : lst n (fun _ => true) = List.range n := by unfold lst; simp
  rw [hl]
  exact ⟨fun h x hx => by simpa using h x hx, fun h x hx => by simpa using h x hx⟩
/-- A test that says, of things, what a subgroup's property says. -/
theorem sg_test (g : IsGrp n zs e) {P : Nat → Prop} (S : Fin.Sg (List.range n) (tm n zs) e P) (h : ∀ a, a < n → (q a = true ↔ P a)) : subT n zs e (pset (li (lst n q))) = true := by
  rw [subT_congr g (q := q) (fun a ha => pset_lst ha), subT_iff]
  refine ⟨(h e g.elt).2 S.one, fun a b ha hb h1 h2 => ?_⟩
  have ha' := List.mem_range.1 ha
  have hb' := List.mem_range.1 hb
  exact (h _ (tm_lt g.tab ha' hb')).2 (S.mul a b ha hb ((h a ha').1 h1) ((h b hb').1 h2))
theorem nm_test (g : IsGrp n zs e) {P : Nat → Prop} (N : Fin.Nm (List.range n) (tm n zs) (iv n zs e) P) (h : ∀ a, a < n → (q a = true ↔ P a)) : nrmq n zs e (pset (li (lst n q))) = true := by
  rw [nrm_iff g]
  intro x a hx ha hp
  have hc := Fin.cj_mem (grp_fg g) (grp_iv g) hx ha
  have hx' := List.mem_range.1 hx
  have hc' := List.mem_range.1 hc
  rw [pset_lst hx'] at hp
  rw [pset_lst hc']
  exact (h _ hc').2 (N x a hx ha ((h x hx').1 hp))
theorem part_lst {p q : Nat → Bool} (h : ∀ a, a < n → p a = true → q a = true) : ((li (lst n p)).all fun a => decide (a ∈ li (lst n q))) = true := by
  rw [List.all_eq_true]
  intro z hz
  obtain ⟨a, ha, rfl⟩ := List.mem_map.1 hz
  obtain ⟨h4, h5⟩ := mem_lst.1 ha
  simpa using (mem_li.2 (mem_lst.2 ⟨h4, h a h4 h5⟩))
theorem li_inj {xs ys : List Nat} (h : li xs = li ys) : xs = ys := by
  unfold li at h
  exact (List.map_inj_right (f := fun (x : Nat) => (x : Int)) (fun a b h => by omega)).1 h
theorem lst_inj {p q : Nat → Bool} : lst n p = lst n q ↔ ∀ a, a < n → (p a = true ↔ q a = true) := by
  constructor
  · intro h a ha
    have h1 := mem_lst (n := n) (p := p) (a := a)
    have h2 := mem_lst (n := n) (p := q) (a := a)
    rw [h] at h1
    exact ⟨fun hp => (h2.1 (h1.2 ⟨ha, hp⟩)).2, fun hq => (h1.1 (h2.2 ⟨ha, hq⟩)).2⟩
  · intro h
    exact lst_congr fun a ha => by rw [Bool.eq_iff_iff]; exact h a ha
/-- What SubChains asks at its end: a subgroup is normal just where it is its core, its closure, and its normaliser is all. -/
theorem chain_math (g : IsGrp n zs e) (S : Fin.Sg (List.range n) (tm n zs) e (fun a => q a = true)) {pk : Nat → Bool} (hk : ∀ a, a < n → (pk a = true ↔ Mkd n zs e (cloq n zs e q n) a)) :
    nrmq n zs e q = decide (li (lst n (corq n zs e q n)) = li (lst n q)) ∧ nrmq n zs e q = decide (li (lst n pk) = li (lst n q)) ∧ nrmq n zs e q = decide ((lst n (norq n zs e q)).length = n) := by
  have hF := grp_fg g
  have hV := grp_iv g
  refine ⟨?_, ?_, ?_⟩
  · rw [Bool.eq_iff_iff, decide_eq_true_eq, nrm_iff g]
    constructor
    · intro hN
      rw [lst_inj.2 fun a ha => (cor_iff g ha).trans ⟨fun h => Fin.core_in hF hV (List.mem_range.2 ha) h, fun h => Fin.core_all hN (List.mem_range.2 ha) h⟩]
    · intro h x a hx ha hp
      have h1 := lst_inj.1 (li_inj h)
      have hc := Fin.cj_mem hF hV hx ha
      have hx' := List.mem_range.1 hx
      have hc' := List.mem_range.1 hc
      exact (h1 _ hc').1 ((cor_iff g hc').2 (Fin.core_nm hF hV x a hx ha ((cor_iff g hx').1 ((h1 x hx').2 hp))))
  · rw [Bool.eq_iff_iff, decide_eq_true_eq, nrm_iff g]
    constructor
    · intro hN
      rw [lst_inj.2 fun a ha => (hk a ha).trans ((mkd_clo a).trans ⟨fun h => Fin.clos_least S hN (fun x _ hx => hx) h, fun h => Fin.clos_has hF hV (List.mem_range.2 ha) h⟩)]
    · intro h x a hx ha hp
      have h1 := lst_inj.1 (li_inj h)
      have hc := Fin.cj_mem hF hV hx ha
      have hx' := List.mem_range.1 hx
      have hc' := List.mem_range.1 hc
      exact (h1 _ hc').1 ((hk _ hc').2 ((mkd_clo _).2 (Fin.clos_nm hF hV x a hx ha ((mkd_clo x).1 ((hk x hx').1 ((h1 x hx').2 hp))))))
  · rw [Bool.eq_iff_iff, decide_eq_true_eq, nrm_iff g, ← Fin.nor_all hF hV]
    have := List.length_filter_eq_length_iff (l := List.range n) (p := norq n zs e q)
    rw [List.length_range] at this
    unfold lst
    rw [this]
    exact ⟨fun h a ha => (nor_iff a).2 (h a ha), fun h a ha => (nor_iff a).1 (h a ha)⟩
end Go.Proofs.YtmgengplfebmjaaDoor
