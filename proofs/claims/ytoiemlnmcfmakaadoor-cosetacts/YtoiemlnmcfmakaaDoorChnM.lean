/- Normal subgroups, cores and closures, as tests: what the program's sets are. No condition. -/
import Derived.Test.YtoiemlnmcfmakaaDoorNr2
import Derived.Test.YtoiemlnmcfmakaaDoorDedW
import Derived.Test.YtoiemlnmcfmakaaDoorAbelW
namespace Go.Proofs.YtoiemlnmcfmakaaDoor
open Go

theorem cjq_iff {n e : Nat} {zs : List Int} {q : Nat → Bool} {a y : Nat} : cjq n zs e q a y = true ↔ ∃ x, x ∈ List.range n ∧ q x = true ∧ Fin.cj (tm n zs) (iv n zs e) x a = y := by
  unfold cjq cjl
  simp only [List.any_eq_true, decide_eq_true_eq, mem_lst]
  exact ⟨fun ⟨x, ⟨h1, h2⟩, h3⟩ => ⟨x, List.mem_range.2 h1, h2, h3⟩, fun ⟨x, h1, h2, h3⟩ => ⟨x, ⟨List.mem_range.1 h1, h2⟩, h3⟩⟩
variable {n e : Nat} {zs : List Int} {q : Nat → Bool}
theorem nor_iff (a : Nat) : norq n zs e q a = true ↔ Fin.Nor (List.range n) (tm n zs) (iv n zs e) (fun x => q x = true) a := by
  unfold norq Fin.Nor
  rw [decide_eq_true_eq]
  constructor
  · intro h y hy
    have := bs_inj h y (List.mem_range.1 hy)
    rw [← cjq_iff, this]
  · intro h
    refine bs_ext fun y hy => ?_
    rw [Bool.eq_iff_iff, cjq_iff]
    exact h y (List.mem_range.2 hy)
theorem nrm_iff (g : IsGrp n zs e) : nrmq n zs e q = true ↔ Fin.Nm (List.range n) (tm n zs) (iv n zs e) (fun x => q x = true) := by
  unfold nrmq
  rw [decide_eq_true_eq, ← Fin.nor_all (grp_fg g) (grp_iv g)]
  constructor
  · intro h a ha
    exact (nor_iff a).1 (bs_inj h a (List.mem_range.1 ha))
  · intro h
    exact bs_ext fun a ha => (nor_iff a).2 (h a (List.mem_range.2 ha))
theorem cor_iff (g : IsGrp n zs e) {y : Nat} (hy : y < n) : corq n zs e q n y = true ↔ Fin.Core (List.range n) (tm n zs) (iv n zs e) (fun x => q x = true) y := by
  have hF := grp_fg g
  have hV := grp_iv g
  unfold corq
  rw [Bool.and_eq_true, List.all_eq_true]
  constructor
  · rintro ⟨_, h⟩ b hb
    obtain ⟨x, hx, hq, hc⟩ := cjq_iff.1 (h _ (hV b hb).1)
    rw [← hc, (Fin.cj_back hF hV hx hb).2]
    exact hq
  · intro h
    refine ⟨Fin.core_in hF hV (List.mem_range.2 hy) h, fun a ha => ?_⟩
    exact cjq_iff.2 ⟨_, Fin.cj_mem hF hV (List.mem_range.2 hy) (hV a ha).1, h _ (hV a ha).1, (Fin.cj_back hF hV (List.mem_range.2 hy) ha).2⟩
theorem clo_iff (y : Nat) : cloq n zs e q n y = true ↔ Fin.Conj (List.range n) (tm n zs) (iv n zs e) (fun x => q x = true) y := by
  unfold cloq Fin.Conj
  rw [List.any_eq_true]
  constructor
  · rintro ⟨a, ha, h⟩
    obtain ⟨x, hx, hq, hc⟩ := cjq_iff.1 h
    exact ⟨x, a, hx, ha, hq, hc⟩
  · rintro ⟨x, a, hx, ha, hq, hc⟩
    exact ⟨a, ha, cjq_iff.2 ⟨x, hx, hq, hc⟩⟩
theorem mkd_clo (a : Nat) : Mkd n zs e (cloq n zs e q n) a ↔ Fin.Gen (List.range n) (tm n zs) e (Fin.Conj (List.range n) (tm n zs) (iv n zs e) (fun x => q x = true)) a :=
  ⟨fun h => Fin.Gen.mono (fun x _ hx => (clo_iff x).1 hx) h, fun h => Fin.Gen.mono (fun x _ hx => (clo_iff x).2 hx) h⟩
theorem cen_iff (a : Nat) : cenq n zs (fun _ => true) a = true ↔ Fin.Cen' (List.range n) (tm n zs) a := by
  unfold cenq Fin.Cen'
  rw [List.all_eq_true]
  have hl : lst n (fun _ => true) = List.range n := by unfold lst; simp
  rw [hl]
  exact ⟨fun h x hx => by simpa using h x hx, fun h x hx => by simpa using h x hx⟩
/-- A test that says, of things, what a subgroup's property says. -/
theorem sg_test (g : IsGrp n zs e) {P : Nat → Prop} (S : Fin.Sg (List.range n) (tm n zs) e P) (h : ∀ a, a < n → (q a = true ↔ P a)) : subT n zs e (pset (li (lst n q))) = true := by
  rw [subT_congr g (q := q) (fun a ha => pset_lst ha), subT_iff]
  refine ⟨(h e g.elt).2 S.one, fun a b ha hb h1 h2 => ?_⟩
  have ha' := List.mem_range.1 ha
  have hb' := List.mem_range.1 hb
  exact (h _ (tm_lt g.tab ha' hb')).2 (S.mul a b ha hb ((h a ha').1 h1) ((h b hb').1 h2))
theorem nm_test (g : IsGrp n zs e) {P : Nat → Prop} (N : Fin.Nm (List.range n) (tm n zs) (iv n zs e) P) (h : ∀ a, a < n → (q a = true ↔ P a)) : nrmq n zs e (pset (li (lst n q))) = true := by
  rw [nrm_iff g]
  intro x a hx ha hp
  have hc := Fin.cj_mem (grp_fg g) (grp_iv g) hx ha
  have hx' := List.mem_range.1 hx
  have hc' := List.mem_range.1 hc
  rw [pset_lst hx'] at hp
  rw [pset_lst hc']
  exact (h _ hc').2 (N x a hx ha ((h x hx').1 hp))
theorem part_lst {p q : Nat → Bool} (h : ∀ a, a < n → p a = true → q a = true) : ((li (lst n p)).all fun a => decide (a ∈ li (lst n q))) = true := by
  rw [List.all_eq_true]
  intro z hz
  obtain ⟨a, ha, rfl⟩ := List.mem_map.1 hz
  obtain ⟨h4, h5⟩ := mem_lst.1 ha
  simpa using (mem_li.2 (mem_lst.2 ⟨h4, h a h4 h5⟩))
theorem li_inj {xs ys : List Nat} (h : li xs = li ys) : xs = ys := by
  unfold li at h
  exact (List.map_inj_right (f := fun (x : Nat) => (x : Int)) (fun a b h => by omega)).1 h
theorem lst_inj {p q : Nat → Bool} : lst n p = lst n q ↔ ∀ a, a < n → (p a = true ↔ q a = true) := by
  constructor
  · intro h a ha
    have h1 := mem_lst (n := n) (p := p) (a := a)
    have h2 := mem_lst (n := n) (p := q) (a := a)
    rw [h] at h1
    exact ⟨fun hp => (h2.1 (h1.2 ⟨ha, hp⟩)).2, fun hq => (h1.1 (h2.2 ⟨ha, hq⟩)).2⟩
  · intro h
    exact lst_congr fun a ha => by rw [Bool.eq_iff_iff]; exact h a ha
/-- What SubChains asks at its end: a subgroup is normal just where it is its core, its closure, and its normaliser is all. -/
theorem chain_math (g : IsGrp n zs e) (S : Fin.Sg (List.range n) (tm n zs) e (fun a => q a = true)) {pk : Nat → Bool} (hk : ∀ a, a < n → (pk a = true ↔ Mkd n zs e (cloq n zs e q n) a)) :
    nrmq n zs e q = decide (li (lst n (corq n zs e q n)) = li (lst n q)) ∧ nrmq n zs e q = decide (li (lst n pk) = li (lst n q)) ∧ nrmq n zs e q = decide ((lst n (norq n zs e q)).length = n) := by
  have hF := grp_fg g
  have hV := grp_iv g
  refine ⟨?_, ?_, ?_⟩
  · rw [Bool.eq_iff_iff, decide_eq_true_eq, nrm_iff g]
    constructor
    · intro hN
      rw [lst_inj.2 fun a ha => (cor_iff g ha).trans ⟨fun h => Fin.core_in hF hV (List.mem_range.2 ha) h, fun h => Fin.core_all hN (List.mem_range.2 ha) h⟩]
    · intro h x a hx ha hp
      have h1 := lst_inj.1 (li_inj h)
      have hc := Fin.cj_mem hF hV hx ha
      have hx' := List.mem_range.1 hx
      have hc' := List.mem_range.1 hc
      exact (h1 _ hc').1 ((cor_iff g hc').2 (Fin.core_nm hF hV x a hx ha ((cor_iff g hx').1 ((h1 x hx').2 hp))))
  · rw [Bool.eq_iff_iff, decide_eq_true_eq, nrm_iff g]
    constructor
    · intro hN
      rw [lst_inj.2 fun a ha => (hk a ha).trans ((mkd_clo a).trans ⟨fun h => Fin.clos_least S hN (fun x _ hx => hx) h, fun h => Fin.clos_has hF hV (List.mem_range.2 ha) h⟩)]
    · intro h x a hx ha hp
      have h1 := lst_inj.1 (li_inj h)
      have hc := Fin.cj_mem hF hV hx ha
      have hx' := List.mem_range.1 hx
      have hc' := List.mem_range.1 hc
      exact (h1 _ hc').1 ((hk _ hc').2 ((mkd_clo _).2 (Fin.clos_nm hF hV x a hx ha ((mkd_clo x).1 ((hk x hx').1 ((h1 x hx').2 hp))))))
  · rw [Bool.eq_iff_iff, decide_eq_true_eq, nrm_iff g, ← Fin.nor_all hF hV]
    have := List.length_filter_eq_length_iff (l := List.range n) (p := norq n zs e q)
    rw [List.length_range] at this
    unfold lst
    rw [this]
    exact ⟨fun h a ha => (nor_iff a).2 (h a ha), fun h a ha => (nor_iff a).1 (h a ha)⟩
end Go.Proofs.YtoiemlnmcfmakaaDoor
