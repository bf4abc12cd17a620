/- What the law HomCyclic answers: true, at every table and every number; with what makers and images are extended to, what all yields, homomorphisms of a cyclic group, ringOf and hom.All at two groups. -/
import Derived.Test.YtmgengplfebmjaaDoorHz
import Derived.Test.YtmgengplfebmjaaDoorHy
namespace Go.Proofs.YtmgengplfebmjaaDoor
open Go Go.RowKit

section
variable {n e m d : Nat} {zs ys : List Int} {S S' : List Int × List Nat} {ps : List (Nat × Nat)} {φ : Nat → Nat}
/-- What stands stays. -/
structure Grow (S S' : List Int × List Nat) : Prop where
  pre : S.2 <+: S'.2
  val : ∀ x, x ∈ S.2 → S'.1[x]?.getD 0 = S.1[x]?.getD 0
theorem Grow.refl (S : List Int × List Nat) : Grow S S := ⟨List.prefix_rfl, fun _ _ => rfl⟩
theorem Grow.mem (h : Grow S S') {x : Nat} (hx : x ∈ S.2) : x ∈ S'.2 := h.pre.subset hx
theorem Grow.trans {T : List Int × List Nat} (h : Grow S S') (k : Grow S' T) : Grow S T := ⟨h.pre.trans k.pre, fun x hx => (k.val x (h.mem hx)).trans (h.val x hx)⟩
theorem pre_get {l k : List Nat} (h : l <+: k) {j a : Nat} (hj : l[j]? = some a) : k[j]? = some a := by
  obtain ⟨t, ht⟩ := h
  rw [← ht, List.getElem?_append_left (List.getElem?_eq_some_iff.1 hj).1]
  exact hj
/-- A product with a maker is found, and stands for the product. -/
def OkP (n : Nat) (zs : List Int) (m : Nat) (ys : List Int) (S : List Int × List Nat) (a : Nat) (p : Nat × Nat) : Prop := tm n zs a p.1 ∈ S.2 ∧ S.1[tm n zs a p.1]?.getD 0 = (tm m ys (S.1[a]?.getD 0).toNat p.2 : Int)
theorem OkP.grow {a : Nat} {p : Nat × Nat} (h : OkP n zs m ys S a p) (hg : Grow S S') (ha : a ∈ S.2) : OkP n zs m ys S' a p :=
  ⟨hg.mem h.1, by rw [hg.val _ h.1, h.2, hg.val _ ha]⟩
/-- Words of makers. -/
inductive Wd (n : Nat) (zs : List Int) (e : Nat) (ps : List (Nat × Nat)) : Nat → Prop
  | one : Wd n zs e ps e
  | mul {x : Nat} {p : Nat × Nat} : Wd n zs e ps x → p ∈ ps → Wd n zs e ps (tm n zs x p.1)
theorem exS_grow (h : XI n m S) (ht : IsTab n zs) {a : Nat} {p : Nat × Nat} (ha : a ∈ S.2) (h1 : p.1 < n) (hs : exS n zs m ys a S p = some S') : Grow S S' ∧ OkP n zs m ys S' a p ∧ ∀ x, x ∈ S'.2 → x ∈ S.2 ∨ x = tm n zs a p.1 := by
  have hc := tm_lt ht (h.lt a ha) h1
  unfold exS at hs
  split at hs
  · rename_i hm
    obtain rfl := Option.some.inj hs
    have hnc : tm n zs a p.1 ∉ S.2 := fun hin => by have := h.ok _ hin; omega
    have hv : ∀ x, x ∈ S.2 → ((S.1.set (tm n zs a p.1) (tm m ys (S.1[a]?.getD 0).toNat p.2 : Int)))[x]?.getD 0 = S.1[x]?.getD 0 := fun x hx => by
      rw [get_set (by rw [h.len]; exact hc), if_neg (fun he : x = tm n zs a p.1 => hnc (he ▸ hx))]
    refine ⟨⟨List.prefix_append _ _, hv⟩, ⟨by simp, ?_⟩, fun x hx => ?_⟩
    · show (S.1.set _ _)[tm n zs a p.1]?.getD 0 = (tm m ys ((S.1.set (tm n zs a p.1) (tm m ys (S.1[a]?.getD 0).toNat p.2 : Int))[a]?.getD 0).toNat p.2 : Int)
      rw [hv a ha, get_set (by rw [h.len]; exact hc), if_pos rfl]
    · rcases List.mem_append.1 hx with hx | hx
      · exact .inl hx
      · exact .inr (by simpa using hx)
  · rename_i hm
    split at hs
    · rename_i hv
      obtain rfl := Option.some.inj hs
      refine ⟨Grow.refl _, ⟨?_, hv⟩, fun x hx => .inl hx⟩
      by_cases hin : tm n zs a p.1 ∈ S.2
      · exact hin
      · exact absurd (h.no _ hc hin) hm
    · cases hs
theorem exI_grow (ht : IsTab n zs) (hu : IsTab m ys) {a : Nat} : ∀ (ps : List (Nat × Nat)) {S S' : List Int × List Nat}, XI n m S → a ∈ S.2 → (∀ p, p ∈ ps → p.1 < n ∧ p.2 < m) → exI n zs m ys a ps S = some S' → XI n m S' ∧ Grow S S' ∧ (∀ p, p ∈ ps → OkP n zs m ys S' a p) ∧ ∀ x, x ∈ S'.2 → x ∈ S.2 ∨ ∃ p, p ∈ ps ∧ x = tm n zs a p.1
  | [], S, S', h, ha, hp, hs => by
    obtain rfl := Option.some.inj hs
    exact ⟨h, Grow.refl _, fun p hp => by simp at hp, fun x hx => .inl hx⟩
  | p :: ps, S, S', h, ha, hp, hs => by
    obtain ⟨h1, h2⟩ := hp p (by simp)
    cases he : exS n zs m ys a S p with
    | none => simp only [exI, he] at hs; cases hs
    | some T =>
      simp only [exI, he] at hs
      obtain ⟨g1, o1, m1⟩ := exS_grow h ht ha h1 he
      have hT := (h.step hu ht ha h1 h2 he).1
      obtain ⟨r1, r2, r3, r4⟩ := exI_grow ht hu ps hT (g1.mem ha) (fun q hq => hp q (by simp [hq])) hs
      refine ⟨r1, g1.trans r2, fun q hq => ?_, fun x hx => ?_⟩
      · rcases List.mem_cons.1 hq with rfl | hq
        · exact o1.grow r2 (g1.mem ha)
        · exact r3 q hq
      · rcases r4 x hx with hx | ⟨q, hq, he⟩
        · rcases m1 x hx with hx | hx
          · exact .inl hx
          · exact .inr ⟨p, by simp, hx⟩
        · exact .inr ⟨q, by simp [hq], he⟩
theorem exO_grow (ht : IsTab n zs) (hu : IsTab m ys) (hp : ∀ p, p ∈ ps → p.1 < n ∧ p.2 < m) : ∀ (f k : Nat) {S S' : List Int × List Nat}, XI n m S → n ≤ f + k → (∀ j a, j < k → S.2[j]? = some a → ∀ p, p ∈ ps → OkP n zs m ys S a p) → (∀ x, x ∈ S.2 → Wd n zs e ps x) → exO n zs m ys ps f k S = some S' →
    XI n m S' ∧ Grow S S' ∧ (∀ a, a ∈ S'.2 → ∀ p, p ∈ ps → OkP n zs m ys S' a p) ∧ ∀ x, x ∈ S'.2 → Wd n zs e ps x
  | 0, k, S, S', h, hf, hok, hw, hs => by
    obtain rfl := Option.some.inj hs
    refine ⟨h, Grow.refl _, fun a ha p hp => ?_, hw⟩
    obtain ⟨j, hj, he⟩ := List.mem_iff_getElem.1 ha
    exact hok j a (by have := h.fits; omega) (by rw [List.getElem?_eq_getElem hj, he]) p hp
  | f + 1, k, S, S', h, hf, hok, hw, hs => by
    cases hk : S.2[k]? with
    | none =>
      simp only [exO, hk] at hs
      obtain rfl := Option.some.inj hs
      refine ⟨h, Grow.refl _, fun a ha p hp => ?_, hw⟩
      obtain ⟨j, hj, he⟩ := List.mem_iff_getElem.1 ha
      exact hok j a (by have := List.getElem?_eq_none_iff.1 hk; omega) (by rw [List.getElem?_eq_getElem hj, he]) p hp
    | some a =>
      simp only [exO, hk] at hs
      cases hi : exI n zs m ys a ps S with
      | none => rw [hi] at hs; cases hs
      | some T =>
        rw [hi] at hs
        have ha : a ∈ S.2 := List.mem_of_getElem? hk
        obtain ⟨r1, r2, r3, r4⟩ := exI_grow ht hu ps h ha hp hi
        obtain ⟨q1, q2, q3, q4⟩ := exO_grow ht hu hp f (k + 1) r1 (by omega) (fun j b hj hb p hp => by
          by_cases hjk : j < k
          · have hjl : j < S.2.length := by have := (List.getElem?_eq_some_iff.1 hk).1; omega
            have hb' : S.2[j]? = some b := by
              have h9 := pre_get r2.pre (List.getElem?_eq_getElem hjl)
              rw [hb] at h9
              rw [List.getElem?_eq_getElem hjl, ← h9]
            exact (hok j b hjk hb' p hp).grow r2 (List.mem_of_getElem? hb')
          · have : j = k := by omega
            subst this
            have hkl := (List.getElem?_eq_some_iff.1 hk).1
            have : T.2[j]? = some a := pre_get r2.pre hk
            have : b = a := by rw [hb] at this; exact Option.some.inj this
            subst this
            exact r3 p hp) (fun x hx => by
          rcases r4 x hx with hx | ⟨p, hp, rfl⟩
          · exact hw x hx
          · exact Wd.mul (hw a ha) hp) hs
        exact ⟨q1, r2.trans q2, q3, q4⟩
theorem ext_grow (g : IsGrp n zs e) (h : IsGrp m ys d) (hp : ∀ p, p ∈ ps → p.1 < n ∧ p.2 < m) (hs : ext n zs e m ys d ps = some S) : XI n m S ∧ e ∈ S.2 ∧ S.1[e]?.getD 0 = (d : Int) ∧ (∀ a, a ∈ S.2 → ∀ p, p ∈ ps → OkP n zs m ys S a p) ∧ ∀ x, x ∈ S.2 → Wd n zs e ps x := by
  have h0 := XI.start g.elt h.elt
  obtain ⟨r1, r2, r3, r4⟩ := exO_grow (e := e) g.tab h.tab hp n 0 h0 (by omega) (fun j a hj => by omega) (fun x hx => by
    have : x = e := by simpa [ex0] using hx
    rw [this]; exact Wd.one) hs
  have he : e ∈ (ex0 n e d).2 := by simp [ex0]
  refine ⟨r1, r2.mem he, ?_, r3, r4⟩
  rw [r2.val e he]
  show ((List.replicate n (-1 : Int)).set e (d : Int))[e]?.getD 0 = (d : Int)
  rw [get_set (by simpa using g.elt), if_pos rfl]
/-- What stands for a thing that is found. -/
def vl (S : List Int × List Nat) (x : Nat) : Nat := (S.1[x]?.getD 0).toNat
theorem XI.vl (h : XI n m S) {x : Nat} (hx : x ∈ S.2) : S.1[x]?.getD 0 = (vl S x : Int) ∧ vl S x < m := by
  have := h.ok x hx
  unfold Go.Proofs.YtmgengplfebmjaaDoor.vl
  omega
theorem wd_mul (g : IsGrp n zs e) (h : IsGrp m ys d) (hp : ∀ p, p ∈ ps → p.1 < n ∧ p.2 < m) (hs : ext n zs e m ys d ps = some S) {x y : Nat} (hx : x ∈ S.2) (hy : Wd n zs e ps y) : y ∈ S.2 ∧ tm n zs x y ∈ S.2 ∧ vl S (tm n zs x y) = tm m ys (vl S x) (vl S y) := by
  obtain ⟨r1, r2, r3, r4, _⟩ := ext_grow g h hp hs
  have hve : vl S e = d := by unfold vl; rw [r3]; simp
  induction hy with
  | one => exact ⟨r2, by rw [g.right x (r1.lt x hx)]; exact hx, by rw [g.right x (r1.lt x hx), hve, h.right _ (r1.vl hx).2]⟩
  | mul hw hpm ih =>
    rename_i y p
    obtain ⟨i1, i2, i3⟩ := ih
    obtain ⟨p1, p2⟩ := hp p hpm
    have o1 := r4 y i1 p hpm
    have o2 := r4 _ i2 p hpm
    have ha : tm n zs x (tm n zs y p.1) = tm n zs (tm n zs x y) p.1 := (g.ass x y p.1 (r1.lt x hx) (r1.lt y i1) p1).symm
    refine ⟨o1.1, by rw [ha]; exact o2.1, ?_⟩
    have e1 : vl S (tm n zs y p.1) = tm m ys (vl S y) p.2 := by
      have := o1.2
      unfold vl; rw [this]; simp
    have e2 : vl S (tm n zs (tm n zs x y) p.1) = tm m ys (vl S (tm n zs x y)) p.2 := by
      have := o2.2
      unfold vl; rw [this]; simp
    rw [ha, e2, i3, e1, h.ass _ _ _ (r1.vl hx).2 (r1.vl i1).2 p2]
/-- All that the makers make is found, and products are kept. -/
theorem ext_mul (g : IsGrp n zs e) (h : IsGrp m ys d) (hp : ∀ p, p ∈ ps → p.1 < n ∧ p.2 < m) (hs : ext n zs e m ys d ps = some S) {x y : Nat} (hx : x ∈ S.2) (hy : y ∈ S.2) : tm n zs x y ∈ S.2 ∧ vl S (tm n zs x y) = tm m ys (vl S x) (vl S y) :=
  (wd_mul g h hp hs hx ((ext_grow g h hp hs).2.2.2.2 y hy)).2
theorem ext_made (g : IsGrp n zs e) (h : IsGrp m ys d) (hp : ∀ p, p ∈ ps → p.1 < n ∧ p.2 < m) (hs : ext n zs e m ys d ps = some S) {x : Nat} : x ∈ S.2 ↔ Mkd n zs e (fun x => decide (x ∈ ps.map Prod.fst)) x := by
  obtain ⟨r1, r2, r3, r4, r5⟩ := ext_grow g h hp hs
  constructor
  · intro hx
    have := r5 x hx
    clear hx
    induction this with
    | one => exact (Fin.Gen.sg _).one
    | mul hw hpm ih =>
      rename_i y p
      have hy : y < n := r1.lt y (wd_mul g h hp hs r2 hw).1
      exact (Fin.Gen.sg _).mul _ _ (List.mem_range.2 hy) (List.mem_range.2 (hp p hpm).1) ih (Fin.Gen.base (List.mem_range.2 (hp p hpm).1) (decide_eq_true (List.mem_map.2 ⟨p, hpm, rfl⟩)))
  · intro hx
    refine Fin.Gen.least (P := fun x => x ∈ S.2) ⟨r2, fun a b _ _ ha hb => (ext_mul g h hp hs ha hb).1⟩ (fun y hy hY => ?_) hx
    obtain ⟨p, hpm, rfl⟩ := List.mem_map.1 (of_decide_eq_true hY)
    have := (r4 e r2 p hpm).1
    rwa [g.left p.1 (hp p hpm).1] at this
theorem ext_at (g : IsGrp n zs e) (h : IsGrp m ys d) (hp : ∀ p, p ∈ ps → p.1 < n ∧ p.2 < m) (hs : ext n zs e m ys d ps = some S) {p : Nat × Nat} (hpm : p ∈ ps) : vl S p.1 = p.2 := by
  obtain ⟨r1, r2, r3, r4, _⟩ := ext_grow g h hp hs
  have := (r4 e r2 p hpm).2
  rw [g.left p.1 (hp p hpm).1, r3] at this
  unfold vl
  rw [this, Int.toNat_natCast, Int.toNat_natCast, h.left p.2 (hp p hpm).2]
/-- Where the makers make all, it is a homomorphism. -/
theorem ext_hom (g : IsGrp n zs e) (h : IsGrp m ys d) (hp : ∀ p, p ∈ ps → p.1 < n ∧ p.2 < m) (hs : ext n zs e m ys d ps = some S) (hall : ∀ a, a < n → Mkd n zs e (fun x => decide (x ∈ ps.map Prod.fst)) a) : IsHom n zs m ys (vl S) ∧ S.1 = li ((List.range n).map (vl S)) := by
  obtain ⟨r1, _⟩ := ext_grow g h hp hs
  have hin : ∀ a, a < n → a ∈ S.2 := fun a ha => (ext_made g h hp hs).2 (hall a ha)
  refine ⟨⟨fun a ha => (r1.vl (hin a ha)).2, fun a b ha hb => (ext_mul g h hp hs (hin a ha) (hin b hb)).2⟩, ?_⟩
  apply List.ext_getElem
  · rw [r1.len]; simp [li]
  · intro i h1 h2
    rw [r1.len] at h1
    have := (r1.vl (hin i h1)).1
    rw [List.getElem?_eq_getElem (by rw [r1.len]; exact h1), Option.getD_some] at this
    rw [this]
    simp [li]
/-- Where there is a homomorphism, the search ends well, and finds it. -/
theorem exS_hom (h : XI n m S) (ht : IsTab n zs) (H : IsHom n zs m ys φ) {a : Nat} {p : Nat × Nat} (ha : a ∈ S.2) (h1 : p.1 < n) (hφ : φ p.1 = p.2) (hv : ∀ x, x ∈ S.2 → S.1[x]?.getD 0 = (φ x : Int)) : ∃ S', exS n zs m ys a S p = some S' ∧ ∀ x, x ∈ S'.2 → S'.1[x]?.getD 0 = (φ x : Int) := by
  have hc := tm_lt ht (h.lt a ha) h1
  have hval : (tm m ys (S.1[a]?.getD 0).toNat p.2 : Int) = (φ (tm n zs a p.1) : Int) := by rw [hv a ha, Int.toNat_natCast, H.mul a p.1 (h.lt a ha) h1, hφ]
  by_cases hm : S.1[tm n zs a p.1]?.getD 0 = -1
  · refine ⟨_, if_pos hm, fun x hx => ?_⟩
    show (S.1.set _ _)[x]?.getD 0 = _
    rw [get_set (by rw [h.len]; exact hc)]
    by_cases he : x = tm n zs a p.1
    · rw [if_pos he, hval, he]
    · rw [if_neg he]
      rcases List.mem_append.1 hx with hx | hx
      · exact hv x hx
      · simp at hx; exact absurd hx he
  · have hin : tm n zs a p.1 ∈ S.2 := by
      by_cases hin : tm n zs a p.1 ∈ S.2
      · exact hin
      · exact absurd (h.no _ hc hin) hm
    refine ⟨S, ?_, hv⟩
    unfold exS
    rw [if_neg hm, if_pos (by rw [hval]; exact hv _ hin)]
theorem exI_hom (ht : IsTab n zs) (hu : IsTab m ys) (H : IsHom n zs m ys φ) {a : Nat} : ∀ (ps : List (Nat × Nat)) {S : List Int × List Nat}, XI n m S → a ∈ S.2 → (∀ p, p ∈ ps → p.1 < n ∧ p.2 < m ∧ φ p.1 = p.2) → (∀ x, x ∈ S.2 → S.1[x]?.getD 0 = (φ x : Int)) → ∃ S', exI n zs m ys a ps S = some S' ∧ ∀ x, x ∈ S'.2 → S'.1[x]?.getD 0 = (φ x : Int)
  | [], S, h, ha, hp, hv => ⟨S, rfl, hv⟩
  | p :: ps, S, h, ha, hp, hv => by
    obtain ⟨h1, h2, h3⟩ := hp p (by simp)
    obtain ⟨T, hT, hvT⟩ := exS_hom h ht H ha h1 h3 hv
    obtain ⟨g1, _, _⟩ := exS_grow h ht ha h1 hT
    have hX := (h.step hu ht ha h1 h2 hT).1
    obtain ⟨S', hS', hv'⟩ := exI_hom ht hu H ps hX (g1.mem ha) (fun q hq => hp q (by simp [hq])) hvT
    exact ⟨S', by simp only [exI, hT, hS'], hv'⟩
theorem exO_hom (ht : IsTab n zs) (hu : IsTab m ys) (H : IsHom n zs m ys φ) (hp : ∀ p, p ∈ ps → p.1 < n ∧ p.2 < m ∧ φ p.1 = p.2) : ∀ (f k : Nat) {S : List Int × List Nat}, XI n m S → (∀ x, x ∈ S.2 → S.1[x]?.getD 0 = (φ x : Int)) → ∃ S', exO n zs m ys ps f k S = some S' ∧ ∀ x, x ∈ S'.2 → S'.1[x]?.getD 0 = (φ x : Int)
  | 0, k, S, h, hv => ⟨S, rfl, hv⟩
  | f + 1, k, S, h, hv => by
    cases hk : S.2[k]? with
    | none => exact ⟨S, by simp only [exO, hk], hv⟩
    | some a =>
      have ha : a ∈ S.2 := List.mem_of_getElem? hk
      obtain ⟨T, hT, hvT⟩ := exI_hom ht hu H ps h ha hp hv
      obtain ⟨r1, _⟩ := exI_grow ht hu ps h ha (fun p hq => ⟨(hp p hq).1, (hp p hq).2.1⟩) hT
      obtain ⟨S', hS', hv'⟩ := exO_hom ht hu H hp f (k + 1) r1 hvT
      exact ⟨S', by simp only [exO, hk, hT, hS'], hv'⟩
theorem ext_of_hom (g : IsGrp n zs e) (h : IsGrp m ys d) (H : IsHom n zs m ys φ) (hp : ∀ p, p ∈ ps → p.1 < n ∧ φ p.1 = p.2) : ∃ S, ext n zs e m ys d ps = some S ∧ ∀ x, x ∈ S.2 → S.1[x]?.getD 0 = (φ x : Int) :=
  exO_hom g.tab h.tab H (fun p hq => ⟨(hp p hq).1, by rw [← (hp p hq).2]; exact H.lt _ (hp p hq).1, (hp p hq).2⟩) n 0 (XI.start g.elt h.elt) (fun x hx => by
    have : x = e := by simpa [ex0] using hx
    subst this
    show ((List.replicate n (-1 : Int)).set x (d : Int))[x]?.getD 0 = _
    rw [get_set (by simpa using g.elt), if_pos rfl, IsHom.one g h H])
end
end Go.Proofs.YtmgengplfebmjaaDoor

namespace Go.Proofs.YtmgengplfebmjaaDoor
open Go Go.RowKit

section
variable {n e m d : Nat} {zs ys : List Int} {ks : List Nat} {fit : List Int → Bool} {FP : (Nat → Nat) → Prop}
theorem li_map_inj {φ ψ : Nat → Nat} (h : li ((List.range n).map φ) = li ((List.range n).map ψ)) {a : Nat} (ha : a < n) : φ a = ψ a := by
  have := congrArg (fun l : List Int => l[a]?.getD 0) h
  simp [li, ha] at this
  omega
theorem zip_mem {ks js : List Nat} (hl : js.length ≤ ks.length) {p : Nat × Nat} (hp : p ∈ (ks.take js.length).zip js) : ∃ i, ∃ h : i < js.length, p = (ks[i]'(by omega), js[i]) := by
  obtain ⟨i, hi, he⟩ := List.mem_iff_getElem.1 hp
  have hi2 : i < js.length := by rw [List.length_zip] at hi; omega
  refine ⟨i, hi2, ?_⟩
  rw [← he]
  simp
theorem zip_fst {ks js : List Nat} (hl : js.length ≤ ks.length) : ((ks.take js.length).zip js).map Prod.fst = ks.take js.length := List.map_fst_zip (by rw [List.length_take]; omega)
/-- Which lists all yields: the homomorphisms that fit, and in which the images stand for the makers. -/
theorem homF_mem (g : IsGrp n zs e) (h : IsGrp m ys d) (hk : ∀ k, k ∈ ks → k < n) (hall : ∀ a, a < n → Mkd n zs e (fun x => decide (x ∈ ks)) a)
    (h1 : ∀ φ S (ps : List (Nat × Nat)), IsHom n zs m ys φ → FP φ → (∀ p, p ∈ ps → p.1 < n ∧ φ p.1 = p.2) → ext n zs e m ys d ps = some S → fit S.1 = true)
    (h2 : ∀ φ, IsHom n zs m ys φ → fit (li ((List.range n).map φ)) = true → FP φ) :
    ∀ (f : Nat) (js : List Nat) (L : List Int), js.length ≤ ks.length → ks.length + 1 ≤ f + js.length → (∀ j, j ∈ js → j < m) →
      (L ∈ homF n zs e m ys d ks fit f js ↔ ∃ φ, IsHom n zs m ys φ ∧ FP φ ∧ L = li ((List.range n).map φ) ∧ ∀ i (hi : i < js.length) (hi2 : i < ks.length), φ ks[i] = js[i])
  | 0, js, L, hl, hf, hj => by omega
  | f + 1, js, L, hl, hf, hj => by
    have hp : ∀ p, p ∈ (ks.take js.length).zip js → p.1 < n ∧ p.2 < m := fun p hp => by
      obtain ⟨i, hi, rfl⟩ := zip_mem hl hp
      exact ⟨hk _ (List.getElem_mem _), hj _ (List.getElem_mem _)⟩
    constructor
    · intro hL
      cases hR : ext n zs e m ys d ((ks.take js.length).zip js) with
      | none => rw [homF_none hR] at hL; cases hL
      | some S =>
        cases hfit : fit S.1 with
        | false => rw [homF_unfit hR hfit] at hL; cases hL
        | true =>
          by_cases hle : js.length = ks.length
          · rw [homF_full hR hfit hle] at hL
            have hL : L = S.1 := by simpa using hL
            obtain ⟨H, hS⟩ := ext_hom g h hp hR (by rw [zip_fst hl, hle, List.take_length]; exact hall)
            refine ⟨vl S, H, h2 _ H (by rw [← hS]; exact hfit), by rw [hL]; exact hS, fun i hi hi2 => ?_⟩
            have hm : (ks[i], js[i]) ∈ (ks.take js.length).zip js := by
              rw [hle, List.take_length]
              exact List.mem_iff_getElem.2 ⟨i, by rw [List.length_zip]; omega, by simp⟩
            exact ext_at g h hp hR hm
          · rw [homF_on hR hfit hle] at hL
            obtain ⟨b, hb, hL⟩ := List.mem_flatMap.1 hL
            obtain ⟨φ, H, hF, hLe, hag⟩ := (homF_mem g h hk hall h1 h2 f (js ++ [b]) L (by simp; omega) (by simp; omega) (fun j hjm => by
              rcases List.mem_append.1 hjm with hjm | hjm
              · exact hj j hjm
              · simp at hjm; rw [hjm]; exact List.mem_range.1 hb)).1 hL
            refine ⟨φ, H, hF, hLe, fun i hi hi2 => ?_⟩
            have := hag i (by simp; omega) hi2
            rwa [List.getElem_append_left hi] at this
    · rintro ⟨φ, H, hF, rfl, hag⟩
      have hpφ : ∀ p, p ∈ (ks.take js.length).zip js → p.1 < n ∧ φ p.1 = p.2 := fun p hp => by
        obtain ⟨i, hi, rfl⟩ := zip_mem hl hp
        exact ⟨hk _ (List.getElem_mem _), hag i hi (by omega)⟩
      obtain ⟨S, hR, hv⟩ := ext_of_hom g h H hpφ
      have hfit := h1 φ S _ H hF hpφ hR
      by_cases hle : js.length = ks.length
      · rw [homF_full hR hfit hle]
        obtain ⟨_, hS⟩ := ext_hom g h hp hR (by rw [zip_fst hl, hle, List.take_length]; exact hall)
        obtain ⟨r1, _⟩ := ext_grow g h hp hR
        have hin : ∀ a, a < n → a ∈ S.2 := fun a ha => (ext_made g h hp hR).2 (by rw [zip_fst hl, hle, List.take_length]; exact hall a ha)
        have : li ((List.range n).map φ) = S.1 := by
          rw [hS]
          unfold li
          rw [List.map_map, List.map_map]
          refine List.map_congr_left fun a ha => ?_
          have ha := List.mem_range.1 ha
          have h9 := hv a (hin a ha)
          show (φ a : Int) = (vl S a : Int)
          unfold vl
          omega
        rw [this]
        simp
      · rw [homF_on hR hfit hle]
        have hkl : js.length < ks.length := by omega
        refine List.mem_flatMap.2 ⟨φ ks[js.length], List.mem_range.2 (H.lt _ (hk _ (List.getElem_mem _))), ?_⟩
        refine (homF_mem g h hk hall h1 h2 f (js ++ [φ ks[js.length]]) _ (by simp; omega) (by simp; omega) (fun j hjm => by
          rcases List.mem_append.1 hjm with hjm | hjm
          · exact hj j hjm
          · simp at hjm; rw [hjm]; exact H.lt _ (hk _ (List.getElem_mem _)))).2 ⟨φ, H, hF, rfl, fun i hi hi2 => ?_⟩
        by_cases hij : i < js.length
        · rw [List.getElem_append_left hij]; exact hag i hij hi2
        · have : i = js.length := by simp at hi; omega
          subst this
          simp
theorem nodup_flat {F : Nat → List (List Int)} : ∀ k, (∀ b, b < k → (F b).Nodup) → (∀ b c L, b < k → c < k → L ∈ F b → L ∈ F c → b = c) → ((List.range k).flatMap F).Nodup
  | 0, _, _ => by simp
  | k + 1, h1, h2 => by
    rw [List.range_succ, List.flatMap_append]
    refine List.nodup_append.2 ⟨nodup_flat k (fun b hb => h1 b (by omega)) (fun b c L hb hc => h2 b c L (by omega) (by omega)), by simpa using h1 k (by omega), fun x hx y hy he => ?_⟩
    subst he
    obtain ⟨b, hb, hx⟩ := List.mem_flatMap.1 hx
    have hy : x ∈ F k := by simpa using hy
    have hb := List.mem_range.1 hb
    have := h2 b k x (by omega) (by omega) hx hy
    omega
/-- Each once. -/
theorem homF_nodup (g : IsGrp n zs e) (h : IsGrp m ys d) (hk : ∀ k, k ∈ ks → k < n) (hall : ∀ a, a < n → Mkd n zs e (fun x => decide (x ∈ ks)) a)
    (h1 : ∀ φ S (ps : List (Nat × Nat)), IsHom n zs m ys φ → FP φ → (∀ p, p ∈ ps → p.1 < n ∧ φ p.1 = p.2) → ext n zs e m ys d ps = some S → fit S.1 = true)
    (h2 : ∀ φ, IsHom n zs m ys φ → fit (li ((List.range n).map φ)) = true → FP φ) :
    ∀ (f : Nat) (js : List Nat), js.length ≤ ks.length → ks.length + 1 ≤ f + js.length → (∀ j, j ∈ js → j < m) → (homF n zs e m ys d ks fit f js).Nodup
  | 0, js, hl, hf, hj => by omega
  | f + 1, js, hl, hf, hj => by
    cases hR : ext n zs e m ys d ((ks.take js.length).zip js) with
    | none => rw [homF_none hR]; simp
    | some S =>
      cases hfit : fit S.1 with
      | false => rw [homF_unfit hR hfit]; simp
      | true =>
        by_cases hle : js.length = ks.length
        · rw [homF_full hR hfit hle]; simp
        · rw [homF_on hR hfit hle]
          have hkl : js.length < ks.length := by omega
          have hjb : ∀ b, b < m → ∀ j, j ∈ js ++ [b] → j < m := fun b hb j hjm => by
            rcases List.mem_append.1 hjm with hjm | hjm
            · exact hj j hjm
            · simp at hjm; rw [hjm]; exact hb
          refine nodup_flat m (fun b hb => homF_nodup g h hk hall h1 h2 f (js ++ [b]) (by simp; omega) (by simp; omega) (hjb b hb)) (fun b c L hb hc hLb hLc => ?_)
          obtain ⟨φ, _, _, e1, a1⟩ := (homF_mem g h hk hall h1 h2 f (js ++ [b]) L (by simp; omega) (by simp; omega) (hjb b hb)).1 hLb
          obtain ⟨ψ, _, _, e2, a2⟩ := (homF_mem g h hk hall h1 h2 f (js ++ [c]) L (by simp; omega) (by simp; omega) (hjb c hc)).1 hLc
          have h9 := a1 js.length (by simp) hkl
          have h8 := a2 js.length (by simp) hkl
          have h7 := li_map_inj (e1.symm.trans e2) (hk _ (List.getElem_mem hkl))
          simp at h9 h8
          omega
end
end Go.Proofs.YtmgengplfebmjaaDoor

namespace Go.Proofs.YtmgengplfebmjaaDoor
open Go Go.RowKit

section
variable {n m d : Nat} {ys : List Int} {ks : List Nat}
/-- The table of adding, modulo n. -/
def rngT (n : Nat) : List Int := mkT n (fun a b => (a + b) % n)
theorem rng_grp (h1 : 1 ≤ n) (h2 : n ≤ 60) : IsGrp n (rngT n) 0 := by
  refine grp_mk h1 h2 (fun a b _ _ => Nat.mod_lt _ (by omega)) (by omega) (fun a ha => ?_) (fun a ha => ?_) (fun a b c ha hb hc => ?_) (fun a ha => ?_)
  · show (0 + a) % n = a
    rw [Nat.zero_add]; exact Nat.mod_eq_of_lt ha
  · show (a + 0) % n = a
    rw [Nat.add_zero]; exact Nat.mod_eq_of_lt ha
  · show ((a + b) % n + c) % n = (a + (b + c) % n) % n
    rw [Nat.mod_add_mod, Nat.add_mod_mod, Nat.add_assoc]
  · refine ⟨(n - a) % n, Nat.mod_lt _ (by omega), ?_⟩
    show (a + (n - a) % n) % n = 0
    rw [Nat.add_mod_mod, show a + (n - a) = n by omega, Nat.mod_self]
theorem rng_tm {a b : Nat} (ha : a < n) (hb : b < n) : tm n (rngT n) a b = (a + b) % n := tm_mk ha hb
theorem hom_pow (h1 : 1 ≤ n) (h2 : n ≤ 60) (h : IsGrp m ys d) {φ : Nat → Nat} (H : IsHom n (rngT n) m ys φ) : ∀ k, k < n → φ k = pw m ys d (φ (1 % n)) k
  | 0, _ => IsHom.one (rng_grp h1 h2) h H
  | k + 1, hk => by
    have hm1 : 1 % n = 1 := Nat.mod_eq_of_lt (by omega)
    have h9 := H.mul k 1 (by omega) (by omega)
    rw [rng_tm (by omega) (by omega), Nat.mod_eq_of_lt hk] at h9
    rw [h9, hom_pow h1 h2 h H k (by omega), hm1]
    rfl
theorem pw_modn (h : IsGrp m ys d) {c : Nat} (hc : c < m) (hd : n % ordN m ys d c = 0) (x : Nat) : pw m ys d c (x % n) = pw m ys d c x := by
  obtain ⟨k, hk⟩ := Nat.dvd_of_mod_eq_zero hd
  have hn : ∀ q, pw m ys d c (n * q) = d := fun q => by rw [hk, Nat.mul_assoc]; exact pw_ord_mul h hc _
  have := pw_add h hc (n * (x / n)) (x % n)
  rw [Nat.div_add_mod, hn, h.left _ (pw_lt h hc _)] at this
  exact this.symm
theorem pow_hom (h : IsGrp m ys d) {c : Nat} (hc : c < m) (hd : n % ordN m ys d c = 0) : IsHom n (rngT n) m ys (pw m ys d c) ∧ pw m ys d c (1 % n) = c := by
  refine ⟨⟨fun a _ => pw_lt h hc a, fun a b ha hb => by rw [rng_tm ha hb, pw_modn h hc hd, pw_add h hc]⟩, ?_⟩
  rw [pw_modn h hc hd]
  show tm m ys d c = c
  exact h.left c hc
theorem hom_div (h1 : 1 ≤ n) (h2 : n ≤ 60) (h : IsGrp m ys d) {φ : Nat → Nat} (H : IsHom n (rngT n) m ys φ) : n % ordN m ys d (φ (1 % n)) = 0 := by
  have hl := H.lt (1 % n) (Nat.mod_lt _ (by omega))
  refine Nat.mod_eq_zero_of_dvd (ord_dvd h hl ?_)
  obtain ⟨k, rfl⟩ : ∃ k, n = k + 1 := ⟨n - 1, by omega⟩
  have h9 := H.mul k (1 % (k + 1)) (by omega) (Nat.mod_lt _ (by omega))
  rw [rng_tm (by omega) (Nat.mod_lt _ (by omega)), Nat.add_mod_mod, Nat.mod_self, IsHom.one (rng_grp h1 h2) h H, hom_pow h1 h2 h H k (by omega)] at h9
  exact h9.symm
/-- All that is yielded for a cyclic group. -/
theorem cyc_many (h1 : 1 ≤ n) (h2 : n ≤ 60) (h : IsGrp m ys d) (hk : ∀ k, k ∈ ks → k < n) (hall : ∀ a, a < n → Mkd n (rngT n) 0 (fun x => decide (x ∈ ks)) a) :
    (homF n (rngT n) 0 m ys d ks (fun _ => true) (ks.length + 1) []).length = (lst m (fun a => decide (n % ordN m ys d a = 0))).length := by
  have hmem := fun L => homF_mem (fit := fun _ => true) (FP := fun _ => True) (rng_grp h1 h2) h hk hall (fun _ _ _ _ _ _ _ => rfl) (fun _ _ _ => trivial) (ks.length + 1) [] L (by simp) (by simp) (by simp)
  have hnd := homF_nodup (fit := fun _ => true) (FP := fun _ => True) (rng_grp h1 h2) h hk hall (fun _ _ _ _ _ _ _ => rfl) (fun _ _ _ => trivial) (ks.length + 1) [] (by simp) (by simp) (by simp)
  generalize homF n (rngT n) 0 m ys d ks (fun _ => true) (ks.length + 1) [] = Ls at *
  have h1n : 1 % n < n := Nat.mod_lt _ (by omega)
  have hval : ∀ φ : Nat → Nat, ((li ((List.range n).map φ))[1 % n]?.getD 0).toNat = φ (1 % n) := fun φ => by simp [li, h1n]
  rw [show Ls.length = (Ls.map fun L => (L[1 % n]?.getD 0).toNat).length by rw [List.length_map]]
  refine Fin.bij_len id ?_ (List.nodup_range.sublist List.filter_sublist) (fun c hc => ?_) (fun _ _ _ _ h => h) (fun c hc => ?_)
  · refine List.pairwise_map.2 (hnd.imp_of_mem ?_)
    intro L L' hL hL' hne heq
    obtain ⟨φ, H, _, rfl, _⟩ := (hmem L).1 hL
    obtain ⟨ψ, H', _, rfl, _⟩ := (hmem L').1 hL'
    rw [hval, hval] at heq
    refine hne ?_
    unfold li
    rw [List.map_map, List.map_map]
    refine List.map_congr_left fun a ha => ?_
    have ha := List.mem_range.1 ha
    show (φ a : Int) = (ψ a : Int)
    rw [hom_pow h1 h2 h H a ha, hom_pow h1 h2 h H' a ha, heq]
  · obtain ⟨L, hL, rfl⟩ := List.mem_map.1 hc
    obtain ⟨φ, H, _, rfl, _⟩ := (hmem L).1 hL
    rw [hval]
    exact mem_lst.2 ⟨H.lt _ h1n, decide_eq_true (hom_div h1 h2 h H)⟩
  · obtain ⟨hcm, hcd⟩ := mem_lst.1 hc
    obtain ⟨H, he⟩ := pow_hom h hcm (of_decide_eq_true hcd)
    refine ⟨c, List.mem_map.2 ⟨_, (hmem _).2 ⟨_, H, trivial, rfl, fun i hi => by simp at hi⟩, ?_⟩, rfl⟩
    rw [hval, he]
end
end Go.Proofs.YtmgengplfebmjaaDoor

namespace Go.Proofs.YtmgengplfebmjaaDoor
open Go Go.RowKit

theorem rng_get {n a b : Nat} (ha : a < n) (hb : b < n) : (rngT n)[a * n + b]?.getD 0 = (((a + b) % n : Nat) : Int) := by
  obtain ⟨e1, e2⟩ := dm' (a := a) hb
  unfold rngT
  rw [mkT_get (place_lt ha hb), e1, e2]
set_option maxRecDepth 100000 in
set_option maxHeartbeats 8000000 in
theorem ring_ok (n : Nat) (w : World) (hn1 : 1 ≤ n) (hn : n ≤ 60) :
    Calls Tryd.prog 45 #[.int .i64 n] w fun x w' => ∃ r, x = .returned (.agg #[.int .i64 n, r]) ∧ Row w' w.heap.size r (rngT n) ∧ Below w.heap.size w w' := by
  obtain ⟨i0, hi, hz0, hz1, hz2⟩ := info_parts info3b
  obtain ⟨T, hT⟩ : ∃ T, T = rngT n := ⟨_, rfl⟩
  have HTL := hide (show T.length = n * n by rw [hT]; exact mkT_len _ _)
  have HTG := hide (fun a b (ha : a < n) (hb : b < n) => show T[a * n + b]?.getD 0 = (((a + b) % n : Nat) : Int) by rw [hT]; exact rng_get ha hb)
  rw [← hT]
  clear hT
  have hnn : n * n ≤ 3600 := Nat.mul_le_mul hn hn
  have HNN := hide hnn
  clear hnn
  have hB0 : Below w.heap.size w ((w.alloc (.cells #[.int .i64 0, .slice none 0 0] 24)).alloc (.cells #[.int .i64 n, .slice none 0 0] 24)) := (balloc w _).alloc (by simp) _
  have hR0 : Blk ((w.alloc (.cells #[.int .i64 0, .slice none 0 0] 24)).alloc (.cells #[.int .i64 n, .slice none 0 0] 24)) w.heap.size 24 [.int .i64 0, .slice none 0 0] := (blk0 _ _).alloc _
  have hX0 : Blk ((w.alloc (.cells #[.int .i64 0, .slice none 0 0] 24)).alloc (.cells #[.int .i64 n, .slice none 0 0] 24)) (w.heap.size + 1) 24 [.int .i64 n, .slice none 0 0] := by
    have := blk0 (w := w.alloc (.cells #[.int .i64 0, .slice none 0 0] 24)) (T := 24) (.int .i64 n) (.slice none 0 0)
    rwa [World.size_alloc] at this
  go_enter Tryd.func45, Tryd.ntmps45
  go_wp2
  go_loopw [4] (fun i wr => ∃ (a : Nat) (r : Value), a ≤ n ∧ i = .int .i64 a ∧ Row wr (w.heap.size + 1 + 1) r (T.take (a * n)) ∧ Blk wr w.heap.size 24 [.int .i64 0, .slice none 0 0] ∧ Blk wr (w.heap.size + 1) 24 [.int .i64 n, r] ∧ Below w.heap.size w wr) (fun i _ => n - (intOf i).toNat)
  case atStart => exact ⟨0, .slice none 0 0, by omega, rfl, by simpa using nil_row _ _, hR0, hX0, hB0⟩
  case round =>
    obtain ⟨a, r, ha, rfl, hrow, hR, hX, hB⟩ := hrel
    clear hR0 hX0 hB0
    by_cases hlta : a < n
    · have hai : (a : Int) < (n : Int) := by omega
      go_wp2
      go_loopw [5] (fun i wr => ∃ (b : Nat) (r : Value), b ≤ n ∧ i = .int .i64 b ∧ Row wr (w.heap.size + 1 + 1) r (T.take (a * n + b)) ∧ Blk wr w.heap.size 24 [.int .i64 0, .slice none 0 0] ∧ Blk wr (w.heap.size + 1) 24 [.int .i64 n, r] ∧ Below w.heap.size w wr) (fun i _ => n - (intOf i).toNat)
      case atStart => exact ⟨0, r, by omega, rfl, hrow, hR, hX, hB⟩
      case round =>
        obtain ⟨b, r', hb, rfl, hrow', hR', hX', hB'⟩ := hrel
        clear hrow hR hX hB
        by_cases hltb : b < n
        · have hbi : (b : Int) < (n : Int) := by omega
          have HV := hide (HTG.out a b hlta hltb)
          have hpl : a * n + b < n * n := place_lt hlta hltb
          have hlen : (T.take (a * n + b)).length = a * n + b := by rw [List.length_take, HTL.out]; omega
          have hsn : T.take (a * n + (b + 1)) = T.take (a * n + b) ++ [(((a + b) % n : Nat) : Int)] := by
            rw [← Nat.add_assoc, take_snoc' (by rw [HTL.out]; exact hpl), HV.out]
          have HSN := hide hsn
          have HLL := hide (show (T.take (a * n + b)).length ≤ 3600 by have := HNN.out; omega)
          have hown : wr.ownsRow (w.heap.size + 1 + 1) 3 1 r' (T.take (a * n + b)).length ((T.take (a * n + b)).map (Value.int .i64)) := hrow'
          clear hsn hlen hrow' HV hpl
          generalize T.take (a * n + b) = xs at *
          obtain ⟨q9, hq9⟩ : ∃ q9 : Nat, (a + b) % n = q9 := ⟨_, rfl⟩
          rw [hq9] at HSN
          have hwp : IntKind.i64.wrap ((a : Int) + (b : Int)) = (a : Int) + (b : Int) := by rw [IntKind.wrap_i64]; omega
          have hrm : ((a : Int) + (b : Int)).tmod (n : Int) = (q9 : Int) := by rw [← hq9]; exact tmod_nat n (by omega)
          have hqn : q9 < n := by rw [← hq9]; exact Nat.mod_lt _ (by omega)
          have hwq : IntKind.i64.wrap (q9 : Int) = (q9 : Int) := by rw [IntKind.wrap_i64]; omega
          have hn0 : ¬ n = 0 := by omega
          have hn0i : ¬ (n : Int) = 0 := by omega
          clear hq9
          obtain ⟨rx, rcap, rfl⟩ := own_slice hown
          obtain ⟨x0, x1, fx0, fx1⟩ := hX'.two
          have hs2 := hX'.lt
          go_wp2_with fail
          have hS0 : (fun W => Below w.heap.size w W) wr.drew := bdrew hB'
          refine wp_region_held_drew (S := (fun W => Below w.heap.size w W)) (by kernel_rfl) hS0 (fun hHeld => ?_)
          refine wpAnyH_take (i := 0) (oi := ({ dst := some 18, op := Go.Op.fieldAddr 24 (Go.Operand.tmp 3) 1, type := 0, pos := _, after := #[], guard := none } : Oper)) (v := ?_) rfl (by kernel_rfl) (by kernel_rfl) (by kernel_rfl) (fun _ _ _ h => h) (Or.inl ⟨by rfl, ?_⟩) (by assumption) ?_
          rotate_left
          · (intro w hSw; (try dsimp only at hSw); go_simp; try with_reducible rfl)
          simp only [Act.put, List.setIfInBounds_toArray, List.set_cons_zero, List.set_cons_succ]
          refine wpAnyH_take (i := 2) (oi := ({ dst := some 20, op := Go.Op.move (Go.Operand.tmp 4), type := 3, pos := _, after := #[], guard := none } : Oper)) (v := ?_) rfl (by kernel_rfl) (by kernel_rfl) (by kernel_rfl) (fun _ _ _ h => h) (Or.inl ⟨by rfl, ?_⟩) (by assumption) ?_
          rotate_left
          · (intro w hSw; (try dsimp only at hSw); go_simp; try with_reducible rfl)
          simp only [Act.put, List.setIfInBounds_toArray, List.set_cons_zero, List.set_cons_succ]
          refine wpAnyH_take (i := 3) (oi := ({ dst := some 21, op := Go.Op.move (Go.Operand.tmp 5), type := 3, pos := _, after := #[], guard := none } : Oper)) (v := ?_) rfl (by kernel_rfl) (by kernel_rfl) (by kernel_rfl) (fun _ _ _ h => h) (Or.inl ⟨by rfl, ?_⟩) (by assumption) ?_
          rotate_left
          · (intro w hSw; (try dsimp only at hSw); go_simp; try with_reducible rfl)
          simp only [Act.put, List.setIfInBounds_toArray, List.set_cons_zero, List.set_cons_succ]
          refine wpAnyH_take (i := 4) (oi := ({ dst := some 22, op := Go.Op.binOp Go.BinOp.add 3 (Go.Operand.tmp 20) (Go.Operand.tmp 21) 3, type := 3, pos := _, after := #[{ on := 2, ground := Go.Ground.data }, { on := 3, ground := Go.Ground.data }], guard := none } : Oper)) (v := ?_) rfl (by kernel_rfl) (by kernel_rfl) (by kernel_rfl) (fun _ _ _ h => h) (Or.inl ⟨by rfl, ?_⟩) (by assumption) ?_
          rotate_left
          · (intro w hSw; (try dsimp only at hSw); go_simp; try with_reducible rfl)
          simp only [Act.put, List.setIfInBounds_toArray, List.set_cons_zero, List.set_cons_succ]
          refine wpAnyH_take (i := 5) (oi := ({ dst := some 23, op := Go.Op.move (Go.Operand.tmp 0), type := 3, pos := _, after := #[], guard := none } : Oper)) (v := ?_) rfl (by kernel_rfl) (by kernel_rfl) (by kernel_rfl) (fun _ _ _ h => h) (Or.inl ⟨by rfl, ?_⟩) (by assumption) ?_
          rotate_left
          · (intro w hSw; (try dsimp only at hSw); go_simp; try with_reducible rfl)
          simp only [Act.put, List.setIfInBounds_toArray, List.set_cons_zero, List.set_cons_succ]
          refine wpAnyH_take (i := 6) (oi := ({ dst := some 24, op := Go.Op.binOp Go.BinOp.rem 3 (Go.Operand.tmp 22) (Go.Operand.tmp 23) 3, type := 3, pos := _, after := #[{ on := 4, ground := Go.Ground.data }, { on := 5, ground := Go.Ground.data }], guard := none } : Oper)) (v := ?_) rfl (by kernel_rfl) (by kernel_rfl) (by kernel_rfl) (fun _ _ _ h => h) (Or.inl ⟨by rfl, ?_⟩) (by assumption) ?_
          rotate_left
          · (intro w hSw; (try dsimp only at hSw); go_simp; try with_reducible rfl)
          simp only [Act.put, List.setIfInBounds_toArray, List.set_cons_zero, List.set_cons_succ]
          refine wpAnyH_ready (rs := [1, 7]) (by kernel_rfl) (by simp) (AllReadyH.cons (o := ({ dst := some 19, op := Go.Op.load 22 (Go.Operand.tmp 18), type := 22, pos := _, after := #[{ on := 0, ground := Go.Ground.data }], guard := none } : Oper)) rfl (fun K hK => ?_) (AllReadyH.cons (o := ({ dst := some 25, op := Go.Op.buildSlice 22 1 #[(0, Go.Operand.tmp 24)], type := 22, pos := _, after := #[{ on := 6, ground := Go.Ground.data }], guard := none } : Oper)) rfl (fun K hK => ?_) AllReadyH.nil))
          · go_simp
            refine hK.out _ _ hHeld (fun hHeld => ?_)
            clear hK
            try simp only [Act.put, List.setIfInBounds_toArray, List.set_cons_zero, List.set_cons_succ]
            refine wpAnyH_ready (rs := [7]) (by kernel_rfl) (by simp) (AllReadyH.cons (o := ({ dst := some 25, op := Go.Op.buildSlice 22 1 #[(0, Go.Operand.tmp 24)], type := 22, pos := _, after := #[{ on := 6, ground := Go.Ground.data }], guard := none } : Oper)) rfl (fun K hK => ?_) AllReadyH.nil)
            go_simp
            refine hK.out _ _ (show Below w.heap.size w (wr.drew.alloc (.cells #[.int .i64 (q9 : Int)] 3)) from (bdrew hB').alloc (bdrew hB').size _) (fun hHeld => ?_)
            clear hK
            try simp only [Act.put, List.setIfInBounds_toArray, List.set_cons_zero, List.set_cons_succ]
            refine wpAnyH_ready (rs := [8]) (by kernel_rfl) (by simp) (AllReadyH.cons (o := ({ dst := some 26, op := Go.Op.call { callee := Go.Callee.builtin Go.Builtin.append, args := #[Go.Operand.tmp 19, Go.Operand.tmp 25], argTypes := #[22, 22] }, type := 22, pos := _, after := #[{ on := 1, ground := Go.Ground.data }, { on := 7, ground := Go.Ground.data }], guard := none } : Oper)) rfl (fun K hK => ?_) AllReadyH.nil)
            refine step_append_lies _ rfl _ _ 22 rfl (w.heap.size + 1 + 1) 3 i0 (.int .i64 0) 1 8 under22b hi hz0 hz1 hz2 rfl (by decide) _ _ _ rfl (World.ownsRow.alloc hown _) ⟨wr.heap.size, 0, none⟩ 1 1 [.int .i64 q9] rfl rfl (cell_one_new _ _ _) (by simp [Value.oneCell']) (by decide) (by unfold maxLen; have := HLL.out; omega) (by have := HLL.out; omega) (by simp; omega) _ rfl ?_
            intro g9 cap9 w9 hown9 hgrow hloc _
            have hk9 : ∀ k, k < w.heap.size + 1 + 1 → w9.heap[k]? = wr.heap[k]? := fun k hk => (hgrow.block k (by simp; omega) (fun e9 => by have := owns_ge hown k e9.symm; omega)).trans (Below.heap_alloc _ _ k (show k < wr.heap.size by omega))
            have hX9 : Blk w9 (w.heap.size + 1) 24 [.int .i64 n, .slice rx xs.length rcap] := hX'.of_eq (hk9 _ (by omega))
            have hR9 : Blk w9 w.heap.size 24 [.int .i64 0, .slice none 0 0] := hR'.of_eq (hk9 _ (by omega))
            have hcw := hX9.two.2.1
            have hfw := hX9.two.2.2.2
            have hB9 : Below w.heap.size w w9 := ((bdrew hB').alloc (bdrew hB').size _).grown hgrow (by have := hB'.size; simp; omega) (fun t e9 => by have := owns_ge hown t e9; omega)
            have hB3 := hB9.setCell (p := ⟨w.heap.size + 1, 1, none⟩) (by simp) (.slice (some ⟨g9, 0, none⟩) (xs.length + 1) cap9)
            refine hK.out _ _ hB9 (fun hHeld => ?_)
            clear hK
            try simp only [Act.put, List.setIfInBounds_toArray, List.set_cons_zero, List.set_cons_succ]
            refine wpAnyH_take (i := 9) (oi := ({ dst := some 27, op := Go.Op.fieldAddr 24 (Go.Operand.tmp 3) 1, type := 0, pos := _, after := #[{ on := 0, ground := Go.Ground.phase }, { on := 1, ground := Go.Ground.phase }, { on := 2, ground := Go.Ground.phase }, { on := 3, ground := Go.Ground.phase }, { on := 4, ground := Go.Ground.phase }, { on := 5, ground := Go.Ground.phase }, { on := 6, ground := Go.Ground.phase }, { on := 7, ground := Go.Ground.phase }, { on := 8, ground := Go.Ground.phase }], guard := none } : Oper)) (v := ?_) rfl (by kernel_rfl) (by kernel_rfl) (by kernel_rfl) (fun _ _ _ h => h) (Or.inl ⟨by rfl, ?_⟩) (by assumption) ?_
            rotate_left
            · (intro w hSw; (try dsimp only at hSw); go_simp; try with_reducible rfl)
            simp only [Act.put, List.setIfInBounds_toArray, List.set_cons_zero, List.set_cons_succ]
            refine wpAnyH_ready (rs := [10]) (by kernel_rfl) (by simp) (AllReadyH.cons (o := ({ dst := none, op := Go.Op.store 22 (Go.Operand.tmp 27) (Go.Operand.tmp 26), type := 0, pos := _, after := #[{ on := 9, ground := Go.Ground.data }, { on := 8, ground := Go.Ground.data }, { on := 8, ground := Go.Ground.chain }, { on := 0, ground := Go.Ground.phase }, { on := 1, ground := Go.Ground.phase }, { on := 2, ground := Go.Ground.phase }, { on := 3, ground := Go.Ground.phase }, { on := 4, ground := Go.Ground.phase }, { on := 5, ground := Go.Ground.phase }, { on := 6, ground := Go.Ground.phase }, { on := 7, ground := Go.Ground.phase }, { on := 8, ground := Go.Ground.phase }], guard := none } : Oper)) rfl (fun K hK => ?_) AllReadyH.nil)
            go_simp
            refine hK.out _ _ hB3 (fun hHeld => ?_)
            clear hK
            try simp only [Act.put, List.setIfInBounds_toArray, List.set_cons_zero, List.set_cons_succ]
            refine wpAnyH_done (by kernel_rfl) ?_ _
            have hX3 := hX9.set 1 (.slice (some ⟨g9, 0, none⟩) (xs.length + 1) cap9)
            have hR3 := hR9.other (p := ⟨w.heap.size + 1, 1, none⟩) (by simp) (.slice (some ⟨g9, 0, none⟩) (xs.length + 1) cap9)
            have hrow9 : Row w9 (w.heap.size + 1 + 1) (.slice (some ⟨g9, 0, none⟩) (xs.length + 1) cap9) (T.take (a * n + (b + 1))) := by
              unfold Row
              rw [HSN.out]
              simpa using hown9
            have hrow3 := row_keep (W' := w9.setCell ⟨w.heap.size + 1, 1, none⟩ (.slice (some ⟨g9, 0, none⟩) (xs.length + 1) cap9)) hrow9 (fun g h1 _ => Below.heap_setCell _ _ _ g (by simp; omega))
            clear hown9 hgrow hown hrow9 hk9 hloc
            go_wp2
            go_roundw
            case rel => exact ⟨b + 1, _, by omega, by go_num, hrow3, hR3, hX3, hB3⟩
            case measure => simp [intOf]; omega
          · go_simp
            refine hK.out _ _ (show Below w.heap.size w (wr.drew.alloc (.cells #[.int .i64 (q9 : Int)] 3)) from (bdrew hB').alloc (bdrew hB').size _) (fun hHeld => ?_)
            clear hK
            try simp only [Act.put, List.setIfInBounds_toArray, List.set_cons_zero, List.set_cons_succ]
            refine wpAnyH_ready (rs := [1]) (by kernel_rfl) (by simp) (AllReadyH.cons (o := ({ dst := some 19, op := Go.Op.load 22 (Go.Operand.tmp 18), type := 22, pos := _, after := #[{ on := 0, ground := Go.Ground.data }], guard := none } : Oper)) rfl (fun K hK => ?_) AllReadyH.nil)
            have x1a := (Blk.alloc (show Blk wr.drew (w.heap.size + 1) 24 [.int .i64 n, .slice rx xs.length rcap] from hX') (.cells #[.int .i64 q9] 3)).two.2.1
            go_simp
            refine hK.out _ _ hHeld (fun hHeld => ?_)
            clear hK
            try simp only [Act.put, List.setIfInBounds_toArray, List.set_cons_zero, List.set_cons_succ]
            refine wpAnyH_ready (rs := [8]) (by kernel_rfl) (by simp) (AllReadyH.cons (o := ({ dst := some 26, op := Go.Op.call { callee := Go.Callee.builtin Go.Builtin.append, args := #[Go.Operand.tmp 19, Go.Operand.tmp 25], argTypes := #[22, 22] }, type := 22, pos := _, after := #[{ on := 1, ground := Go.Ground.data }, { on := 7, ground := Go.Ground.data }], guard := none } : Oper)) rfl (fun K hK => ?_) AllReadyH.nil)
            refine step_append_lies _ rfl _ _ 22 rfl (w.heap.size + 1 + 1) 3 i0 (.int .i64 0) 1 8 under22b hi hz0 hz1 hz2 rfl (by decide) _ _ _ rfl (World.ownsRow.alloc hown _) ⟨wr.heap.size, 0, none⟩ 1 1 [.int .i64 q9] rfl rfl (cell_one_new _ _ _) (by simp [Value.oneCell']) (by decide) (by unfold maxLen; have := HLL.out; omega) (by have := HLL.out; omega) (by simp; omega) _ rfl ?_
            intro g9 cap9 w9 hown9 hgrow hloc _
            have hk9 : ∀ k, k < w.heap.size + 1 + 1 → w9.heap[k]? = wr.heap[k]? := fun k hk => (hgrow.block k (by simp; omega) (fun e9 => by have := owns_ge hown k e9.symm; omega)).trans (Below.heap_alloc _ _ k (show k < wr.heap.size by omega))
            have hX9 : Blk w9 (w.heap.size + 1) 24 [.int .i64 n, .slice rx xs.length rcap] := hX'.of_eq (hk9 _ (by omega))
            have hR9 : Blk w9 w.heap.size 24 [.int .i64 0, .slice none 0 0] := hR'.of_eq (hk9 _ (by omega))
            have hcw := hX9.two.2.1
            have hfw := hX9.two.2.2.2
            have hB9 : Below w.heap.size w w9 := ((bdrew hB').alloc (bdrew hB').size _).grown hgrow (by have := hB'.size; simp; omega) (fun t e9 => by have := owns_ge hown t e9; omega)
            have hB3 := hB9.setCell (p := ⟨w.heap.size + 1, 1, none⟩) (by simp) (.slice (some ⟨g9, 0, none⟩) (xs.length + 1) cap9)
            refine hK.out _ _ hB9 (fun hHeld => ?_)
            clear hK
            try simp only [Act.put, List.setIfInBounds_toArray, List.set_cons_zero, List.set_cons_succ]
            refine wpAnyH_take (i := 9) (oi := ({ dst := some 27, op := Go.Op.fieldAddr 24 (Go.Operand.tmp 3) 1, type := 0, pos := _, after := #[{ on := 0, ground := Go.Ground.phase }, { on := 1, ground := Go.Ground.phase }, { on := 2, ground := Go.Ground.phase }, { on := 3, ground := Go.Ground.phase }, { on := 4, ground := Go.Ground.phase }, { on := 5, ground := Go.Ground.phase }, { on := 6, ground := Go.Ground.phase }, { on := 7, ground := Go.Ground.phase }, { on := 8, ground := Go.Ground.phase }], guard := none } : Oper)) (v := ?_) rfl (by kernel_rfl) (by kernel_rfl) (by kernel_rfl) (fun _ _ _ h => h) (Or.inl ⟨by rfl, ?_⟩) (by assumption) ?_
            rotate_left
            · (intro w hSw; (try dsimp only at hSw); go_simp; try with_reducible rfl)
            simp only [Act.put, List.setIfInBounds_toArray, List.set_cons_zero, List.set_cons_succ]
            refine wpAnyH_ready (rs := [10]) (by kernel_rfl) (by simp) (AllReadyH.cons (o := ({ dst := none, op := Go.Op.store 22 (Go.Operand.tmp 27) (Go.Operand.tmp 26), type := 0, pos := _, after := #[{ on := 9, ground := Go.Ground.data }, { on := 8, ground := Go.Ground.data }, { on := 8, ground := Go.Ground.chain }, { on := 0, ground := Go.Ground.phase }, { on := 1, ground := Go.Ground.phase }, { on := 2, ground := Go.Ground.phase }, { on := 3, ground := Go.Ground.phase }, { on := 4, ground := Go.Ground.phase }, { on := 5, ground := Go.Ground.phase }, { on := 6, ground := Go.Ground.phase }, { on := 7, ground := Go.Ground.phase }, { on := 8, ground := Go.Ground.phase }], guard := none } : Oper)) rfl (fun K hK => ?_) AllReadyH.nil)
            go_simp
            refine hK.out _ _ hB3 (fun hHeld => ?_)
            clear hK
            try simp only [Act.put, List.setIfInBounds_toArray, List.set_cons_zero, List.set_cons_succ]
            refine wpAnyH_done (by kernel_rfl) ?_ _
            have hX3 := hX9.set 1 (.slice (some ⟨g9, 0, none⟩) (xs.length + 1) cap9)
            have hR3 := hR9.other (p := ⟨w.heap.size + 1, 1, none⟩) (by simp) (.slice (some ⟨g9, 0, none⟩) (xs.length + 1) cap9)
            have hrow9 : Row w9 (w.heap.size + 1 + 1) (.slice (some ⟨g9, 0, none⟩) (xs.length + 1) cap9) (T.take (a * n + (b + 1))) := by
              unfold Row
              rw [HSN.out]
              simpa using hown9
            have hrow3 := row_keep (W' := w9.setCell ⟨w.heap.size + 1, 1, none⟩ (.slice (some ⟨g9, 0, none⟩) (xs.length + 1) cap9)) hrow9 (fun g h1 _ => Below.heap_setCell _ _ _ g (by simp; omega))
            clear hown9 hgrow hown hrow9 hk9 hloc
            go_wp2
            go_roundw
            case rel => exact ⟨b + 1, _, by omega, by go_num, hrow3, hR3, hX3, hB3⟩
            case measure => simp [intOf]; omega
        · have hbi : ¬ (b : Int) < (n : Int) := by omega
          have hbn : b = n := by omega
          have hrow8 : Row wr (w.heap.size + 1 + 1) r' (T.take ((a + 1) * n)) := by rw [Nat.add_mul, Nat.one_mul]; rw [hbn] at hrow'; exact hrow'
          clear hbn hrow'
          go_wp2
          go_roundw
          case rel => exact ⟨a + 1, r', by omega, by go_num, hrow8, hR', hX', hB'⟩
          case measure => simp [intOf]; omega
    · have hai : ¬ (a : Int) < (n : Int) := by omega
      have han : a = n := by omega
      have hTT : T.take (a * n) = T := List.take_of_length_le (by rw [HTL.out, han]; exact Nat.le_refl _)
      rw [hTT] at hrow
      clear hTT han
      have hown : wr.ownsRow (w.heap.size + 1 + 1) 3 1 r T.length (T.map (Value.int .i64)) := hrow
      obtain ⟨rx, rcap, rfl⟩ := own_slice hown
      obtain ⟨x0, x1, fx0, fx1⟩ := hX.two
      obtain ⟨r0, r1, fr0, fr1⟩ := hR.two
      have hR8 : Blk ((wr.setCell ⟨w.heap.size, 0, none⟩ (.int .i64 n)).setCell ⟨w.heap.size, 1, none⟩ (.slice rx T.length rcap)) w.heap.size 24 [.int .i64 n, .slice rx T.length rcap] := (hR.set 0 _).set 1 _
      have hB8 := (hB.setCell (p := ⟨w.heap.size, 0, none⟩) (by simp) (.int .i64 n)).setCell (p := ⟨w.heap.size, 1, none⟩) (by simp) (.slice rx T.length rcap)
      have hrow8 := owns_mono (row_keep (W' := (wr.setCell ⟨w.heap.size, 0, none⟩ (.int .i64 n)).setCell ⟨w.heap.size, 1, none⟩ (.slice rx T.length rcap)) hrow (fun g h1 _ => by rw [Below.heap_setCell _ _ _ g (by simp; omega), Below.heap_setCell _ _ _ g (by simp; omega)])) (show w.heap.size ≤ w.heap.size + 1 + 1 by omega)
      clear hown hrow
      go_wp2
      generalize (wr.setCell ⟨w.heap.size, 0, none⟩ (.int .i64 n)).setCell ⟨w.heap.size, 1, none⟩ (.slice rx T.length rcap) = W at hR8 hB8 hrow8 ⊢
      obtain ⟨z0, z1, _, _⟩ := hR8.two
      exact bodyPost_ret (v := .agg #[.int .i64 n, .slice rx T.length rcap]) (by simp [results, Tryd.results45, go_sem, z0, z1]) rfl ⟨_, rfl, hrow8, hB8⟩
end Go.Proofs.YtmgengplfebmjaaDoor

namespace Go.Proofs.YtmgengplfebmjaaDoor
open Go Go.RowKit

theorem call73 (a : Value) (W : World) : Sem.run Tryd.prog (callFunc 73 (#[a] ++ #[])) W = .ok (.enter 73 (#[a] ++ #[])) W := by kernel_rfl
theorem fit_true (mv : Value) (w : World) : Calls Tryd.prog 73 (#[mv] ++ #[]) w fun x w' => x = .returned (.bool true) ∧ Below w.heap.size w w' := by
  show Calls Tryd.prog 73 #[mv] w _
  go_enter Tryd.func73, Tryd.ntmps73
  go_wp2
  go_ret
  exact ⟨rfl, Below.refl _ _⟩
set_option maxRecDepth 100000 in
set_option maxHeartbeats 8000000 in
theorem hall_good (n e m d : Nat) (v y : Value) (zs ys : List Int) (w : World) (hv : Sl w v zs) (hg : IsGrp n zs e) (hy : Sl w y ys) (hh : IsGrp m ys d) (hT : Tab w) (h24 : n ≤ 24) (h24' : m ≤ 24) (hmany : ∀ ks, LM n zs e ks → (∀ a, a < n → Mkd n zs e (fun x => decide (x ∈ ks)) a) → (homF n zs e m ys d ks (fun _ => true) (ks.length + 1) []).length ≤ 1000) :
    Calls Tryd.prog 28 #[.agg #[.int .i64 n, v], .agg #[.int .i64 m, y]] w fun x w' => ∃ (ks : List Nat) (r : Value) (vs : List Value), x = .returned (.tuple #[r, .agg #[.int .i64 0, .int .i64 0]]) ∧ LM n zs e ks ∧ (∀ a, a < n → Mkd n zs e (fun x => decide (x ∈ ks)) a) ∧ w'.ownsRow w.heap.size 22 1 r vs.length vs ∧ Lsts w' w.heap.size r vs (homF n zs e m ys d ks (fun _ => true) (ks.length + 1) []) ∧ Below w.heap.size w w' := by
  obtain ⟨va, vl, vc, rfl⟩ := hv.isSlice
  obtain ⟨ya, yl, yc, rfl⟩ := hy.isSlice
  have hn := hg.tab.le
  obtain ⟨w0, BG⟩ := BegF.new w n m (.slice va vl vc) (.slice ya yl yc)
  have HCK := hide (pair_good n e m d (.slice va vl vc) (.slice ya yl yc) zs ys w0 (hv.below BG.bel) hg (hy.below BG.bel) hh)
  obtain ⟨c0, c1, _, _⟩ := BG.box.two
  obtain ⟨d0, d1, _, _⟩ := BG.boy.two
  rw [BG.eq] at c0 c1 d0 d1
  go_enter Tryd.func28, Tryd.ntmps28
  go_wp2_with fail
  rw [← BG.eq]
  clear c0 c1 d0 d1
  refine HCK.out.mono ?_
  rintro x w1 ⟨iv9, jv9, rfl, hSI, hSJ, hb1⟩
  obtain ⟨ia, il, ic, rfl⟩ := hSI.sl.isSlice
  obtain ⟨ja, jl, jc, rfl⟩ := hSJ.sl.isSlice
  obtain ⟨w2, hw2⟩ : ∃ w2, w2 = (w1.alloc (.cells #[.int .i64 n, .slice va vl vc, .int .i64 e, .slice ia il ic, .int .i64 m, .slice ya yl yc, .int .i64 d, .slice ja jl jc] 83)).alloc (.cells #[.int .i64 0, .int .i64 0] 27) := ⟨_, rfl⟩
  have hb2 : Below w1.heap.size w1 w2 := by rw [hw2]; exact (balloc w1 _).alloc (by simp) _
  have hB1 : Below w0.heap.size w0 w2 := bcat2 hb1 hb2
  have hF1 : Blk w2 (w1.heap.size + 1) 27 [.int .i64 0, .int .i64 0] := by
    rw [hw2]
    have := blk0 (w := w1.alloc (.cells #[.int .i64 n, .slice va vl vc, .int .i64 e, .slice ia il ic, .int .i64 m, .slice ya yl yc, .int .i64 d, .slice ja jl jc] 83)) (T := 27) (.int .i64 0) (.int .i64 0)
    rwa [World.size_alloc] at this
  have hH2 : Blk w2 w1.heap.size 83 [.int .i64 n, .slice va vl vc, .int .i64 e, .slice ia il ic, .int .i64 m, .slice ya yl yc, .int .i64 d, .slice ja jl jc] := by
    rw [hw2]; exact Blk.alloc (World.alloc_heap_new _ _) _
  have hBw2 := bcat BG.bel hB1 BG.bel.size
  have hR2 := blk_below BG.res hB1
  have hX2 := blk_below BG.box hB1
  have hY2 := blk_below BG.boy hB1
  have hGA : GA w2 n (.slice va vl vc) e (.slice ia il ic) zs := ⟨hg, hv.below hBw2, hSI.sl.below hb2⟩
  have HLM := hide (fun W (h : Below w2.heap.size w2 W) => lm_ok' n e (.slice va vl vc) (.slice ia il ic) zs W (hGA.below h) ((hT.below hBw2).below h))
  have HSG := hide (fun W k1 k2 k3 => allf_ok n e m d (.slice va vl vc) (.slice ia il ic) (.slice ya yl yc) (.slice ja jl jc) k1 k2 k3 73 #[] W)
  have HLI := hide (fun (W : World) (ks : List Nat) (k1 : Option Addr) (k3 kb pb fb A : Nat) (h : Below w2.heap.size w2 W) (hk : Sl W (.slice k1 ks.length k3) (li ks)) (hLM : LM n zs e ks) (hgen : ∀ a, a < n → Mkd n zs e (fun x => decide (x ∈ ks)) a)
      (hA : Alls A W [.int .i64 n, .slice va vl vc, .int .i64 e, .slice ia il ic, .int .i64 m, .slice ya yl yc, .int .i64 d, .slice ja jl jc] (.slice k1 ks.length k3) (.func (.func 73) #[] #[]) kb pb fb) =>
    show Calls Tryd.prog 70 #[.func (.func 101) #[] #[.pointer (some ⟨kb, 0, none⟩), .pointer (some ⟨pb, 0, none⟩), .pointer (some ⟨fb, 0, none⟩)]] W (fun x w' => ∃ (r : Value) (vs : List Value), x = .returned (.tuple #[r, .agg #[.int .i64 0, .int .i64 0]]) ∧ w'.ownsRow W.heap.size 22 1 r vs.length vs ∧ Lsts w' W.heap.size r vs (homF n zs e m ys d ks (fun _ => true) (ks.length + 1) []) ∧ Below W.heap.size W w') from
      (listed_ok (f0 := 73) (fit := fun _ => true) hg hh (hGA.below h).mul ((hy.below hBw2).below h) hk hLM.lt hLM.fits hA (fun a W => call73 a W) (fun W9 g ms hW9 hb9 hl9 => fit_true _ W9)).mono (fun x w' hp => by
        obtain ⟨r, vs, h1, h2, h3⟩ := hp.ok (hmany ks hLM hgen)
        exact ⟨r, vs, h1, h2, h3, hp.bel⟩))
  obtain ⟨t0, t1, _, _⟩ := hF1.two
  obtain ⟨g0, g1, _, _⟩ := hX2.two
  obtain ⟨k0, k1, _, _⟩ := hY2.two
  rw [hw2] at t0 t1 g0 g1 k0 k1
  have hmx : ¬ ((24 : Int) < max (n : Int) (m : Int)) := by omega
  clear hmany
  go_wp2_with fail
  rw [← hw2]
  clear hw2 t0 t1 g0 g1 k0 k1
  have hS : ∀ W9, Below w2.heap.size w2 W9 → ((fun W9 => Below w2.heap.size w2 W9 ∧ W9.cell? ⟨w1.heap.size, 0, none⟩ = some (.int .i64 n) ∧ W9.cell? ⟨w1.heap.size, 1, none⟩ = some (.slice va vl vc) ∧ W9.cell? ⟨w1.heap.size, 2, none⟩ = some (.int .i64 e) ∧ W9.cell? ⟨w1.heap.size, 3, none⟩ = some (.slice ia il ic) ∧ W9.cell? ⟨w1.heap.size, 4, none⟩ = some (.int .i64 m) ∧ W9.cell? ⟨w1.heap.size, 5, none⟩ = some (.slice ya yl yc) ∧ W9.cell? ⟨w1.heap.size, 6, none⟩ = some (.int .i64 d) ∧ W9.cell? ⟨w1.heap.size, 7, none⟩ = some (.slice ja jl jc) ∧ W9.cell? ⟨w.heap.size + 1 + 1, 0, none⟩ = some (.int .i64 0) ∧ W9.cell? ⟨w.heap.size + 1 + 1, 1, none⟩ = some (.int .i64 0) ∧ W9.frozen? ⟨w.heap.size + 1 + 1, 0, none⟩ = false ∧ W9.frozen? ⟨w.heap.size + 1 + 1, 1, none⟩ = false ∧ W9.setCell ⟨w.heap.size + 1 + 1, 0, none⟩ (.int .i64 0) = W9 ∧ W9.setCell ⟨w.heap.size + 1 + 1, 1, none⟩ (.int .i64 0) = W9) W9) := fun W9 h => by
    obtain ⟨_, h0, h1, h2, h3, h4, h5, h6, h7⟩ := Eight.mk' hH2
    obtain ⟨y0, y1, fy0, fy1⟩ := (blk_below hR2 h).two
    obtain ⟨s0, s1⟩ := (blk_below hR2 h).self
    exact ⟨h, below_cell h h0, below_cell h h1, below_cell h h2, below_cell h h3, below_cell h h4, below_cell h h5, below_cell h h6, below_cell h h7, y0, y1, fy0, fy1, s0, s1⟩
  have hS0 := hS _ (bdrew (Below.refl _ w2))
  go_region_held3 (fun W9 => Below w2.heap.size w2 W9 ∧ W9.cell? ⟨w1.heap.size, 0, none⟩ = some (.int .i64 n) ∧ W9.cell? ⟨w1.heap.size, 1, none⟩ = some (.slice va vl vc) ∧ W9.cell? ⟨w1.heap.size, 2, none⟩ = some (.int .i64 e) ∧ W9.cell? ⟨w1.heap.size, 3, none⟩ = some (.slice ia il ic) ∧ W9.cell? ⟨w1.heap.size, 4, none⟩ = some (.int .i64 m) ∧ W9.cell? ⟨w1.heap.size, 5, none⟩ = some (.slice ya yl yc) ∧ W9.cell? ⟨w1.heap.size, 6, none⟩ = some (.int .i64 d) ∧ W9.cell? ⟨w1.heap.size, 7, none⟩ = some (.slice ja jl jc) ∧ W9.cell? ⟨w.heap.size + 1 + 1, 0, none⟩ = some (.int .i64 0) ∧ W9.cell? ⟨w.heap.size + 1 + 1, 1, none⟩ = some (.int .i64 0) ∧ W9.frozen? ⟨w.heap.size + 1 + 1, 0, none⟩ = false ∧ W9.frozen? ⟨w.heap.size + 1 + 1, 1, none⟩ = false ∧ W9.setCell ⟨w.heap.size + 1 + 1, 0, none⟩ (.int .i64 0) = W9 ∧ W9.setCell ⟨w.heap.size + 1 + 1, 1, none⟩ (.int .i64 0) = W9)
    (first | exact hS0 | assumption | exact hS _ (bcat2 (And.left ‹_›) hl3) | exact hS _ (bcat2 (And.left ‹_›) hl4) | exact hS _ (bcat2 (And.left ‹_›) hl5))
    (first
      | (go_at_call 72; refine (HLM.out _ (And.left ‹_›)).mono ?_; rintro e3 w3 ⟨ks, k1, k3, rfl, hK3, hLM, hgen, hl3⟩)
      | (go_at_call 71; refine (HSG.out _ _ _ _).mono ?_; rintro e4 w4 ⟨kb, pb, fb, rfl, hA4, hl4⟩)
      | (go_at_call 70; refine (HLI.out _ ks _ _ _ _ _ _ (And.left ‹_›) (hK3.below hl4) hLM hgen hA4).mono ?_; rintro e5 w5 ⟨r, vs, rfl, hrow5, hls5, hl5⟩))
  obtain ⟨hB5, _, _, _, _, _, _, _, _, y0, y1, _⟩ := ‹Below w2.heap.size w2 w5 ∧ _›
  have hwb := hBw2.size
  have hw24 : w2.heap.size ≤ w4.heap.size := Nat.le_trans hl3.size hl4.size
  go_wp2
  exact bodyPost_ret (v := .tuple #[r, .agg #[.int .i64 0, .int .i64 0]]) (by simp [results, Tryd.results28, go_sem, y0, y1]) rfl ⟨ks, r, vs, rfl, hLM, hgen, owns_mono hrow5 (by omega), hls5.mono (by omega), bcat2 hBw2 hB5⟩
end Go.Proofs.YtmgengplfebmjaaDoor

namespace Go.Proofs.YtmgengplfebmjaaDoor
open Go Go.RowKit

theorem call46 (a : Int) (x y : Value) (W : World) : Sem.run Tryd.prog (callFunc 46 (#[.int .i64 a] ++ #[x, y])) W = .ok (.enter 46 (#[.int .i64 a] ++ #[x, y])) W := by kernel_rfl
set_option maxRecDepth 100000 in
set_option maxHeartbeats 4000000 in
theorem hcy1_ok (n m d a nb gb : Nat) (v1 : Option Addr) (v2 v3 : Nat) (ys : List Int) (w : World) (hy : Sl w (.slice v1 v2 v3) ys) (hh : IsGrp m ys d) (hn : n ≤ 24) (ha : a < m) (hN : Boxed w nb 3 (.int .i64 n)) (hG : BoxG w gb m (.slice v1 v2 v3)) :
    Calls Tryd.prog 46 (#[.int .i64 a] ++ #[.pointer (some ⟨nb, 0, none⟩), .pointer (some ⟨gb, 0, none⟩)]) w fun x w' => x = .returned (.bool (decide (n % ordN m ys d a = 0))) ∧ Below w.heap.size w w' := by
  show Calls Tryd.prog 46 #[.int .i64 a, .pointer (some ⟨nb, 0, none⟩), .pointer (some ⟨gb, 0, none⟩)] w _
  have HO := hide (fun W (h : Below w.heap.size w W) => O_ok hh ha (.slice v1 v2 v3) W (hy.below h))
  have hm6 := hh.tab.le
  have hop := ord_pos (n := m) (zs := ys) (e := d) a
  have hol := ord_le hh ha
  obtain ⟨c0, c1, _, _⟩ := hG.two
  have k0 := hN.cell
  generalize ordN m ys d a = o at *
  obtain ⟨q, hq⟩ : ∃ q, n % o = q := ⟨_, rfl⟩
  have hrm : (n : Int).tmod (o : Int) = (q : Int) := by rw [← hq]; exact tmod_nat o rfl
  have hqn : q ≤ 24 := by rw [← hq]; exact Nat.le_trans (Nat.mod_le _ _) hn
  have hwq : IntKind.i64.wrap (q : Int) = (q : Int) := by rw [IntKind.wrap_i64]; omega
  have ho0 : ¬ o = 0 := by omega
  have ho0i : ¬ (o : Int) = 0 := by omega
  rw [hq]
  clear hq
  have hS : ∀ W9, Below w.heap.size w W9 → ((fun W9 => Below w.heap.size w W9 ∧ W9.cell? ⟨nb, 0, none⟩ = some (.int .i64 n) ∧ W9.cell? ⟨gb, 0, none⟩ = some (.int .i64 m) ∧ W9.cell? ⟨gb, 1, none⟩ = some (.slice v1 v2 v3)) W9) := fun W9 h => ⟨h, below_cell h k0, below_cell h c0, below_cell h c1⟩
  have hS0 := hS _ (bdrew (Below.refl _ w))
  clear c0 c1 k0
  by_cases hq0 : q = 0
  · subst hq0
    have hrm : (n : Int).tmod (o : Int) = 0 := hrm
    go_enter Tryd.func46, Tryd.ntmps46
    go_wp2_with fail
    go_region_held3 (fun W9 => Below w.heap.size w W9 ∧ W9.cell? ⟨nb, 0, none⟩ = some (.int .i64 n) ∧ W9.cell? ⟨gb, 0, none⟩ = some (.int .i64 m) ∧ W9.cell? ⟨gb, 1, none⟩ = some (.slice v1 v2 v3))
      (first | exact hS0 | assumption | exact hS _ (bcat2 (And.left ‹_›) hl1))
      (first | (go_at_call 47; refine (HO.out _ (And.left ‹_›)).mono ?_; rintro e1 W1 ⟨rfl, hl1⟩))
    all_goals (
      have hB9 := And.left ‹Below w.heap.size w W1 ∧ _›
      go_wp2
      go_ret
      exact ⟨by first | rfl | simp, hB9⟩)
  · have hqi : ¬ (q : Int) = 0 := by omega
    have hqd : decide (q = 0) = false := decide_eq_false hq0
    rw [hqd]
    clear hqd
    go_enter Tryd.func46, Tryd.ntmps46
    go_wp2_with fail
    go_region_held3 (fun W9 => Below w.heap.size w W9 ∧ W9.cell? ⟨nb, 0, none⟩ = some (.int .i64 n) ∧ W9.cell? ⟨gb, 0, none⟩ = some (.int .i64 m) ∧ W9.cell? ⟨gb, 1, none⟩ = some (.slice v1 v2 v3))
      (first | exact hS0 | assumption | exact hS _ (bcat2 (And.left ‹_›) hl1))
      (first | (go_at_call 47; refine (HO.out _ (And.left ‹_›)).mono ?_; rintro e1 W1 ⟨rfl, hl1⟩))
    all_goals (
      have hB9 := And.left ‹Below w.heap.size w W1 ∧ _›
      go_wp2
      go_ret
      exact ⟨by first | rfl | simp [hq0], hB9⟩)
theorem mkF {X U : World} {x y : Value} (k : Below (X.alloc (.cells #[x, y] 27)).heap.size (X.alloc (.cells #[x, y] 27)) U) : Blk U X.heap.size 27 [x, y] := blk_below (blk0 x y) k
theorem undF {W U : World} (k : Below W.drew.heap.size W.drew U) : Below W.heap.size W U := ⟨k.os, k.tape, k.output, k.size, k.block⟩
def CRel (w3 : World) (L : Nat) (s5 s6 : Value) (wx : World) : Prop := ∃ (b : Nat) (a : Option Addr) (c : Nat), s5 = .slice a L c ∧ s6 = .pointer (some ⟨b, 0, none⟩) ∧ Blk wx b 27 [.int .i64 0, .int .i64 0] ∧ Below w3.heap.size w3 wx
set_option maxRecDepth 100000 in
set_option maxHeartbeats 4000000 in
theorem hcyc_bad1 (N M : Int) (v1 : Option Addr) (v2 v3 : Nat) (w : World) (hT : Tab w) (hb : N < 1 ∨ 24 < N) :
    Calls Tryd.prog 8 #[.agg #[.int .i64 M, .slice v1 v2 v3], .int .i64 N] w fun e w' => e = .returned (.bool true) ∧ Below w.heap.size w w' := by
  obtain ⟨w0, hw0⟩ : ∃ w0, w0 = (w.alloc (.cells #[.int .i64 M, .slice v1 v2 v3] 24)).alloc (.cells #[.int .i64 N] 3) := ⟨_, rfl⟩
  have hB0 : Below w.heap.size w w0 := by rw [hw0]; exact (balloc w _).alloc (by simp) _
  have hX0 : BoxG w0 w.heap.size M (.slice v1 v2 v3) := by rw [hw0]; exact (blk0 (w := w) (T := 24) _ _).alloc _
  have hN0 : Boxed w0 (w.heap.size + 1) 3 (.int .i64 N) := by
    have := Boxed.new (w.alloc (.cells #[.int .i64 M, .slice v1 v2 v3] 24)) 3 (.int .i64 N)
    rw [World.size_alloc] at this
    rw [hw0]; exact this
  go_enter Tryd.func8, Tryd.ntmps8
  go_wp2_with fail
  rw [← hw0]
  clear hw0
  refine (homBegun_any _ (hT.below hB0)).mono ?_
  rintro x w1 ⟨rfl, hb1⟩
  have hB := bcat2 hB0 hb1
  have hX := blk_below hX0 hb1
  have hN := Boxed.below hN0 hb1
  clear hB0 hX0 hN0 hb1
  obtain ⟨c0, c1, _, _⟩ := hX.two
  have k0 := hN.cell
  rcases hb with hb | hb
  · go_wp2
    go_ret
    exact ⟨rfl, hB⟩
  · have hb1 : ¬ N < 1 := by omega
    go_wp2
    go_ret
    exact ⟨rfl, hB⟩
set_option maxRecDepth 100000 in
set_option maxHeartbeats 4000000 in
theorem hcyc_bad2 (N M c i : Int) (v1 : Option Addr) (v2 v3 : Nat) (w : World) (hT : Tab w) (h1 : ¬ N < 1) (h2 : ¬ 24 < N) (hc : c ≠ 0 ∨ c = 0 ∧ 24 < M)
    (HGF : Hid (∀ W, Below w.heap.size w W → Calls Tryd.prog 12 #[.agg #[.int .i64 M, .slice v1 v2 v3]] W fun x W' => x = .returned (.agg #[.int .i64 c, .int .i64 i]) ∧ Below W.heap.size W W')) :
    Calls Tryd.prog 8 #[.agg #[.int .i64 M, .slice v1 v2 v3], .int .i64 N] w fun e w' => e = .returned (.bool true) ∧ Below w.heap.size w w' := by
  obtain ⟨w0, hw0⟩ : ∃ w0, w0 = (w.alloc (.cells #[.int .i64 M, .slice v1 v2 v3] 24)).alloc (.cells #[.int .i64 N] 3) := ⟨_, rfl⟩
  have hB0 : Below w.heap.size w w0 := by rw [hw0]; exact (balloc w _).alloc (by simp) _
  have hX0 : BoxG w0 w.heap.size M (.slice v1 v2 v3) := by rw [hw0]; exact (blk0 (w := w) (T := 24) _ _).alloc _
  have hN0 : Boxed w0 (w.heap.size + 1) 3 (.int .i64 N) := by
    have := Boxed.new (w.alloc (.cells #[.int .i64 M, .slice v1 v2 v3] 24)) 3 (.int .i64 N)
    rw [World.size_alloc] at this
    rw [hw0]; exact this
  go_enter Tryd.func8, Tryd.ntmps8
  go_wp2_with fail
  rw [← hw0]
  clear hw0
  refine (homBegun_any _ (hT.below hB0)).mono ?_
  rintro x w1 ⟨rfl, hb1⟩
  have hB := bcat2 hB0 hb1
  have hX := blk_below hX0 hb1
  have hN := Boxed.below hN0 hb1
  clear hB0 hX0 hN0 hb1
  obtain ⟨c0, c1, _, _⟩ := hX.two
  have k0 := hN.cell
  go_wp2_with fail
  clear c0 c1 k0
  refine (HGF.out _ hB).mono ?_
  rintro x w2 ⟨rfl, hb2⟩
  have hB := bcat2 hB hb2
  have hfd := field27 c i w2
  rcases hc with hc | ⟨rfl, hM⟩
  · have hcb : (c != 0) = true := by simpa using hc
    go_wp2
    go_ret
    exact ⟨rfl, hB⟩
  · obtain ⟨c0, c1, _, _⟩ := (blk_below hX hb2).two
    go_wp2
    go_ret
    exact ⟨rfl, hB⟩
set_option maxRecDepth 100000 in
set_option maxHeartbeats 8000000 in
theorem hcyc_good (n m L : Nat) (v1 : Option Addr) (v2 v3 : Nat) (xs : List Nat) (w : World) (hT : Tab w) (h1 : 1 ≤ n) (h2 : n ≤ 24) (hm : m ≤ 24) (hL : xs.length = L)
    (HGF : Hid (∀ W, Below w.heap.size w W → Calls Tryd.prog 12 #[.agg #[.int .i64 m, .slice v1 v2 v3]] W fun x W' => x = .returned (.agg #[.int .i64 0, .int .i64 0]) ∧ Below W.heap.size W W'))
    (HRI : Hid (∀ W, Below w.heap.size w W → Calls Tryd.prog 45 #[.int .i64 n] W fun x W' => ∃ r1 r2 r3, x = .returned (.agg #[.int .i64 n, .slice r1 r2 r3]) ∧ Sl W' (.slice r1 r2 r3) (rngT n) ∧ Below W.heap.size W W'))
    (HAL : Hid (∀ W u, Below w.heap.size w W → Sl W u (rngT n) → Calls Tryd.prog 28 #[.agg #[.int .i64 n, u], .agg #[.int .i64 m, .slice v1 v2 v3]] W fun x W' => ∃ r1 r3, x = .returned (.tuple #[.slice r1 L r3, .agg #[.int .i64 0, .int .i64 0]]) ∧ Below W.heap.size W W'))
    (HTH : Hid (∀ W, Below w.heap.size w W → BoxG W w.heap.size m (.slice v1 v2 v3) → Boxed W (w.heap.size + 1) 3 (.int .i64 n) → Calls Tryd.prog 18 #[.agg #[.int .i64 m, .slice v1 v2 v3], .func (.func 46) #[] #[.pointer (some ⟨w.heap.size + 1, 0, none⟩), .pointer (some ⟨w.heap.size, 0, none⟩)]] W fun x W' => ∃ r1 r3, x = .returned (.slice r1 xs.length r3) ∧ Below W.heap.size W W')) :
    Calls Tryd.prog 8 #[.agg #[.int .i64 m, .slice v1 v2 v3], .int .i64 n] w fun e w' => e = .returned (.bool true) ∧ Below w.heap.size w w' := by
  have hn1 : ¬ ((n : Int) < 1) := by omega
  have hn2 : ¬ ((24 : Int) < (n : Int)) := by omega
  have hm2 : ¬ ((24 : Int) < (m : Int)) := by omega
  obtain ⟨w0, hw0⟩ : ∃ w0, w0 = (w.alloc (.cells #[.int .i64 m, .slice v1 v2 v3] 24)).alloc (.cells #[.int .i64 n] 3) := ⟨_, rfl⟩
  have hB0 : Below w.heap.size w w0 := by rw [hw0]; exact (balloc w _).alloc (by simp) _
  have hX0 : BoxG w0 w.heap.size m (.slice v1 v2 v3) := by rw [hw0]; exact (blk0 (w := w) (T := 24) _ _).alloc _
  have hN0 : Boxed w0 (w.heap.size + 1) 3 (.int .i64 n) := by
    have := Boxed.new (w.alloc (.cells #[.int .i64 m, .slice v1 v2 v3] 24)) 3 (.int .i64 n)
    rw [World.size_alloc] at this
    rw [hw0]; exact this
  go_enter Tryd.func8, Tryd.ntmps8
  go_wp2_with fail
  rw [← hw0]
  clear hw0
  refine (homBegun_any _ (hT.below hB0)).mono ?_
  rintro x w1 ⟨rfl, hb1⟩
  have hB := bcat2 hB0 hb1
  have hX := blk_below hX0 hb1
  have hN := Boxed.below hN0 hb1
  clear hB0 hX0 hN0 hb1
  obtain ⟨c0, c1, _, _⟩ := hX.two
  have k0 := hN.cell
  go_wp2_with fail
  clear c0 c1 k0
  refine (HGF.out _ hB).mono ?_
  rintro x w3 ⟨rfl, hb2⟩
  have hB := bcat2 hB hb2
  have hX := blk_below hX hb2
  have hN := Boxed.below hN hb2
  have hfd := field27 0 0 w3
  obtain ⟨c0, c1, _, _⟩ := hX.two
  have k0 := hN.cell
  have hS5 : ∀ W9, Below w3.heap.size w3 W9 → ((fun W9 => Below w3.heap.size w3 W9 ∧ W9.cell? ⟨w.heap.size, 0, none⟩ = some (.int .i64 m) ∧ W9.cell? ⟨w.heap.size, 1, none⟩ = some (.slice v1 v2 v3) ∧ W9.cell? ⟨w.heap.size + 1, 0, none⟩ = some (.int .i64 n)) W9) := fun W9 h => ⟨h, below_cell h c0, below_cell h c1, below_cell h k0⟩
  have hS50 := hS5 _ (bdrew (Below.refl _ w3))
  go_wp2_with fail
  clear c0 c1 k0 hfd hn1 hn2 hm2
  go_cut [5, 6] (fun s5 s6 wx => CRel w3 L s5 s6 wx)
  case first =>
    clear HGF HTH
    go_region_held3 (fun W9 => Below w3.heap.size w3 W9 ∧ W9.cell? ⟨w.heap.size, 0, none⟩ = some (.int .i64 m) ∧ W9.cell? ⟨w.heap.size, 1, none⟩ = some (.slice v1 v2 v3) ∧ W9.cell? ⟨w.heap.size + 1, 0, none⟩ = some (.int .i64 n))
      (first | exact hS50 | assumption | exact hS5 _ (bcat2 (And.left ‹_›) hl5) | exact hS5 _ (bcat2 (And.left ‹_›) hl6) | exact hS5 _ (bcat2 (And.left ‹_›) (balloc _ _)))
      (first
        | (go_at_call 45; refine (HRI.out _ (bcat2 hB (And.left ‹_›))).mono ?_; rintro e5 U5 ⟨r1, r2, r3, rfl, hr5, hl5⟩; (first | (with_reducible have pA := mkF hl5) | (with_reducible have pA := mkF (undF hl5)) | skip))
        | (go_at_call 28; refine (HAL.out _ _ (bcat2 hB (And.left ‹_›)) (by first | exact hr5 | exact hr5.below (balloc _ _))).mono ?_; rintro e6 U6 ⟨q1, q3, rfl, hl6⟩; (first | (with_reducible have pB := mkF hl6) | skip); (first | (with_reducible have pA := blk_below pA hl6) | skip); (try (obtain ⟨_, _, _, _⟩ := pA.two; obtain ⟨_, _⟩ := pA.self)); (try (obtain ⟨_, _, _, _⟩ := pB.two; obtain ⟨_, _⟩ := pB.self)); have hU6 := bcat2 (And.left ‹_›) hl6))
    all_goals (go_wp2; go_meet)
    all_goals (refine ⟨_, _, _, rfl, rfl, ?_, ?_⟩)
    all_goals (first
      | exact hU6
      | exact bcat2 hU6 (balloc _ _)
      | exact pA
      | exact pB
      | exact blk0 _ _)
  case rest =>
    obtain ⟨fb, ra, rc, rfl, rfl, hFx, hbx⟩ := hcut
    have hB := bcat2 hB hbx
    have hX := blk_below hX hbx
    have hN := Boxed.below hN hbx
    obtain ⟨f0, f1, _, _⟩ := hFx.two
    obtain ⟨c0, c1, _, _⟩ := hX.two
    go_wp2_with fail
    clear f0 f1 c0 c1
    refine (HTH.out _ hB hX hN).mono ?_
    rintro x w6 ⟨t1, t3, rfl, hb6⟩
    have hB := bcat2 hB hb6
    rw [hL]
    go_wp2
    go_ret
    exact ⟨rfl, hB⟩
theorem hcyc_law (N M : Int) (v : Value) (ys : List Int) (w : World) (hv : Sl w v ys) (hT : Tab w) :
    Calls Tryd.prog 8 #[.agg #[.int .i64 M, v], .int .i64 N] w fun e w' => e = .returned (.bool true) ∧ Below w.heap.size w w' := by
  obtain ⟨v1, v2, v3, rfl⟩ := hv.isSlice
  by_cases h1 : N < 1
  · exact hcyc_bad1 N M v1 v2 v3 w hT (.inl h1)
  by_cases h2 : 24 < N
  · exact hcyc_bad1 N M v1 v2 v3 w hT (.inr h2)
  have HGF := hide (fun W (h : Below w.heap.size w W) => groupFault_any M (.slice v1 v2 v3) ys W (hv.below h))
  by_cases hc : (gfault M ys).1 = 0
  · obtain ⟨m, d, rfl, hh, _⟩ := gfault_grp hc
    have hg0 := grp_fault hh
    by_cases h3 : 24 < (m : Int)
    · exact hcyc_bad2 N m _ _ v1 v2 v3 w hT h1 h2 (.inr ⟨hc, h3⟩) HGF
    · rw [hg0] at HGF
      obtain ⟨n, rfl⟩ : ∃ n : Nat, N = n := ⟨N.toNat, by omega⟩
      have hn1 : 1 ≤ n := by omega
      have hn2 : n ≤ 24 := by omega
      have hm2 : m ≤ 24 := by omega
      refine hcyc_good n m (lst m (fun a => decide (n % ordN m ys d a = 0))).length v1 v2 v3 (lst m (fun a => decide (n % ordN m ys d a = 0))) w hT hn1 hn2 hm2 rfl HGF (hide fun W h => ?_) (hide fun W u h hu => ?_) (hide fun W h hG hN => ?_)
      · refine (ring_ok n W hn1 (by omega)).mono ?_
        rintro x W' ⟨r, rfl, hr, hb⟩
        have hrs := row_sl hr (Nat.lt_of_lt_of_le (Nat.lt_of_lt_of_le hT.lt h.size) hb.size)
        obtain ⟨r1, r2, r3, rfl⟩ := hrs.isSlice
        exact ⟨r1, r2, r3, rfl, hrs, hb⟩
      · have hlen : ∀ ks, LM n (rngT n) 0 ks → (∀ a, a < n → Mkd n (rngT n) 0 (fun x => decide (x ∈ ks)) a) → (homF n (rngT n) 0 m ys d ks (fun _ => true) (ks.length + 1) []).length = (lst m (fun a => decide (n % ordN m ys d a = 0))).length := fun ks hLM hgen => cyc_many hn1 (by omega) hh hLM.lt hgen
        refine (hall_good n 0 m d u (.slice v1 v2 v3) (rngT n) ys W hu (rng_grp hn1 (by omega)) (hv.below h) hh (hT.below h) hn2 hm2 (fun ks hLM hgen => by rw [hlen ks hLM hgen]; exact Nat.le_trans (lst_len _ _) (by omega))).mono ?_
        rintro x W' ⟨ks, r, vs, rfl, hLM, hgen, hrow, hls, hb⟩
        obtain ⟨ra, rc, rfl⟩ := own_slice' hrow
        have : vs.length = (lst m (fun a => decide (n % ordN m ys d a = 0))).length := by rw [hls.1, hlen ks hLM hgen]
        rw [this]
        exact ⟨ra, rc, rfl, hb⟩
      · refine (rthose_ok m 46 (.slice v1 v2 v3) _ (fun a => decide (n % ordN m ys d a = 0)) W (by omega) (fun a W => call46 a _ _ W) (fun W9 a hW ha => hcy1_ok n m d a (w.heap.size + 1) w.heap.size v1 v2 v3 ys W9 ((hv.below h).below hW) hh hn2 ha (Boxed.below hN hW) (blk_below hG hW))).mono ?_
        rintro x W' ⟨r, rfl, hr, hb⟩
        obtain ⟨ra, rc, rfl⟩ := own_slice hr
        rw [li_len]
        exact ⟨ra, rc, rfl, hb⟩
  · exact hcyc_bad2 N M _ _ v1 v2 v3 w hT h1 h2 (.inl hc) HGF
end Go.Proofs.YtmgengplfebmjaaDoor
