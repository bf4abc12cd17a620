/- What the law HomAutos answers: true, at every table; automorphisms, inner ones, homomorphisms, orders of lists as mathematics; Autos and Inner at everything; the document's Makers, Spread, Homs, Less, Rising, OneToOne and Lists. -/
import Derived.Test.YtmgengplfebmjaaDoorHz
import Derived.Test.YtmgengplfebmjaaDoorHy
import Derived.Test.YtmgengplfebmjaaDoorCsa
import Derived.Test.YtmgengplfebmjaaDoorSpn
namespace Go.Proofs.YtmgengplfebmjaaDoor
open Go Go.RowKit

section
variable {n e m d : Nat} {zs ys : List Int} {S S' : List Int × List Nat} {ps : List (Nat × Nat)} {φ : Nat → Nat}
/-- What stands stays. -/
structure Grow (S S' : List Int × List Nat) : Prop where
  pre : S.2 <+: S'.2
  val : ∀ x, x ∈ S.2 → S'.1[x]?.getD 0 = S.1[x]?.getD 0
theorem Grow.refl (S : List Int × List Nat) : Grow S S := ⟨List.prefix_rfl, fun _ _ => rfl⟩
theorem Grow.mem (h : Grow S S') {x : Nat} (hx : x ∈ S.2) : x ∈ S'.2 := h.pre.subset hx
theorem Grow.trans {T : List Int × List Nat} (h : Grow S S') (k : Grow S' T) : Grow S T := ⟨h.pre.trans k.pre, fun x hx => (k.val x (h.mem hx)).trans (h.val x hx)⟩
theorem pre_get {l k : List Nat} (h : l <+: k) {j a : Nat} (hj : l[j]? = some a) : k[j]? = some a := by
  obtain ⟨t, ht⟩ := h
  rw [← ht, List.getElem?_append_left (List.getElem?_eq_some_iff.1 hj).1]
  exact hj
/-- A product with a maker is found, and stands for the product. -/
def OkP (n : Nat) (zs : List Int) (m : Nat) (ys : List Int) (S : List Int × List Nat) (a : Nat) (p : Nat × Nat) : Prop := tm n zs a p.1 ∈ S.2 ∧ S.1[tm n zs a p.1]?.getD 0 = (tm m ys (S.1[a]?.getD 0).toNat p.2 : Int)
theorem OkP.grow {a : Nat} {p : Nat × Nat} (h : OkP n zs m ys S a p) (hg : Grow S S') (ha : a ∈ S.2) : OkP n zs m ys S' a p :=
  ⟨hg.mem h.1, by rw [hg.val _ h.1, h.2, hg.val _ ha]⟩
/-- Words of makers. -/
inductive Wd (n : Nat) (zs : List Int) (e : Nat) (ps : List (Nat × Nat)) : Nat → Prop
  | one : Wd n zs e ps e
  | mul {x : Nat} {p : Nat × Nat} : Wd n zs e ps x → p ∈ ps → Wd n zs e ps (tm n zs x p.1)
theorem exS_grow (h : XI n m S) (ht : IsTab n zs) {a : Nat} {p : Nat × Nat} (ha : a ∈ S.2) (h1 : p.1 < n) (hs : exS n zs m ys a S p = some S') : Grow S S' ∧ OkP n zs m ys S' a p ∧ ∀ x, x ∈ S'.2 → x ∈ S.2 ∨ x = tm n zs a p.1 := by
  have hc := tm_lt ht (h.lt a ha) h1
  unfold exS at hs
  split at hs
  · rename_i hm
    obtain rfl := Option.some.inj hs
    have hnc : tm n zs a p.1 ∉ S.2 := fun hin => by have := h.ok _ hin; omega
    have hv : ∀ x, x ∈ S.2 → ((S.1.set (tm n zs a p.1) (tm m ys (S.1[a]?.getD 0).toNat p.2 : Int)))[x]?.getD 0 = S.1[x]?.getD 0 := fun x hx => by
      rw [get_set (by rw [h.len]; exact hc), if_neg (fun he : x = tm n zs a p.1 => hnc (he ▸ hx))]
    refine ⟨⟨List.prefix_append _ _, hv⟩, ⟨by simp, ?_⟩, fun x hx => ?_⟩
    · show (S.1.set _ _)[tm n zs a p.1]?.getD 0 = (tm m ys ((S.1.set (tm n zs a p.1) (tm m ys (S.1[a]?.getD 0).toNat p.2 : Int))[a]?.getD 0).toNat p.2 : Int)
      rw [hv a ha, get_set (by rw [h.len]; exact hc), if_pos rfl]
    · rcases List.mem_append.1 hx with hx | hx
      · exact .inl hx
      · exact .inr (by simpa using hx)
  · rename_i hm
    split at hs
    · rename_i hv
      obtain rfl := Option.some.inj hs
      refine ⟨Grow.refl _, ⟨?_, hv⟩, fun x hx => .inl hx⟩
      by_cases hin : tm n zs a p.1 ∈ S.2
      · exact hin
      · exact absurd (h.no _ hc hin) hm
    · cases hs
theorem exI_grow (ht : IsTab n zs) (hu : IsTab m ys) {a : Nat} : ∀ (ps : List (Nat × Nat)) {S S' : List Int × List Nat}, XI n m S → a ∈ S.2 → (∀ p, p ∈ ps → p.1 < n ∧ p.2 < m) → exI n zs m ys a ps S = some S' → XI n m S' ∧ Grow S S' ∧ (∀ p, p ∈ ps → OkP n zs m ys S' a p) ∧ ∀ x, x ∈ S'.2 → x ∈ S.2 ∨ ∃ p, p ∈ ps ∧ x = tm n zs a p.1
  | [], S, S', h, ha, hp, hs => by
    obtain rfl := Option.some.inj hs
    exact ⟨h, Grow.refl _, fun p hp => by simp at hp, fun x hx => .inl hx⟩
  | p :: ps, S, S', h, ha, hp, hs => by
    obtain ⟨h1, h2⟩ := hp p (by simp)
    cases he : exS n zs m ys a S p with
    | none => simp only [exI, he] at hs; cases hs
    | some T =>
      simp only [exI, he] at hs
      obtain ⟨g1, o1, m1⟩ := exS_grow h ht ha h1 he
      have hT := (h.step hu ht ha h1 h2 he).1
      obtain ⟨r1, r2, r3, r4⟩ := exI_grow ht hu ps hT (g1.mem ha) (fun q hq => hp q (by simp [hq])) hs
      refine ⟨r1, g1.trans r2, fun q hq => ?_, fun x hx => ?_⟩
      · rcases List.mem_cons.1 hq with rfl | hq
        · exact o1.grow r2 (g1.mem ha)
        · exact r3 q hq
      · rcases r4 x hx with hx | ⟨q, hq, he⟩
        · rcases m1 x hx with hx | hx
          · exact .inl hx
          · exact .inr ⟨p, by simp, hx⟩
        · exact .inr ⟨q, by simp [hq], he⟩
theorem exO_grow (ht : IsTab n zs) (hu : IsTab m ys) (hp : ∀ p, p ∈ ps → p.1 < n ∧ p.2 < m) : ∀ (f k : Nat) {S S' : List Int × List Nat}, XI n m S → n ≤ f + k → (∀ j a, j < k → S.2[j]? = some a → ∀ p, p ∈ ps → OkP n zs m ys S a p) → (∀ x, x ∈ S.2 → Wd n zs e ps x) → exO n zs m ys ps f k S = some S' →
    XI n m S' ∧ Grow S S' ∧ (∀ a, a ∈ S'.2 → ∀ p, p ∈ ps → OkP n zs m ys S' a p) ∧ ∀ x, x ∈ S'.2 → Wd n zs e ps x
  | 0, k, S, S', h, hf, hok, hw, hs => by
    obtain rfl := Option.some.inj hs
    refine ⟨h, Grow.refl _, fun a ha p hp => ?_, hw⟩
    obtain ⟨j, hj, he⟩ := List.mem_iff_getElem.1 ha
    exact hok j a (by have := h.fits; omega) (by rw [List.getElem?_eq_getElem hj, he]) p hp
  | f + 1, k, S, S', h, hf, hok, hw, hs => by
    cases hk : S.2[k]? with
    | none =>
      simp only [exO, hk] at hs
      obtain rfl := Option.some.inj hs
      refine ⟨h, Grow.refl _, fun a ha p hp => ?_, hw⟩
      obtain ⟨j, hj, he⟩ := List.mem_iff_getElem.1 ha
      exact hok j a (by have := List.getElem?_eq_none_iff.1 hk; omega) (by rw [List.getElem?_eq_getElem hj, he]) p hp
    | some a =>
      simp only [exO, hk] at hs
      cases hi : exI n zs m ys a ps S with
      | none => rw [hi] at hs; cases hs
      | some T =>
        rw [hi] at hs
        have ha : a ∈ S.2 := List.mem_of_getElem? hk
        obtain ⟨r1, r2, r3, r4⟩ := exI_grow ht hu ps h ha hp hi
        obtain ⟨q1, q2, q3, q4⟩ := exO_grow ht hu hp f (k + 1) r1 (by omega) (fun j b hj hb p hp => by
          by_cases hjk : j < k
          · have hjl : j < S.2.length := by have := (List.getElem?_eq_some_iff.1 hk).1; omega
            have hb' : S.2[j]? = some b := by
              have h9 := pre_get r2.pre (List.getElem?_eq_getElem hjl)
              rw [hb] at h9
              rw [List.getElem?_eq_getElem hjl, ← h9]
            exact (hok j b hjk hb' p hp).grow r2 (List.mem_of_getElem? hb')
          · have : j = k := by omega
            subst this
            have hkl := (List.getElem?_eq_some_iff.1 hk).1
            have : T.2[j]? = some a := pre_get r2.pre hk
            have : b = a := by rw [hb] at this; exact Option.some.inj this
            subst this
            exact r3 p hp) (fun x hx => by
          rcases r4 x hx with hx | ⟨p, hp, rfl⟩
          · exact hw x hx
          · exact Wd.mul (hw a ha) hp) hs
        exact ⟨q1, r2.trans q2, q3, q4⟩
theorem ext_grow (g : IsGrp n zs e) (h : IsGrp m ys d) (hp : ∀ p, p ∈ ps → p.1 < n ∧ p.2 < m) (hs : ext n zs e m ys d ps = some S) : XI n m S ∧ e ∈ S.2 ∧ S.1[e]?.getD 0 = (d : Int) ∧ (∀ a, a ∈ S.2 → ∀ p, p ∈ ps → OkP n zs m ys S a p) ∧ ∀ x, x ∈ S.2 → Wd n zs e ps x := by
  have h0 := XI.start g.elt h.elt
  obtain ⟨r1, r2, r3, r4⟩ := exO_grow (e := e) g.tab h.tab hp n 0 h0 (by omega) (fun j a hj => by omega) (fun x hx => by
    have : x = e := by simpa [ex0] using hx
    rw [this]; exact Wd.one) hs
  have he : e ∈ (ex0 n e d).2 := by simp [ex0]
  refine ⟨r1, r2.mem he, ?_, r3, r4⟩
  rw [r2.val e he]
  show ((List.replicate n (-1 : Int)).set e (d : Int))[e]?.getD 0 = (d : Int)
  rw [get_set (by simpa using g.elt), if_pos rfl]
/-- What stands for a thing that is found. -/
def vl (S : List Int × List Nat) (x : Nat) : Nat := (S.1[x]?.getD 0).toNat
theorem XI.vl (h : XI n m S) {x : Nat} (hx : x ∈ S.2) : S.1[x]?.getD 0 = (vl S x : Int) ∧ vl S x < m := by
  have := h.ok x hx
  unfold Go.Proofs.YtmgengplfebmjaaDoor.vl
  omega
theorem wd_mul (g : IsGrp n zs e) (h : IsGrp m ys d) (hp : ∀ p, p ∈ ps → p.1 < n ∧ p.2 < m) (hs : ext n zs e m ys d ps = some S) {x y : Nat} (hx : x ∈ S.2) (hy : Wd n zs e ps y) : y ∈ S.2 ∧ tm n zs x y ∈ S.2 ∧ vl S (tm n zs x y) = tm m ys (vl S x) (vl S y) := by
  obtain ⟨r1, r2, r3, r4, _⟩ := ext_grow g h hp hs
  have hve : vl S e = d := by unfold vl; rw [r3]; simp
  induction hy with
  | one => exact ⟨r2, by rw [g.right x (r1.lt x hx)]; exact hx, by rw [g.right x (r1.lt x hx), hve, h.right _ (r1.vl hx).2]⟩
  | mul hw hpm ih =>
    rename_i y p
    obtain ⟨i1, i2, i3⟩ := ih
    obtain ⟨p1, p2⟩ := hp p hpm
    have o1 := r4 y i1 p hpm
    have o2 := r4 _ i2 p hpm
    have ha : tm n zs x (tm n zs y p.1) = tm n zs (tm n zs x y) p.1 := (g.ass x y p.1 (r1.lt x hx) (r1.lt y i1) p1).symm
    refine ⟨o1.1, by rw [ha]; exact o2.1, ?_⟩
    have e1 : vl S (tm n zs y p.1) = tm m ys (vl S y) p.2 := by
      have := o1.2
      unfold vl; rw [this]; simp
    have e2 : vl S (tm n zs (tm n zs x y) p.1) = tm m ys (vl S (tm n zs x y)) p.2 := by
      have := o2.2
      unfold vl; rw [this]; simp
    rw [ha, e2, i3, e1, h.ass _ _ _ (r1.vl hx).2 (r1.vl i1).2 p2]
/-- All that the makers make is found, and products are kept. -/
theorem ext_mul (g : IsGrp n zs e) (h : IsGrp m ys d) (hp : ∀ p, p ∈ ps → p.1 < n ∧ p.2 < m) (hs : ext n zs e m ys d ps = some S) {x y : Nat} (hx : x ∈ S.2) (hy : y ∈ S.2) : tm n zs x y ∈ S.2 ∧ vl S (tm n zs x y) = tm m ys (vl S x) (vl S y) :=
  (wd_mul g h hp hs hx ((ext_grow g h hp hs).2.2.2.2 y hy)).2
theorem ext_made (g : IsGrp n zs e) (h : IsGrp m ys d) (hp : ∀ p, p ∈ ps → p.1 < n ∧ p.2 < m) (hs : ext n zs e m ys d ps = some S) {x : Nat} : x ∈ S.2 ↔ Mkd n zs e (fun x => decide (x ∈ ps.map Prod.fst)) x := by
  obtain ⟨r1, r2, r3, r4, r5⟩ := ext_grow g h hp hs
  constructor
  · intro hx
    have := r5 x hx
    clear hx
    induction this with
    | one => exact (Fin.Gen.sg _).one
    | mul hw hpm ih =>
      rename_i y p
      have hy : y < n := r1.lt y (wd_mul g h hp hs r2 hw).1
      exact (Fin.Gen.sg _).mul _ _ (List.mem_range.2 hy) (List.mem_range.2 (hp p hpm).1) ih (Fin.Gen.base (List.mem_range.2 (hp p hpm).1) (decide_eq_true (List.mem_map.2 ⟨p, hpm, rfl⟩)))
  · intro hx
    refine Fin.Gen.least (P := fun x => x ∈ S.2) ⟨r2, fun a b _ _ ha hb => (ext_mul g h hp hs ha hb).1⟩ (fun y hy hY => ?_) hx
    obtain ⟨p, hpm, rfl⟩ := List.mem_map.1 (of_decide_eq_true hY)
    have := (r4 e r2 p hpm).1
    rwa [g.left p.1 (hp p hpm).1] at this
theorem ext_at (g : IsGrp n zs e) (h : IsGrp m ys d) (hp : ∀ p, p ∈ ps → p.1 < n ∧ p.2 < m) (hs : ext n zs e m ys d ps = some S) {p : Nat × Nat} (hpm : p ∈ ps) : vl S p.1 = p.2 := by
  obtain ⟨r1, r2, r3, r4, _⟩ := ext_grow g h hp hs
  have := (r4 e r2 p hpm).2
  rw [g.left p.1 (hp p hpm).1, r3] at this
  unfold vl
  rw [this, Int.toNat_natCast, Int.toNat_natCast, h.left p.2 (hp p hpm).2]
/-- Where the makers make all, it is a homomorphism. -/
theorem ext_hom (g : IsGrp n zs e) (h : IsGrp m ys d) (hp : ∀ p, p ∈ ps → p.1 < n ∧ p.2 < m) (hs : ext n zs e m ys d ps = some S) (hall : ∀ a, a < n → Mkd n zs e (fun x => decide (x ∈ ps.map Prod.fst)) a) : IsHom n zs m ys (vl S) ∧ S.1 = li ((List.range n).map (vl S)) := by
  obtain ⟨r1, _⟩ := ext_grow g h hp hs
  have hin : ∀ a, a < n → a ∈ S.2 := fun a ha => (ext_made g h hp hs).2 (hall a ha)
  refine ⟨⟨fun a ha => (r1.vl (hin a ha)).2, fun a b ha hb => (ext_mul g h hp hs (hin a ha) (hin b hb)).2⟩, ?_⟩
  apply List.ext_getElem
  · rw [r1.len]; simp [li]
  · intro i h1 h2
    rw [r1.len] at h1
    have := (r1.vl (hin i h1)).1
    rw [List.getElem?_eq_getElem (by rw [r1.len]; exact h1), Option.getD_some] at this
    rw [this]
    simp [li]
/-- Where there is a homomorphism, the search ends well, and finds it. -/
theorem exS_hom (h : XI n m S) (ht : IsTab n zs) (H : IsHom n zs m ys φ) {a : Nat} {p : Nat × Nat} (ha : a ∈ S.2) (h1 : p.1 < n) (hφ : φ p.1 = p.2) (hv : ∀ x, x ∈ S.2 → S.1[x]?.getD 0 = (φ x : Int)) : ∃ S', exS n zs m ys a S p = some S' ∧ ∀ x, x ∈ S'.2 → S'.1[x]?.getD 0 = (φ x : Int) := by
  have hc := tm_lt ht (h.lt a ha) h1
  have hval : (tm m ys (S.1[a]?.getD 0).toNat p.2 : Int) = (φ (tm n zs a p.1) : Int) := by rw [hv a ha, Int.toNat_natCast, H.mul a p.1 (h.lt a ha) h1, hφ]
  by_cases hm : S.1[tm n zs a p.1]?.getD 0 = -1
  · refine ⟨_, if_pos hm, fun x hx => ?_⟩
    show (S.1.set _ _)[x]?.getD 0 = _
    rw [get_set (by rw [h.len]; exact hc)]
    by_cases he : x = tm n zs a p.1
    · rw [if_pos he, hval, he]
    · rw [if_neg he]
      rcases List.mem_append.1 hx with hx | hx
      · exact hv x hx
      · simp at hx; exact absurd hx he
  · have hin : tm n zs a p.1 ∈ S.2 := by
      by_cases hin : tm n zs a p.1 ∈ S.2
      · exact hin
      · exact absurd (h.no _ hc hin) hm
    refine ⟨S, ?_, hv⟩
    unfold exS
    rw [if_neg hm, if_pos (by rw [hval]; exact hv _ hin)]
theorem exI_hom (ht : IsTab n zs) (hu : IsTab m ys) (H : IsHom n zs m ys φ) {a : Nat} : ∀ (ps : List (Nat × Nat)) {S : List Int × List Nat}, XI n m S → a ∈ S.2 → (∀ p, p ∈ ps → p.1 < n ∧ p.2 < m ∧ φ p.1 = p.2) → (∀ x, x ∈ S.2 → S.1[x]?.getD 0 = (φ x : Int)) → ∃ S', exI n zs m ys a ps S = some S' ∧ ∀ x, x ∈ S'.2 → S'.1[x]?.getD 0 = (φ x : Int)
  | [], S, h, ha, hp, hv => ⟨S, rfl, hv⟩
  | p :: ps, S, h, ha, hp, hv => by
    obtain ⟨h1, h2, h3⟩ := hp p (by simp)
    obtain ⟨T, hT, hvT⟩ := exS_hom h ht H ha h1 h3 hv
    obtain ⟨g1, _, _⟩ := exS_grow h ht ha h1 hT
    have hX := (h.step hu ht ha h1 h2 hT).1
    obtain ⟨S', hS', hv'⟩ := exI_hom ht hu H ps hX (g1.mem ha) (fun q hq => hp q (by simp [hq])) hvT
    exact ⟨S', by simp only [exI, hT, hS'], hv'⟩
theorem exO_hom (ht : IsTab n zs) (hu : IsTab m ys) (H : IsHom n zs m ys φ) (hp : ∀ p, p ∈ ps → p.1 < n ∧ p.2 < m ∧ φ p.1 = p.2) : ∀ (f k : Nat) {S : List Int × List Nat}, XI n m S → (∀ x, x ∈ S.2 → S.1[x]?.getD 0 = (φ x : Int)) → ∃ S', exO n zs m ys ps f k S = some S' ∧ ∀ x, x ∈ S'.2 → S'.1[x]?.getD 0 = (φ x : Int)
  | 0, k, S, h, hv => ⟨S, rfl, hv⟩
  | f + 1, k, S, h, hv => by
    cases hk : S.2[k]? with
    | none => exact ⟨S, by simp only [exO, hk], hv⟩
    | some a =>
      have ha : a ∈ S.2 := List.mem_of_getElem? hk
      obtain ⟨T, hT, hvT⟩ := exI_hom ht hu H ps h ha hp hv
      obtain ⟨r1, _⟩ := exI_grow ht hu ps h ha (fun p hq => ⟨(hp p hq).1, (hp p hq).2.1⟩) hT
      obtain ⟨S', hS', hv'⟩ := exO_hom ht hu H hp f (k + 1) r1 hvT
      exact ⟨S', by simp only [exO, hk, hT, hS'], hv'⟩
theorem ext_of_hom (g : IsGrp n zs e) (h : IsGrp m ys d) (H : IsHom n zs m ys φ) (hp : ∀ p, p ∈ ps → p.1 < n ∧ φ p.1 = p.2) : ∃ S, ext n zs e m ys d ps = some S ∧ ∀ x, x ∈ S.2 → S.1[x]?.getD 0 = (φ x : Int) :=
  exO_hom g.tab h.tab H (fun p hq => ⟨(hp p hq).1, by rw [← (hp p hq).2]; exact H.lt _ (hp p hq).1, (hp p hq).2⟩) n 0 (XI.start g.elt h.elt) (fun x hx => by
    have : x = e := by simpa [ex0] using hx
    subst this
    show ((List.replicate n (-1 : Int)).set x (d : Int))[x]?.getD 0 = _
    rw [get_set (by simpa using g.elt), if_pos rfl, IsHom.one g h H])
end
end Go.Proofs.YtmgengplfebmjaaDoor

namespace Go.Proofs.YtmgengplfebmjaaDoor
open Go Go.RowKit

section
variable {n e m d : Nat} {zs ys : List Int} {ks : List Nat} {fit : List Int → Bool} {FP : (Nat → Nat) → Prop}
theorem li_map_inj {φ ψ : Nat → Nat} (h : li ((List.range n).map φ) = li ((List.range n).map ψ)) {a : Nat} (ha : a < n) : φ a = ψ a := by
  have := congrArg (fun l : List Int => l[a]?.getD 0) h
  simp [li, ha] at this
  omega
theorem zip_mem {ks js : List Nat} (hl : js.length ≤ ks.length) {p : Nat × Nat} (hp : p ∈ (ks.take js.length).zip js) : ∃ i, ∃ h : i < js.length, p = (ks[i]'(by omega), js[i]) := by
  obtain ⟨i, hi, he⟩ := List.mem_iff_getElem.1 hp
  have hi2 : i < js.length := by rw [List.length_zip] at hi; omega
  refine ⟨i, hi2, ?_⟩
  rw [← he]
  simp
theorem zip_fst {ks js : List Nat} (hl : js.length ≤ ks.length) : ((ks.take js.length).zip js).map Prod.fst = ks.take js.length := List.map_fst_zip (by rw [List.length_take]; omega)
/-- Which lists all yields: the homomorphisms that fit, and in which the images stand for the makers. -/
theorem homF_mem (g : IsGrp n zs e) (h : IsGrp m ys d) (hk : ∀ k, k ∈ ks → k < n) (hall : ∀ a, a < n → Mkd n zs e (fun x => decide (x ∈ ks)) a)
    (h1 : ∀ φ S (ps : List (Nat × Nat)), IsHom n zs m ys φ → FP φ → (∀ p, p ∈ ps → p.1 < n ∧ φ p.1 = p.2) → ext n zs e m ys d ps = some S → fit S.1 = true)
    (h2 : ∀ φ, IsHom n zs m ys φ → fit (li ((List.range n).map φ)) = true → FP φ) :
    ∀ (f : Nat) (js : List Nat) (L : List Int), js.length ≤ ks.length → ks.length + 1 ≤ f + js.length → (∀ j, j ∈ js → j < m) →
      (L ∈ homF n zs e m ys d ks fit f js ↔ ∃ φ, IsHom n zs m ys φ ∧ FP φ ∧ L = li ((List.range n).map φ) ∧ ∀ i (hi : i < js.length) (hi2 : i < ks.length), φ ks[i] = js[i])
  | 0, js, L, hl, hf, hj => by omega
  | f + 1, js, L, hl, hf, hj => by
    have hp : ∀ p, p ∈ (ks.take js.length).zip js → p.1 < n ∧ p.2 < m := fun p hp => by
      obtain ⟨i, hi, rfl⟩ := zip_mem hl hp
      exact ⟨hk _ (List.getElem_mem _), hj _ (List.getElem_mem _)⟩
    constructor
    · intro hL
      cases hR : ext n zs e m ys d ((ks.take js.length).zip js) with
      | none => rw [homF_none hR] at hL; cases hL
      | some S =>
        cases hfit : fit S.1 with
        | false => rw [homF_unfit hR hfit] at hL; cases hL
        | true =>
          by_cases hle : js.length = ks.length
          · rw [homF_full hR hfit hle] at hL
            have hL : L = S.1 := by simpa using hL
            obtain ⟨H, hS⟩ := ext_hom g h hp hR (by rw [zip_fst hl, hle, List.take_length]; exact hall)
            refine ⟨vl S, H, h2 _ H (by rw [← hS]; exact hfit), by rw [hL]; exact hS, fun i hi hi2 => ?_⟩
            have hm : (ks[i], js[i]) ∈ (ks.take js.length).zip js := by
              rw [hle, List.take_length]
              exact List.mem_iff_getElem.2 ⟨i, by rw [List.length_zip]; omega, by simp⟩
            exact ext_at g h hp hR hm
          · rw [homF_on hR hfit hle] at hL
            obtain ⟨b, hb, hL⟩ := List.mem_flatMap.1 hL
            obtain ⟨φ, H, hF, hLe, hag⟩ := (homF_mem g h hk hall h1 h2 f (js ++ [b]) L (by simp; omega) (by simp; omega) (fun j hjm => by
              rcases List.mem_append.1 hjm with hjm | hjm
              · exact hj j hjm
              · simp at hjm; rw [hjm]; exact List.mem_range.1 hb)).1 hL
            refine ⟨φ, H, hF, hLe, fun i hi hi2 => ?_⟩
            have := hag i (by simp; omega) hi2
            rwa [List.getElem_append_left hi] at this
    · rintro ⟨φ, H, hF, rfl, hag⟩
      have hpφ : ∀ p, p ∈ (ks.take js.length).zip js → p.1 < n ∧ φ p.1 = p.2 := fun p hp => by
        obtain ⟨i, hi, rfl⟩ := zip_mem hl hp
        exact ⟨hk _ (List.getElem_mem _), hag i hi (by omega)⟩
      obtain ⟨S, hR, hv⟩ := ext_of_hom g h H hpφ
      have hfit := h1 φ S _ H hF hpφ hR
      by_cases hle : js.length = ks.length
      · rw [homF_full hR hfit hle]
        obtain ⟨_, hS⟩ := ext_hom g h hp hR (by rw [zip_fst hl, hle, List.take_length]; exact hall)
        obtain ⟨r1, _⟩ := ext_grow g h hp hR
        have hin : ∀ a, a < n → a ∈ S.2 := fun a ha => (ext_made g h hp hR).2 (by rw [zip_fst hl, hle, List.take_length]; exact hall a ha)
        have : li ((List.range n).map φ) = S.1 := by
          rw [hS]
          unfold li
          rw [List.map_map, List.map_map]
          refine List.map_congr_left fun a ha => ?_
          have ha := List.mem_range.1 ha
          have h9 := hv a (hin a ha)
          show (φ a : Int) = (vl S a : Int)
          unfold vl
          omega
        rw [this]
        simp
      · rw [homF_on hR hfit hle]
        have hkl : js.length < ks.length := by omega
        refine List.mem_flatMap.2 ⟨φ ks[js.length], List.mem_range.2 (H.lt _ (hk _ (List.getElem_mem _))), ?_⟩
        refine (homF_mem g h hk hall h1 h2 f (js ++ [φ ks[js.length]]) _ (by simp; omega) (by simp; omega) (fun j hjm => by
          rcases List.mem_append.1 hjm with hjm | hjm
          · exact hj j hjm
          · simp at hjm; rw [hjm]; exact H.lt _ (hk _ (List.getElem_mem _)))).2 ⟨φ, H, hF, rfl, fun i hi hi2 => ?_⟩
        by_cases hij : i < js.length
        · rw [List.getElem_append_left hij]; exact hag i hij hi2
        · have : i = js.length := by simp at hi; omega
          subst this
          simp
theorem nodup_flat {F : Nat → List (List Int)} : ∀ k, (∀ b, b < k → (F b).Nodup) → (∀ b c L, b < k → c < k → L ∈ F b → L ∈ F c → b = c) → ((List.range k).flatMap F).Nodup
  | 0, _, _ => by simp
  | k + 1, h1, h2 => by
    rw [List.range_succ, List.flatMap_append]
    refine List.nodup_append.2 ⟨nodup_flat k (fun b hb => h1 b (by omega)) (fun b c L hb hc => h2 b c L (by omega) (by omega)), by simpa using h1 k (by omega), fun x hx y hy he => ?_⟩
    subst he
    obtain ⟨b, hb, hx⟩ := List.mem_flatMap.1 hx
    have hy : x ∈ F k := by simpa using hy
    have hb := List.mem_range.1 hb
    have := h2 b k x (by omega) (by omega) hx hy
    omega
/-- Each once. -/
theorem homF_nodup (g : IsGrp n zs e) (h : IsGrp m ys d) (hk : ∀ k, k ∈ ks → k < n) (hall : ∀ a, a < n → Mkd n zs e (fun x => decide (x ∈ ks)) a)
    (h1 : ∀ φ S (ps : List (Nat × Nat)), IsHom n zs m ys φ → FP φ → (∀ p, p ∈ ps → p.1 < n ∧ φ p.1 = p.2) → ext n zs e m ys d ps = some S → fit S.1 = true)
    (h2 : ∀ φ, IsHom n zs m ys φ → fit (li ((List.range n).map φ)) = true → FP φ) :
    ∀ (f : Nat) (js : List Nat), js.length ≤ ks.length → ks.length + 1 ≤ f + js.length → (∀ j, j ∈ js → j < m) → (homF n zs e m ys d ks fit f js).Nodup
  | 0, js, hl, hf, hj => by omega
  | f + 1, js, hl, hf, hj => by
    cases hR : ext n zs e m ys d ((ks.take js.length).zip js) with
    | none => rw [homF_none hR]; simp
    | some S =>
      cases hfit : fit S.1 with
      | false => rw [homF_unfit hR hfit]; simp
      | true =>
        by_cases hle : js.length = ks.length
        · rw [homF_full hR hfit hle]; simp
        · rw [homF_on hR hfit hle]
          have hkl : js.length < ks.length := by omega
          have hjb : ∀ b, b < m → ∀ j, j ∈ js ++ [b] → j < m := fun b hb j hjm => by
            rcases List.mem_append.1 hjm with hjm | hjm
            · exact hj j hjm
            · simp at hjm; rw [hjm]; exact hb
          refine nodup_flat m (fun b hb => homF_nodup g h hk hall h1 h2 f (js ++ [b]) (by simp; omega) (by simp; omega) (hjb b hb)) (fun b c L hb hc hLb hLc => ?_)
          obtain ⟨φ, _, _, e1, a1⟩ := (homF_mem g h hk hall h1 h2 f (js ++ [b]) L (by simp; omega) (by simp; omega) (hjb b hb)).1 hLb
          obtain ⟨ψ, _, _, e2, a2⟩ := (homF_mem g h hk hall h1 h2 f (js ++ [c]) L (by simp; omega) (by simp; omega) (hjb c hc)).1 hLc
          have h9 := a1 js.length (by simp) hkl
          have h8 := a2 js.length (by simp) hkl
          have h7 := li_map_inj (e1.symm.trans e2) (hk _ (List.getElem_mem hkl))
          simp at h9 h8
          omega
end
end Go.Proofs.YtmgengplfebmjaaDoor

namespace Go.Proofs.YtmgengplfebmjaaDoor
open Go Go.RowKit

section
variable {n e m d : Nat} {zs ys : List Int} {ps : List (Nat × Nat)} {M0 M : List Int} {again : Bool} {a i : Nat}
/-- How many are not known yet. -/
def neg (M : List Int) : Nat := (M.filter fun x => decide (x < 0)).length
theorem neg_set : ∀ {M : List Int} {c : Nat} {z : Int}, c < M.length → M[c]?.getD 0 < 0 → 0 ≤ z → neg (M.set c z) < neg M
  | [], c, z, h, _, _ => by simp at h
  | x :: M, 0, z, h, h1, h2 => by
    have h1 : x < 0 := by simpa using h1
    simp only [neg, List.set_cons_zero, List.filter_cons, decide_eq_true h1, if_true, List.length_cons]
    rw [if_neg (by simp; omega)]
    omega
  | x :: M, c + 1, z, h, h1, h2 => by
    have h9 := neg_set (M := M) (c := c) (z := z) (by simpa using h) (by simpa using h1) h2
    simp only [neg] at h9
    simp only [neg, List.set_cons_succ, List.filter_cons]
    split <;> simp <;> omega
/-- A homomorphism in which images stand for makers. -/
def Leads (n : Nat) (zs : List Int) (m : Nat) (ys : List Int) (ps : List (Nat × Nat)) (φ : Nat → Nat) : Prop := IsHom n zs m ys φ ∧ ∀ p, p ∈ ps → φ p.1 = p.2
/-- How the document's search stands. -/
structure Spd (n : Nat) (zs : List Int) (e m : Nat) (ys : List Int) (d : Nat) (ps : List (Nat × Nat)) (M0 M : List Int) (again : Bool) (a i : Nat) : Prop where
  len : M.length = n
  val : ∀ x, x < n → M[x]?.getD 0 = -1 ∨ (0 ≤ M[x]?.getD 0 ∧ M[x]?.getD 0 < m)
  one : M[e]?.getD 0 = d
  hom : ∀ φ, Leads n zs m ys ps φ → ∀ x, x < n → 0 ≤ M[x]?.getD 0 → M[x]?.getD 0 = (φ x : Int)
  more : again = true → neg M < neg M0
  same : again = false → M = M0
  done : again = false → ∀ x k p, x < n → ps[k]? = some p → (x < a ∨ (x = a ∧ k < i)) → 0 ≤ M[x]?.getD 0 → M[tm n zs p.1 x]?.getD 0 = (tm m ys p.2 (M[x]?.getD 0).toNat : Int)
theorem Spd.start (h : Spd n zs e m ys d ps M0 M again a i) : Spd n zs e m ys d ps M M false 0 0 :=
  ⟨h.len, h.val, h.one, h.hom, fun h => (by cases h), fun _ => rfl, fun _ _ _ _ _ _ h => by omega⟩
theorem Spd.begin (g : IsGrp n zs e) (h : IsGrp m ys d) : Spd n zs e m ys d ps ((List.replicate n (-1)).set e (d : Int)) ((List.replicate n (-1)).set e (d : Int)) false 0 0 := by
  have hat : ∀ x, x < n → ((List.replicate n (-1 : Int)).set e (d : Int))[x]?.getD 0 = if x = e then (d : Int) else -1 := fun x hx => by
    rw [get_set (by simpa using g.elt)]
    split
    · rfl
    · simp [hx]
  refine ⟨by simp, fun x hx => ?_, by rw [hat e g.elt, if_pos rfl], fun φ hφ x hx h0 => ?_, fun h => (by cases h), fun _ => rfl, fun _ _ _ _ _ _ h => by omega⟩
  · rw [hat x hx]
    have := h.elt
    split
    · right; omega
    · left; rfl
  · rw [hat x hx] at h0 ⊢
    split at h0
    · rename_i he
      subst he
      rw [if_pos rfl, IsHom.one g h hφ.1]
    · omega
theorem Spd.skip (h : Spd n zs e m ys d ps M0 M again a i) (hno : ∀ p, ps[i]? = some p → 0 ≤ M[a]?.getD 0 → M[tm n zs p.1 a]?.getD 0 = (tm m ys p.2 (M[a]?.getD 0).toNat : Int)) : Spd n zs e m ys d ps M0 M again a (i + 1) :=
  ⟨h.len, h.val, h.one, h.hom, h.more, h.same, fun hag x k p hx hk hxk h1 => by
    by_cases e9 : x = a ∧ k = i
    · obtain ⟨rfl, rfl⟩ := e9; exact hno p hk h1
    · exact h.done hag x k p hx hk (by omega) h1⟩
theorem Spd.row (h : Spd n zs e m ys d ps M0 M again a i) (hi : ps.length ≤ i ∨ M[a]?.getD 0 < 0) : Spd n zs e m ys d ps M0 M again (a + 1) 0 :=
  ⟨h.len, h.val, h.one, h.hom, h.more, h.same, fun hag x k p hx hk hxk h1 => by
    have hkl := (List.getElem?_eq_some_iff.1 hk).1
    by_cases hxa : x = a
    · subst hxa; exact h.done hag x k p hx hk (by omega) h1
    · exact h.done hag x k p hx hk (by omega) h1⟩
theorem Leads.at {φ : Nat → Nat} (H : Leads n zs m ys ps φ) {p : Nat × Nat} (hp : p ∈ ps) (h1 : p.1 < n) (ha : a < n) : φ (tm n zs p.1 a) = tm m ys p.2 (φ a) := by
  rw [H.1.mul _ _ h1 ha, H.2 p hp]
theorem Spd.put (ht : IsTab n zs) (hu : IsTab m ys) (h : Spd n zs e m ys d ps M0 M again a i) {p : Nat × Nat} (hp : p ∈ ps) (h1 : p.1 < n) (h2 : p.2 < m) (ha : a < n) (h0 : 0 ≤ M[a]?.getD 0) (hn : M[tm n zs p.1 a]?.getD 0 < 0) : Spd n zs e m ys d ps M0 (M.set (tm n zs p.1 a) (tm m ys p.2 (M[a]?.getD 0).toNat : Int)) true a (i + 1) := by
  have hb := tm_lt ht h1 ha
  have hy : tm m ys p.2 (M[a]?.getD 0).toNat < m := tm_lt hu h2 (by have := h.val a ha; omega)
  have hat : ∀ x, (M.set (tm n zs p.1 a) (tm m ys p.2 (M[a]?.getD 0).toNat : Int))[x]?.getD 0 = if x = tm n zs p.1 a then (tm m ys p.2 (M[a]?.getD 0).toNat : Int) else M[x]?.getD 0 := fun x => get_set (by rw [h.len]; exact hb)
  refine ⟨by simp [h.len], fun x hx => ?_, ?_, fun φ H x hx h9 => ?_, fun _ => ?_, fun h => (by cases h), fun h => by cases h⟩
  · rw [hat]
    split
    · right; omega
    · exact h.val x hx
  · rw [hat, if_neg, h.one]
    intro he
    rw [← he, h.one] at hn
    omega
  · rw [hat] at h9 ⊢
    by_cases hx9 : x = tm n zs p.1 a
    · rw [if_pos hx9, hx9, H.at hp h1 ha]
      have := h.hom φ H a ha h0
      rw [this, Int.toNat_natCast]
    · rw [if_neg hx9] at h9 ⊢
      exact h.hom φ H x hx h9
  · have hl := neg_set (M := M) (c := tm n zs p.1 a) (z := (tm m ys p.2 (M[a]?.getD 0).toNat : Int)) (by rw [h.len]; exact hb) hn (by omega)
    cases hag : again
    · rw [← h.same hag]; exact hl
    · have := h.more hag; omega
theorem Spd.clash (ht : IsTab n zs) (h : Spd n zs e m ys d ps M0 M again a i) {p : Nat × Nat} (hp : p ∈ ps) (h1 : p.1 < n) (ha : a < n) (h0 : 0 ≤ M[a]?.getD 0) (hn : ¬ M[tm n zs p.1 a]?.getD 0 < 0) (hne : ¬ M[tm n zs p.1 a]?.getD 0 = (tm m ys p.2 (M[a]?.getD 0).toNat : Int)) (φ : Nat → Nat) : ¬ Leads n zs m ys ps φ := fun H => by
  have e1 := h.hom φ H a ha h0
  have e2 := h.hom φ H _ (tm_lt ht h1 ha) (by omega)
  apply hne
  rw [e2, H.at hp h1 ha, e1, Int.toNat_natCast]
theorem Spd.fin (g : IsGrp n zs e) (hh : IsGrp m ys d) (h : Spd n zs e m ys d ps M0 M false a i) (ha : n ≤ a) (hp : ∀ p, p ∈ ps → p.1 < n ∧ p.2 < m) (hall : ∀ x, x < n → Mkd n zs e (fun x => decide (x ∈ ps.map Prod.fst)) x) : ∃ φ, Leads n zs m ys ps φ ∧ M = li ((List.range n).map φ) := by
  let f : Nat → Nat := fun x => (M[x]?.getD 0).toNat
  have hfd : f e = d := by show (M[e]?.getD 0).toNat = d; rw [h.one]; simp
  have hfl : ∀ x, x < n → 0 ≤ M[x]?.getD 0 → f x < m ∧ M[x]?.getD 0 = (f x : Int) := fun x hx h0 => by
    have := h.val x hx
    show (M[x]?.getD 0).toNat < m ∧ M[x]?.getD 0 = ((M[x]?.getD 0).toNat : Int)
    omega
  have hst : ∀ p, p ∈ ps → ∀ x, x < n → 0 ≤ M[x]?.getD 0 → 0 ≤ M[tm n zs p.1 x]?.getD 0 ∧ f (tm n zs p.1 x) = tm m ys p.2 (f x) := fun p hpm x hx h0 => by
    obtain ⟨k, hk⟩ := List.mem_iff_getElem?.1 hpm
    have := h.done rfl x k p hx hk (by omega) h0
    refine ⟨by rw [this]; omega, ?_⟩
    show (M[tm n zs p.1 x]?.getD 0).toNat = _
    rw [this, Int.toNat_natCast]
  have hone : 0 ≤ M[e]?.getD 0 := by rw [h.one]; omega
  have hbase : ∀ p, p ∈ ps → 0 ≤ M[p.1]?.getD 0 ∧ f p.1 = p.2 := fun p hpm => by
    have h9 := hst p hpm e g.elt hone
    rw [g.right p.1 (hp p hpm).1, hfd, hh.right p.2 (hp p hpm).2] at h9
    exact h9
  have S : Fin.Sg (List.range n) (tm n zs) e (fun y => y ∈ List.range n → 0 ≤ M[y]?.getD 0 ∧ ∀ x, x < n → 0 ≤ M[x]?.getD 0 → 0 ≤ M[tm n zs y x]?.getD 0 ∧ f (tm n zs y x) = tm m ys (f y) (f x)) := by
    refine ⟨fun _ => ⟨hone, fun x hx h0 => ?_⟩, fun u v hu hv h1 h2 _ => ?_⟩
    · rw [g.left x hx, hfd, hh.left _ (hfl x hx h0).1]
      exact ⟨h0, rfl⟩
    · obtain ⟨u1, u2⟩ := h1 hu
      obtain ⟨v1, v2⟩ := h2 hv
      have hu := List.mem_range.1 hu
      have hv := List.mem_range.1 hv
      obtain ⟨p1, p2⟩ := u2 v hv v1
      refine ⟨p1, fun x hx h0 => ?_⟩
      obtain ⟨q1, q2⟩ := v2 x hx h0
      obtain ⟨r1, r2⟩ := u2 _ (tm_lt g.tab hv hx) q1
      rw [g.ass u v x hu hv hx]
      refine ⟨r1, ?_⟩
      rw [r2, q2, p2, hh.ass _ _ _ (hfl u hu u1).1 (hfl v hv v1).1 (hfl x hx h0).1]
  have hS : ∀ y, y < n → 0 ≤ M[y]?.getD 0 ∧ ∀ x, x < n → 0 ≤ M[x]?.getD 0 → 0 ≤ M[tm n zs y x]?.getD 0 ∧ f (tm n zs y x) = tm m ys (f y) (f x) := fun y hy => hall y hy _ S (fun z hz hq _ => by
    obtain ⟨p, hpm, rfl⟩ := List.mem_map.1 (of_decide_eq_true hq)
    refine ⟨(hbase p hpm).1, fun x hx h0 => ?_⟩
    rw [(hbase p hpm).2]
    exact hst p hpm x hx h0) (List.mem_range.2 hy)
  refine ⟨f, ⟨⟨fun x hx => (hfl x hx (hS x hx).1).1, fun x y hx hy => ((hS x hx).2 y hy (hS y hy).1).2⟩, fun p hpm => (hbase p hpm).2⟩, ?_⟩
  apply List.ext_getElem
  · rw [h.len]; simp [li]
  · intro j h1 h2
    rw [h.len] at h1
    have := (hfl j h1 (hS j h1).1).2
    rw [List.getElem?_eq_getElem (by rw [h.len]; exact h1), Option.getD_some] at this
    rw [this]
    simp [li]
end
end Go.Proofs.YtmgengplfebmjaaDoor

namespace Go.Proofs.YtmgengplfebmjaaDoor
open Go Go.RowKit

theorem rpl_set {x : Int} {n k : Nat} (h : k < n) : (rpl x n k).set k x = rpl x n (k + 1) := by
  unfold rpl
  rw [List.set_append_right _ _ (by simp)]
  obtain ⟨j, hj⟩ : ∃ j, n - k = j + 1 := ⟨n - k - 1, by omega⟩
  rw [hj, List.length_replicate, Nat.sub_self, List.replicate_succ, List.set_cons_zero, show n - (k + 1) = j by omega, List.replicate_succ' (n := k), List.append_assoc]
  rfl
/-- How many of a block's cells are below nought. -/
def cntN (ib : Nat) (W : World) : Nat := match W.heap[ib]? with
  | some (.cells c _ _) => (c.toList.filter fun v => match v with | .int _ z => decide (z < 0) | _ => false).length
  | _ => 0
theorem cntN_blk {ib : Nat} {M : List Int} {W : World} (h : Blk W ib 3 (M.map (Value.int .i64))) : cntN ib W = neg M := by
  unfold cntN
  rw [show W.heap[ib]? = _ from h]
  unfold neg
  simp only [List.filter_map, List.length_map]
  rfl
/-- What lies there all the while. -/
structure SdS (w wr : World) (n : Nat) (v : Value) (m : Nat) (y : Value) (M : List Int) : Prop where
  bg : BoxG wr w.heap.size n v
  bh : BoxG wr (w.heap.size + 1) m y
  mm : Blk wr (w.heap.size + 2) 3 (M.map (Value.int .i64))
  bel : Below w.heap.size w wr
section
variable {w wr : World} {n m : Nat} {v y : Value} {M : List Int}
theorem SdS.below {W : World} (h : SdS w wr n v m y M) (hb : Below wr.heap.size wr W) : SdS w W n v m y M := ⟨blk_below h.bg hb, blk_below h.bh hb, blk_below h.mm hb, bcat2 h.bel hb⟩
theorem SdS.put (h : SdS w wr n v m y M) (c : Nat) (i : Int) : SdS w (wr.setCell ⟨w.heap.size + 2, c, none⟩ (.int .i64 i)) n v m y (M.set c i) :=
  ⟨h.bg.other (p := ⟨w.heap.size + 2, c, none⟩) (by simp) _, h.bh.other (p := ⟨w.heap.size + 2, c, none⟩) (by simp) _, h.mm.setInt c i, h.bel.setCell (p := ⟨w.heap.size + 2, c, none⟩) (by simp) _⟩
theorem SdS.cells (h : SdS w wr n v m y M) : wr.cell? ⟨w.heap.size, 0, none⟩ = some (.int .i64 n) ∧ wr.cell? ⟨w.heap.size, 1, none⟩ = some v ∧ wr.cell? ⟨w.heap.size + 1, 0, none⟩ = some (.int .i64 m) ∧ wr.cell? ⟨w.heap.size + 1, 1, none⟩ = some y := ⟨h.bg.two.1, h.bg.two.2.1, h.bh.two.1, h.bh.two.2.1⟩
end
set_option maxRecDepth 100000 in
set_option maxHeartbeats 8000000 in
theorem spread_ok (n e m d : Nat) (v y kv iv : Value) (zs ys : List Int) (ps : List (Nat × Nat)) (w : World) (hg : IsGrp n zs e) (hh : IsGrp m ys d) (hv : Sl w v zs) (hy : Sl w y ys) (hk : Sl w kv (li (ps.map Prod.fst))) (hi : Sl w iv (li (ps.map Prod.snd))) (hp : ∀ p, p ∈ ps → p.1 < n ∧ p.2 < m) (hall : ∀ x, x < n → Mkd n zs e (fun x => decide (x ∈ ps.map Prod.fst)) x) :
    Calls Tryd.prog 24 #[.agg #[.int .i64 n, v], .agg #[.int .i64 m, y], kv, iv] w fun x w' => Below w.heap.size w w' ∧ ((x = .returned (.slice none 0 0) ∧ ∀ φ, ¬ Leads n zs m ys ps φ) ∨ ∃ φ g, Leads n zs m ys ps φ ∧ x = .returned (.slice (some ⟨g, 0, none⟩) n n) ∧ w.heap.size ≤ g ∧ Blk w' g 3 ((li ((List.range n).map φ)).map (Value.int .i64))) := by
  obtain ⟨i0, hi3, hz0, hz1, hz2⟩ := info_parts info3b
  have hn := hg.tab.le
  have hen := hg.elt
  have hdm := hh.elt
  have hm := hh.tab.le
  obtain ⟨w0, hw0⟩ : ∃ w0, w0 = (w.alloc (.cells #[.int .i64 n, v] 24)).alloc (.cells #[.int .i64 m, y] 24) := ⟨_, rfl⟩
  have hB0 : Below w.heap.size w w0 := by rw [hw0]; exact (balloc w _).alloc (by simp) _
  have hG0 : BoxG w0 w.heap.size n v := by rw [hw0]; exact Blk.alloc (blk0 _ _) _
  have hH0 : BoxG w0 (w.heap.size + 1) m y := by
    rw [hw0]
    have := blk0 (w := w.alloc (.cells #[.int .i64 n, v] 24)) (T := 24) (.int .i64 m) y
    rwa [World.size_alloc] at this
  have hs0 : w0.heap.size = w.heap.size + 2 := by rw [hw0]; simp
  obtain ⟨c0, c1, _, _⟩ := hG0.two
  have HE1 := hide (fun W (h : Below w.heap.size w W) => E_ok n v zs W hg.tab (hv.below h))
  have HE2 := hide (fun W (h : Below w.heap.size w W) => E_ok m y ys W hh.tab (hy.below h))
  rw [hg.one] at HE1
  rw [hh.one] at HE2
  have HM1 := hide (fun W a b (h : Below w.heap.size w W) (ha : a < n) (hb : b < n) => M_ok n v zs a b W hg.tab (hv.below h) ha hb)
  have HM2 := hide (fun W a b (h : Below w.heap.size w W) (ha : a < m) (hb : b < m) => M_ok m y ys a b W hh.tab (hy.below h) ha hb)
  obtain ⟨ka, kc, kb, ko, rfl, hkr, hkb, hk3, hk4⟩ := hk
  obtain ⟨ia, ic, ib, io, rfl, hir, hib, _, _⟩ := hi
  have hl1 : (li (ps.map Prod.fst)).length = ps.length := by rw [li_len, List.length_map]
  have hl2 : (li (ps.map Prod.snd)).length = ps.length := by rw [li_len, List.length_map]
  have hpl : ps.length ≤ 9223372036854775807 := by rw [hl1] at hk3; unfold maxLen at hk4; omega
  have HKA := hide (fun (h : 0 < ps.length) => hkr.at_ (by omega))
  have HIA := hide (fun (h : 0 < ps.length) => hir.at_ (by omega))
  have HKC := hide (fun j (h : j < ps.length) => show w.cell? ⟨kb, ko + j, none⟩ = some (.int .i64 (ps[j].1 : Int)) by
    have := hkr.cell j (by omega)
    rwa [li_get (by simpa using h), List.getElem_map] at this)
  have HIC := hide (fun j (h : j < ps.length) => show w.cell? ⟨ib, io + j, none⟩ = some (.int .i64 (ps[j].2 : Int)) by
    have := hir.cell j (by omega)
    rwa [li_get (by simpa using h), List.getElem_map] at this)
  rw [hl1, hl2] at *
  clear hkr hir hl1 hl2
  have HP := hide hp
  have HALL := hide hall
  have HBEG := hide (Spd.begin (ps := ps) hg hh)
  clear hp hall
  rw [hw0] at c0 c1
  go_enter Tryd.func24, Tryd.ntmps24
  go_wp2_with (first
    | (at_make; refine wpList_make_full _ rfl _ _ 22 rfl (w.heap.size + 2) 3 i0 (.int .i64 0) 1 under22b hi3 hz0 hz1 _ _ _ _ n rfl rfl rfl rfl (by rw [hz2]; omega) (by unfold maxLen; omega) (by simp) ?_))
  rw [← hw0]
  intro w2 hown hgr
  have hM2 : Blk w2 (w.heap.size + 2) 3 ((rpl (-1) n 0).map (Value.int .i64)) := by
    have := Blk.of_owns hown
    rw [made_rep] at this
    rw [rpl_map]
    simpa using this
  have hQ2 : SdS w w2 n v m y (rpl (-1) n 0) := ⟨hG0.grown hgr (by simp), hH0.grown hgr (by simp), hM2, hB0.grown hgr hB0.size (by simp)⟩
  clear hown hgr c0 c1 hG0 hH0 hB0 hM2 hw0 hs0
  go_wp2
  go_loopw [10] (fun i wr => ∃ k : Nat, k ≤ n ∧ i = .int .i64 k ∧ SdS w wr n v m y (rpl (-1) n k)) (fun i _ => n - (intOf i).toNat)
  case atStart => exact ⟨0, Nat.zero_le _, rfl, hQ2⟩
  case round =>
    obtain ⟨k, hk, rfl, hQ⟩ := hrel
    clear hQ2
    obtain ⟨c0, c1, c2, c3⟩ := hQ.cells
    by_cases hlt : k < n
    · have hki : (k : Int) < (n : Int) := by omega
      have hck := hQ.mm.int (y := k) (by rw [rpl_len hk]; exact hlt)
      have hfk := hQ.mm.frozen k
      have hP := hQ.put k (-1)
      rw [rpl_set hlt] at hP
      go_wp2
      go_roundw
      case rel => exact ⟨k + 1, by omega, by go_num, hP⟩
      case measure => simp [intOf]; omega
    · have hkn : n = k := by omega
      subst hkn
      have hrp : rpl (-1) n n = List.replicate n (-1) := by unfold rpl; simp
      rw [hrp] at hQ
      have hei : (e : Int) < (n : Int) := by omega
      have hS : ∀ U, Below wr.heap.size wr U → (Below w.heap.size w U ∧ U.cell? ⟨w.heap.size, 0, none⟩ = some (.int .i64 n) ∧ U.cell? ⟨w.heap.size, 1, none⟩ = some v ∧ U.cell? ⟨w.heap.size + 1, 0, none⟩ = some (.int .i64 m) ∧ U.cell? ⟨w.heap.size + 1, 1, none⟩ = some y) := fun U hU => ⟨(hQ.below hU).bel, (hQ.below hU).cells⟩
      have hS3 : ∀ U, Below wr.heap.size wr U → (Below w.heap.size w (U.setCell ⟨w.heap.size + 2, e, none⟩ (.int .i64 d)) ∧ (U.setCell ⟨w.heap.size + 2, e, none⟩ (.int .i64 d)).cell? ⟨w.heap.size, 0, none⟩ = some (.int .i64 n) ∧ (U.setCell ⟨w.heap.size + 2, e, none⟩ (.int .i64 d)).cell? ⟨w.heap.size, 1, none⟩ = some v ∧ (U.setCell ⟨w.heap.size + 2, e, none⟩ (.int .i64 d)).cell? ⟨w.heap.size + 1, 0, none⟩ = some (.int .i64 m) ∧ (U.setCell ⟨w.heap.size + 2, e, none⟩ (.int .i64 d)).cell? ⟨w.heap.size + 1, 1, none⟩ = some y) := fun U hU => ⟨((hQ.below hU).put e d).bel, ((hQ.below hU).put e d).cells⟩
      have hS0 := hS _ (bdrew (Below.refl _ wr))
      have hk1 : Hid True := trivial
      go_wp2_with fail
      clear c0 c1 c2 c3
      go_region_held3 (fun U => Below w.heap.size w U ∧ U.cell? ⟨w.heap.size, 0, none⟩ = some (.int .i64 n) ∧ U.cell? ⟨w.heap.size, 1, none⟩ = some v ∧ U.cell? ⟨w.heap.size + 1, 0, none⟩ = some (.int .i64 m) ∧ U.cell? ⟨w.heap.size + 1, 1, none⟩ = some y)
        (first | exact hS0 | assumption | exact hS3 _ hx2 | exact hS _ hx2 | exact hS _ hx1)
        (first
          | (go_at_call 58; clear hk1; refine (HE1.out _ (And.left ‹_›)).mono ?_; rintro e1 U1 ⟨rfl, hl1⟩; have hx1 := undrew' hl1)
          | (go_at_call 58; refine (HE2.out _ (And.left ‹_›)).mono ?_; rintro e2 U2 ⟨rfl, hl2⟩; have hx2 := bcat2 hx1 hl2; have hc1 := (hQ.below hx2).mm.int (y := e) (by simpa using hen); have hf1 := (hQ.below hx2).mm.frozen e))
      all_goals (
        have hP9 := (hQ.below hx2).put e d
        clear hS hS3 hS0 hc1 hf1
        generalize U2.setCell ⟨w.heap.size + 2, e, none⟩ (.int .i64 d) = w4 at *
        clear hx2 hx1 hl1 hl2 hQ)
      have hb0 := HBEG.out
      generalize (List.replicate n (-1)).set e (d : Int) = M1 at hP9 hb0
      go_wp2
      go_loopw [11] (fun s wr => ∃ (ag : Bool) (M : List Int), s = .bool ag ∧ SdS w wr n v m y M ∧ Spd n zs e m ys d ps M M false 0 0 ∧ (ag = false → ∃ φ, Leads n zs m ys ps φ ∧ M = li ((List.range n).map φ))) (fun s wr => if boolOf s then cntN (w.heap.size + 2) wr + 1 else 0)
      case atStart => exact ⟨true, M1, rfl, hP9, hb0, fun h => by cases h⟩
      case round =>
        clear hP9 hb0
        obtain ⟨ag, M0, rfl, hZ0, hN0, hfin⟩ := hrel
        have HCN := hide (cntN_blk hZ0.mm)
        cases ag with
        | false =>
          obtain ⟨φ, hφ, rfl⟩ := hfin rfl
          go_wp2
          go_ret
          refine ⟨hZ0.bel, .inr ⟨φ, hφ, ?_⟩⟩
          exact ⟨w.heap.size + 2, rfl, by omega, hZ0.mm⟩
        | true =>
          clear hfin
          go_wp2
          go_loopw [11, 12] (fun s i wx => ∃ (ag' : Bool) (M : List Int) (a : Nat), a ≤ n ∧ s = .bool ag' ∧ i = .int .i64 a ∧ SdS w wx n v m y M ∧ Spd n zs e m ys d ps M0 M ag' a 0) (fun _ i _ => n - (intOf i).toNat)
          case atStart => exact ⟨false, M0, 0, by omega, rfl, rfl, hZ0, hN0⟩
          case round =>
            clear hZ0 hN0
            obtain ⟨ag', M, a, ha, rfl, rfl, hZ, hN⟩ := hrel
            obtain ⟨c0, c1, c2, c3⟩ := hZ.cells
            by_cases hla : a < n
            · have hai : (a : Int) < (n : Int) := by omega
              go_wp2
              clear c0 c1 c2 c3
              go_loopw [11, 13] (fun s i wx => ∃ (ag' : Bool) (M : List Int) (j : Nat), j ≤ ps.length ∧ s = .bool ag' ∧ i = .int .i64 j ∧ SdS w wx n v m y M ∧ Spd n zs e m ys d ps M0 M ag' a j) (fun _ i _ => ps.length - (intOf i).toNat)
              case atStart => exact ⟨ag', M, 0, Nat.zero_le _, rfl, rfl, hZ, hN⟩
              case round =>
                clear hZ hN
                obtain ⟨ag', M, j, hj, rfl, rfl, hZ, hN⟩ := hrel
                obtain ⟨c0, c1, c2, c3⟩ := hZ.cells
                have hca := hZ.mm.int (y := a) (by rw [hN.len]; exact hla)
                by_cases hlj : j < ps.length
                · have hji : (j : Int) < (ps.length : Int) := by omega
                  by_cases hneg : M[a]?.getD 0 < 0
                  · have hm1 : M[a]?.getD 0 = -1 := by have := hN.val a hla; omega
                    have HNR := hide (hN.row (.inr hneg))
                    rw [hm1] at hca
                    clear hm1 hneg hN
                    go_wp2
                    go_roundw
                    case rel => exact ⟨ag', M, a + 1, by omega, rfl, by go_num, hZ, HNR.out⟩
                    case measure => simp [intOf]; omega
                  · obtain ⟨q, hq⟩ : ∃ q, ps[j]? = some q := ⟨_, List.getElem?_eq_getElem hlj⟩
                    have hql : ps[j] = q := by rw [List.getElem?_eq_getElem hlj] at hq; exact Option.some.inj hq
                    have hqm := List.mem_of_getElem? hq
                    obtain ⟨hp1, hp2⟩ := HP.out q hqm
                    have hck := below_cell hZ.bel (HKC.out j hlj)
                    have hci := below_cell hZ.bel (HIC.out j hlj)
                    rw [hql] at hck hci
                    obtain rfl := HKA.out (by omega)
                    obtain rfl := HIA.out (by omega)
                    have h0 : 0 ≤ M[a]?.getD 0 := by omega
                    have hea : M[a]?.getD 0 = ((M[a]?.getD 0).toNat : Int) := by omega
                    have hfa : (M[a]?.getD 0).toNat < m := by have := hN.val a hla; omega
                    have hbn := tm_lt hg.tab hp1 hla
                    have hcb := hZ.mm.int (y := tm n zs q.1 a) (by rw [hN.len]; exact hbn)
                    have HSK := hide (fun (h : M[tm n zs q.1 a]?.getD 0 = (tm m ys q.2 (M[a]?.getD 0).toNat : Int)) => hN.skip (fun p hp' _ => by rw [hq] at hp'; obtain rfl := Option.some.inj hp'; exact h))
                    have HPU := hide (fun (h : M[tm n zs q.1 a]?.getD 0 < 0) => hN.put hg.tab hh.tab hqm hp1 hp2 hla h0 h)
                    have HCL := hide (fun (h : ¬ M[tm n zs q.1 a]?.getD 0 < 0) (h2 : ¬ M[tm n zs q.1 a]?.getD 0 = (tm m ys q.2 (M[a]?.getD 0).toNat : Int)) => hN.clash hg.tab hqm hp1 hla h0 h h2)
                    have HQ1 := hide (fun W (h : Below w.heap.size w W) => HM1.out W q.1 a h hp1 hla)
                    have HQ2 := hide (fun W (h : Below w.heap.size w W) => HM2.out W q.2 _ h hp2 hfa)
                    rw [hea] at hca
                    have HN := hide hN
                    clear hea h0 hneg hN hq hql hqm
                    generalize (M[a]?.getD 0).toNat = fa at *
                    generalize hzz : M[tm n zs q.1 a]?.getD 0 = z at *
                    generalize tm m ys q.2 fa = im at *
                    generalize tm n zs q.1 a = b at *
                    obtain ⟨pk, pi⟩ := q
                    simp only at hck hci HQ1 HQ2 hp1 hp2
                    clear hzz
                    have hbi : (b : Int) < (n : Int) := by omega
                    have hfi : (0 : Int) ≤ (fa : Int) := by omega
                    have HZ := hide hZ
                    have hBw := hZ.bel
                    have hS' : ∀ W, Below wr.heap.size wr W → (Below wr.heap.size wr W ∧ W.cell? ⟨w.heap.size, 0, none⟩ = some (.int .i64 n) ∧ W.cell? ⟨w.heap.size, 1, none⟩ = some v ∧ W.cell? ⟨kb, ko + j, none⟩ = some (.int .i64 (pk : Int))) := fun W h => ⟨h, below_cell h c0, below_cell h c1, below_cell h hck⟩
                    have hS1 := hS' _ (bdrew (Below.refl _ wr))
                    go_wp2_with fail
                    clear hck c0 c1 hZ
                    go_region_held3 (fun W => Below wr.heap.size wr W ∧ W.cell? ⟨w.heap.size, 0, none⟩ = some (.int .i64 n) ∧ W.cell? ⟨w.heap.size, 1, none⟩ = some v ∧ W.cell? ⟨kb, ko + j, none⟩ = some (.int .i64 (pk : Int)))
                      (first | exact hS1 | assumption | exact hS' _ (bcat2 (And.left ‹_›) hl1))
                      (first | (go_at_call 59; refine (HQ1.out _ (bcat2 hBw (And.left ‹_›))).mono ?_; rintro e1 U1 ⟨rfl, hl1⟩))
                    have hb1 := And.left ‹Below wr.heap.size wr U1 ∧ _›
                    have hZ1 := HZ.out.below hb1
                    have hci1 := below_cell hb1 hci
                    have hca1 := below_cell hb1 hca
                    have hcb1 := below_cell hb1 hcb
                    obtain ⟨c0, c1, c2, c3⟩ := hZ1.cells
                    clear hS' hS1 hl1 hb1 hci hca hcb
                    have HZ1 := hide hZ1
                    have hBw1 := hZ1.bel
                    clear HZ hBw
                    have hS' : ∀ W, Below U1.heap.size U1 W → (Below U1.heap.size U1 W ∧ W.cell? ⟨w.heap.size + 1, 0, none⟩ = some (.int .i64 m) ∧ W.cell? ⟨w.heap.size + 1, 1, none⟩ = some y ∧ W.cell? ⟨ib, io + j, none⟩ = some (.int .i64 (pi : Int)) ∧ W.cell? ⟨w.heap.size + 2, a, none⟩ = some (.int .i64 (fa : Int))) := fun W h => ⟨h, below_cell h c2, below_cell h c3, below_cell h hci1, below_cell h hca1⟩
                    have hS1 := hS' _ (bdrew (Below.refl _ U1))
                    go_wp2_with fail
                    clear hci1 hca1 c0 c1 c2 c3 hZ1
                    go_region_held3 (fun W => Below U1.heap.size U1 W ∧ W.cell? ⟨w.heap.size + 1, 0, none⟩ = some (.int .i64 m) ∧ W.cell? ⟨w.heap.size + 1, 1, none⟩ = some y ∧ W.cell? ⟨ib, io + j, none⟩ = some (.int .i64 (pi : Int)) ∧ W.cell? ⟨w.heap.size + 2, a, none⟩ = some (.int .i64 (fa : Int)))
                      (first | exact hS1 | assumption | exact hS' _ (bcat2 (And.left ‹_›) hl1))
                      (first | (go_at_call 59; refine (HQ2.out _ (bcat2 hBw1 (And.left ‹_›))).mono ?_; rintro e2 U2 ⟨rfl, hl1⟩))
                    have hb2 := And.left ‹Below U1.heap.size U1 U2 ∧ _›
                    have hZ2 := HZ1.out.below hb2
                    have hcb2 := below_cell hb2 hcb1
                    clear hS' hS1 hl1 hb2 hcb1 HZ1 hBw1
                    have hf2 := hZ2.mm.frozen b
                    by_cases hz : z < 0
                    · have HPX := hide (HPU.out hz)
                      have hP := hZ2.put b (im : Int)
                      clear HPU HSK HCL
                      go_wp2
                      go_roundw
                      case rel => exact ⟨true, _, j + 1, by omega, rfl, by go_num, hP, HPX.out⟩
                      case measure => simp [intOf]; omega
                    · by_cases hz2' : z = (im : Int)
                      · have HPX := hide (HSK.out hz2')
                        clear HPU HSK HCL
                        subst hz2'
                        go_wp2
                        go_roundw
                        case rel => exact ⟨ag', M, j + 1, by omega, rfl, by go_num, hZ2, HPX.out⟩
                        case measure => simp [intOf]; omega
                      · have HPX := hide (HCL.out (by omega) hz2')
                        have hne2 : (z != (im : Int)) = true := by simpa using hz2'
                        clear HPU HSK HCL
                        go_wp2
                        go_ret
                        exact ⟨hZ2.bel, .inl ⟨rfl, HPX.out⟩⟩
                · have HNR := hide (hN.row (.inl (by omega)))
                  clear hN
                  have hjn : ¬ (j : Int) < (ps.length : Int) := by omega
                  go_wp2
                  go_roundw
                  case rel => exact ⟨ag', M, a + 1, by omega, rfl, by go_num, hZ, HNR.out⟩
                  case measure => simp [intOf]; omega
            · have hst9 := hN.start
              have HMO := hide hN.more
              have HFN : Hid (ag' = false → ∃ φ, Leads n zs m ys ps φ ∧ M = li ((List.range n).map φ)) := fun hag => by subst hag; exact hN.fin hg hh (by omega) HP.out HALL.out
              have HC9 := hide (cntN_blk hZ.mm)
              go_wp2
              go_roundw
              case rel => exact ⟨ag', M, rfl, hZ, hst9, HFN.out⟩
              case measure =>
                simp only [boolOf, HC9.out, HCN.out]
                cases hag : ag' with
                | false => simp
                | true => have := HMO.out hag; simp; omega
end Go.Proofs.YtmgengplfebmjaaDoor

namespace Go.Proofs.YtmgengplfebmjaaDoor
open Go Go.RowKit

theorem dd_mem {ls : List (List Int)} {x : List Int} : x ∈ dd ls ↔ x ∈ ls := by
  unfold dd kpt
  constructor
  · intro h
    obtain ⟨j, hj, rfl⟩ := List.mem_map.1 h
    have hj := List.mem_range.1 (List.mem_filter.1 hj).1
    rw [List.getElem?_eq_getElem hj, Option.getD_some]
    exact List.getElem_mem hj
  · intro h
    obtain ⟨i, hi, he⟩ := List.mem_iff_getElem.1 h
    have key : ∀ i, ∀ hi : i < ls.length, ∃ j, j < ls.length ∧ nw ls j = true ∧ ls[j]?.getD [] = ls[i] := by
      intro i
      induction i with
      | zero => exact fun hi => ⟨0, hi, by simp [nw], by rw [List.getElem?_eq_getElem hi]; rfl⟩
      | succ i ih =>
        intro hi
        by_cases hn : nw ls (i + 1) = true
        · exact ⟨i + 1, hi, hn, by rw [List.getElem?_eq_getElem hi]; rfl⟩
        · obtain ⟨j, h1, h2, h3⟩ := ih (by omega)
          refine ⟨j, h1, h2, ?_⟩
          have : ls[i + 1]?.getD [] = ls[i]?.getD [] := by
            simp only [nw, Nat.add_sub_cancel, Bool.or_eq_true, decide_eq_true_eq, not_or, Bool.not_eq_true', decide_eq_false_iff_not, Decidable.not_not] at hn
            exact hn.2
          rw [List.getElem?_eq_getElem hi, List.getElem?_eq_getElem (show i < ls.length by omega), Option.getD_some, Option.getD_some] at this
          rw [h3, this]
    obtain ⟨j, h1, h2, h3⟩ := key i hi
    exact List.mem_map.2 ⟨j, List.mem_filter.2 ⟨List.mem_range.2 h1, h2⟩, by rw [h3, he]⟩
theorem dd_nodup {ls : List (List Int)} (hs : srt ls) : (dd ls).Nodup := by
  unfold dd
  refine List.pairwise_map.2 ?_
  have h1 : (kpt ls ls.length).Pairwise (· < ·) := List.pairwise_lt_range.sublist List.filter_sublist
  refine h1.imp_of_mem ?_
  intro i j hi hj hij heq
  obtain ⟨_, hn⟩ := List.mem_filter.1 hj
  have hjl := List.mem_range.1 (List.mem_filter.1 hj).1
  have hne : ¬ ls[j]?.getD [] = ls[j - 1]?.getD [] := by
    simp only [nw, Bool.or_eq_true, decide_eq_true_eq, Bool.not_eq_true', decide_eq_false_iff_not] at hn
    rcases hn with hn | hn
    · omega
    · exact hn
  -- i ≤ j - 1 < j, the ends are the same, so the one between is the same
  have a1 : ¬ cmpL (ls[j]?.getD []) (ls[j - 1]?.getD []) < 0 := hs (j - 1) j (by omega) hjl
  by_cases hij1 : i = j - 1
  · exact hne (by rw [← heq, hij1])
  · have a2 : ¬ cmpL (ls[j - 1]?.getD []) (ls[i]?.getD []) < 0 := hs i (j - 1) (by omega) (by omega)
    rw [heq] at a2
    have a3 := cmpL_neg (ls[j - 1]?.getD []) (ls[j]?.getD [])
    exact hne ((cmpL_zero _ _).1 (by omega))
section
variable {n e : Nat} {zs : List Int}
theorem cjL_at {a x : Nat} (hx : x < n) : (cjL n zs e a)[x]?.getD 0 = (Fin.cj (tm n zs) (iv n zs e) x a : Int) := by simp [cjL, li, hx]
theorem cjL_iff {a b : Nat} : cjL n zs e a = cjL n zs e b ↔ ∀ x, x < n → Fin.cj (tm n zs) (iv n zs e) x a = Fin.cj (tm n zs) (iv n zs e) x b := by
  constructor
  · intro h x hx
    have := congrArg (fun l : List Int => l[x]?.getD 0) h
    simp only [cjL_at hx] at this
    omega
  · intro h
    unfold cjL li
    rw [List.map_map, List.map_map]
    exact List.map_congr_left fun x hx => by
      show ((Fin.cj (tm n zs) (iv n zs e) x a : Nat) : Int) = _
      rw [h x (List.mem_range.1 hx)]
      rfl
/-- Two things conjugate alike just where they differ by a central one. -/
theorem cj_same (g : IsGrp n zs e) {a b : Nat} (ha : a < n) (hb : b < n) : cjL n zs e a = cjL n zs e b ↔ ∃ c, c < n ∧ cenq n zs (fun _ => true) c = true ∧ tm n zs c a = b := by
  have F := grp_fg g
  have V := grp_iv g
  obtain ⟨i1, i2, i3, _⟩ := iv_spec g ha
  rw [cjL_iff]
  constructor
  · intro h
    refine ⟨tm n zs b (iv n zs e a), tm_lt g.tab hb i1, (cen_iff _).2 fun y hy => ?_, by rw [g.ass b _ a hb i1 ha, i3, g.right b hb]⟩
    have hy' := List.mem_range.1 hy
    have h1 := Fin.cj_eq F V hy (List.mem_range.2 hb)
    rw [← h y hy'] at h1
    -- b (a⁻¹ (y a)) = y b
    have h2 : tm n zs b (tm n zs (iv n zs e a) (tm n zs y a)) = tm n zs y b := h1
    have hya := tm_lt g.tab hy' ha
    have hiy := tm_lt g.tab i1 hy'
    have h3 : tm n zs (tm n zs b (iv n zs e a)) (tm n zs y a) = tm n zs y b := by rw [g.ass b _ _ hb i1 hya]; exact h2
    have h4 : tm n zs (tm n zs (tm n zs b (iv n zs e a)) (tm n zs y a)) (iv n zs e a) = tm n zs (tm n zs y b) (iv n zs e a) := congrArg (fun t => tm n zs t (iv n zs e a)) h3
    have hba := tm_lt g.tab hb i1
    rw [g.ass _ _ _ hba hya i1, g.ass y a _ hy' ha i1, i2, g.right y hy', g.ass y b _ hy' hb i1] at h4
    exact h4
  · rintro ⟨c, hc, hcen, rfl⟩ x hx
    have hcen := (cen_iff _).1 hcen
    have h1 := Fin.cj_cj F V (List.mem_range.2 hx) (List.mem_range.2 hc) (List.mem_range.2 ha)
    have h2 : Fin.cj (tm n zs) (iv n zs e) x c = x := Fin.cj_unique F V (List.mem_range.2 hx) (List.mem_range.2 hx) (List.mem_range.2 hc) (hcen x (List.mem_range.2 hx))
    rw [h2] at h1
    exact h1
theorem inn_mem {x : List Int} : x ∈ innL n zs e ↔ ∃ a, a < n ∧ x = cjL n zs e a := by
  constructor
  · intro h
    obtain ⟨a, ha, rfl⟩ := List.mem_map.1 h
    exact ⟨a, List.mem_range.1 ha, rfl⟩
  · rintro ⟨a, ha, rfl⟩
    exact List.mem_map.2 ⟨a, List.mem_range.2 ha, rfl⟩
/-- As many inner automorphisms as the centre has cosets. -/
theorem inn_many (g : IsGrp n zs e) {ms : List (List Int)} (hp : ms.Perm (innL n zs e)) (hs : srt ms) : n = (dd ms).length * (lst n (cenq n zs (fun _ => true))).length := by
  have hmem : ∀ x, x ∈ dd ms ↔ ∃ a, a < n ∧ x = cjL n zs e a := fun x => by rw [dd_mem, hp.mem_iff, inn_mem]
  have hnd := dd_nodup hs
  have h0 := Fin.fib_len (fun b => (dd ms).idxOf (cjL n zs e b)) (lst n (cenq n zs (fun _ => true))).length (List.range (dd ms).length) (List.range n) List.nodup_range (fun b hb => by
    have hb := List.mem_range.1 hb
    exact List.mem_range.2 (List.idxOf_lt_length_iff.2 ((hmem _).2 ⟨b, hb, rfl⟩))) (fun k hk => by
    have hk := List.mem_range.1 hk
    obtain ⟨a, ha, hka⟩ := (hmem _).1 (List.getElem_mem hk)
    have hfa : ∀ b, b < n → ((dd ms).idxOf (cjL n zs e b) = k ↔ cjL n zs e a = cjL n zs e b) := fun b hb => by
      constructor
      · intro h9
        have hin := (hmem _).2 ⟨b, hb, rfl⟩
        have := List.getElem_idxOf (List.idxOf_lt_length_iff.2 hin)
        rw [← hka, ← this]
        congr 1
        exact h9.symm
      · intro h9
        rw [← h9, ← hka]
        exact hnd.idxOf_getElem k hk
    symm
    refine Fin.bij_len (fun c => tm n zs c a) (List.nodup_range.sublist List.filter_sublist) (List.nodup_range.sublist List.filter_sublist) (fun c hc => ?_) (fun c c' hc hc' h9 => ?_) (fun b hb => ?_)
    · obtain ⟨hc1, hc2⟩ := mem_lst.1 hc
      have hca := tm_lt g.tab hc1 ha
      exact List.mem_filter.2 ⟨List.mem_range.2 hca, decide_eq_true ((hfa _ hca).2 ((cj_same g ha hca).2 ⟨c, hc1, hc2, rfl⟩))⟩
    · exact grp_cancel_right g ha (mem_lst.1 hc).1 (mem_lst.1 hc').1 h9
    · obtain ⟨hb1, hb2⟩ := List.mem_filter.1 hb
      have hb1 := List.mem_range.1 hb1
      obtain ⟨c, h1, h2, h3⟩ := (cj_same g ha hb1).1 ((hfa b hb1).1 (of_decide_eq_true hb2))
      exact ⟨c, mem_lst.2 ⟨h1, h2⟩, h3⟩)
  rw [List.length_range, List.length_range] at h0
  exact h0
end
end Go.Proofs.YtmgengplfebmjaaDoor

namespace Go.Proofs.YtmgengplfebmjaaDoor
open Go Go.RowKit

set_option maxRecDepth 100000 in
set_option maxHeartbeats 4000000 in
theorem inner_bad (N : Int) (v : Value) (zs : List Int) (w : World) (hv : Sl w v zs) (hc : (gfault N zs).1 ≠ 0) :
    Calls Tryd.prog 33 #[.agg #[.int .i64 N, v]] w fun x w' => x = .returned (.tuple #[.slice none 0 0, .agg #[.int .i64 (gfault N zs).1, .int .i64 (gfault N zs).2]]) ∧ Below w.heap.size w w' := by
  obtain ⟨w0, BG⟩ := Beg.new w N v
  have HCK := hide (opened_bad N v zs w0 (hv.below BG.bel) hc)
  obtain ⟨c, i, hci⟩ : ∃ c i, gfault N zs = (c, i) := ⟨_, _, rfl⟩
  rw [hci] at HCK hc ⊢
  simp only at HCK hc ⊢
  clear hci
  have hcb : (c != 0) = true := by simpa using hc
  obtain ⟨e0, e1, _, _⟩ := BG.box.two
  rw [BG.eq] at e0 e1
  go_enter Tryd.func33, Tryd.ntmps33
  go_wp2_with fail
  rw [← BG.eq]
  clear e0 e1
  refine HCK.out.mono ?_
  rintro x w1 ⟨rfl, hb1⟩
  obtain ⟨w2, hw2⟩ : ∃ w2, w2 = (w1.alloc (.cells #[.int .i64 0, .slice none 0 0, .int .i64 0, .slice none 0 0] 67)).alloc (.cells #[.int .i64 c, .int .i64 i] 27) := ⟨_, rfl⟩
  have hB1 : Below w0.heap.size w0 w2 := by rw [hw2]; exact bcat2 hb1 ((balloc w1 _).alloc (by simp) _)
  have hF1 : Blk w2 (w1.heap.size + 1) 27 [.int .i64 c, .int .i64 i] := by
    rw [hw2]
    have := blk0 (w := w1.alloc (.cells #[.int .i64 0, .slice none 0 0, .int .i64 0, .slice none 0 0] 67)) (T := 27) (.int .i64 c) (.int .i64 i)
    rwa [World.size_alloc] at this
  have hR1 := blk_below BG.res hB1
  have hBw := bcat BG.bel hB1 BG.bel.size
  subst hw2
  obtain ⟨y0, y1, fy0, fy1⟩ := hR1.two
  obtain ⟨t0, t1, _, _⟩ := hF1.two
  obtain ⟨hR6, hB6⟩ := put2 hR1 hBw (by omega) c i
  obtain ⟨z0, z1, _, _⟩ := hR6.two
  go_wp2
  go_region
  go_wp2
  exact bodyPost_ret (v := .tuple #[.slice none 0 0, .agg #[.int .i64 c, .int .i64 i]]) (by simp [results, Tryd.results33, go_sem, z0, z1]) rfl ⟨rfl, bdrew hB6⟩
set_option maxRecDepth 100000 in
set_option maxHeartbeats 4000000 in
theorem autos_bad (N : Int) (v : Value) (zs : List Int) (w : World) (hv : Sl w v zs) (hc : (gfault N zs).1 ≠ 0) :
    Calls Tryd.prog 32 #[.agg #[.int .i64 N, v]] w fun x w' => x = .returned (.tuple #[.slice none 0 0, .agg #[.int .i64 (gfault N zs).1, .int .i64 (gfault N zs).2]]) ∧ Below w.heap.size w w' := by
  obtain ⟨w0, BG⟩ := Beg.new w N v
  have HCK := hide (opened_bad N v zs w0 (hv.below BG.bel) hc)
  obtain ⟨c, i, hci⟩ : ∃ c i, gfault N zs = (c, i) := ⟨_, _, rfl⟩
  rw [hci] at HCK hc ⊢
  simp only at HCK hc ⊢
  clear hci
  have hcb : (c != 0) = true := by simpa using hc
  obtain ⟨e0, e1, _, _⟩ := BG.box.two
  rw [BG.eq] at e0 e1
  go_enter Tryd.func32, Tryd.ntmps32
  go_wp2_with fail
  rw [← BG.eq]
  clear e0 e1
  refine HCK.out.mono ?_
  rintro x w1 ⟨rfl, hb1⟩
  obtain ⟨w2, hw2⟩ : ∃ w2, w2 = (w1.alloc (.cells #[.int .i64 0, .slice none 0 0, .int .i64 0, .slice none 0 0] 67)).alloc (.cells #[.int .i64 c, .int .i64 i] 27) := ⟨_, rfl⟩
  have hB1 : Below w0.heap.size w0 w2 := by rw [hw2]; exact bcat2 hb1 ((balloc w1 _).alloc (by simp) _)
  have hF1 : Blk w2 (w1.heap.size + 1) 27 [.int .i64 c, .int .i64 i] := by
    rw [hw2]
    have := blk0 (w := w1.alloc (.cells #[.int .i64 0, .slice none 0 0, .int .i64 0, .slice none 0 0] 67)) (T := 27) (.int .i64 c) (.int .i64 i)
    rwa [World.size_alloc] at this
  have hR1 := blk_below BG.res hB1
  have hBw := bcat BG.bel hB1 BG.bel.size
  subst hw2
  obtain ⟨y0, y1, fy0, fy1⟩ := hR1.two
  obtain ⟨t0, t1, _, _⟩ := hF1.two
  obtain ⟨hR6, hB6⟩ := put2 hR1 hBw (by omega) c i
  obtain ⟨z0, z1, _, _⟩ := hR6.two
  go_wp2
  go_region
  go_wp2
  exact bodyPost_ret (v := .tuple #[.slice none 0 0, .agg #[.int .i64 c, .int .i64 i]]) (by simp [results, Tryd.results32, go_sem, z0, z1]) rfl ⟨rfl, bdrew hB6⟩
set_option maxRecDepth 100000 in
set_option maxHeartbeats 4000000 in
theorem autos_many (n e : Nat) (v : Value) (zs : List Int) (w : World) (hv : Sl w v zs) (hg : IsGrp n zs e) (h24 : 24 < n) :
    Calls Tryd.prog 32 #[.agg #[.int .i64 n, v]] w fun x w' => x = .returned (.tuple #[.slice none 0 0, .agg #[.int .i64 2, .int .i64 0]]) ∧ Below w.heap.size w w' := by
  obtain ⟨va, vn, vc, rfl⟩ := hv.isSlice
  have h24i : (24 : Int) < (n : Int) := by omega
  obtain ⟨w0, BG⟩ := Beg.new w n (.slice va vn vc)
  have HCK := hide (opened_good n e (.slice va vn vc) zs w0 (hv.below BG.bel) hg)
  obtain ⟨c0, c1, _, _⟩ := BG.box.two
  rw [BG.eq] at c0 c1
  go_enter Tryd.func32, Tryd.ntmps32
  go_wp2_with fail
  rw [← BG.eq]
  clear c0 c1
  refine HCK.out.mono ?_
  rintro x w1 ⟨iv9, rfl, hSI, hb1⟩
  obtain ⟨ia, il, ic, rfl⟩ := hSI.sl.isSlice
  obtain ⟨w2, hw2⟩ : ∃ w2, w2 = (w1.alloc (.cells #[.int .i64 n, .slice va vn vc, .int .i64 e, .slice ia il ic] 67)).alloc (.cells #[.int .i64 0, .int .i64 0] 27) := ⟨_, rfl⟩
  have hB1 : Below w0.heap.size w0 w2 := by rw [hw2]; exact bcat2 hb1 ((balloc w1 _).alloc (by simp) _)
  have hF1 : Blk w2 (w1.heap.size + 1) 27 [.int .i64 0, .int .i64 0] := by
    rw [hw2]
    have := blk0 (w := w1.alloc (.cells #[.int .i64 n, .slice va vn vc, .int .i64 e, .slice ia il ic] 67)) (T := 27) (.int .i64 0) (.int .i64 0)
    rwa [World.size_alloc] at this
  have hR1 := blk_below BG.res hB1
  have hX1 := blk_below BG.box hB1
  have hBw := bcat BG.bel hB1 BG.bel.size
  subst hw2
  obtain ⟨y0, y1, fy0, fy1⟩ := hR1.two
  obtain ⟨t0, t1, _, _⟩ := hF1.two
  obtain ⟨g0, g1, _, _⟩ := hX1.two
  obtain ⟨hR6, hB6⟩ := put2 hR1 hBw (by omega) 2 0
  obtain ⟨z0, z1, _, _⟩ := hR6.two
  go_wp2
  exact bodyPost_ret (v := .tuple #[.slice none 0 0, .agg #[.int .i64 2, .int .i64 0]]) (by simp [results, Tryd.results32, go_sem, z0, z1]) rfl ⟨rfl, hB6⟩
end Go.Proofs.YtmgengplfebmjaaDoor

namespace Go.Proofs.YtmgengplfebmjaaDoor
open Go Go.RowKit

theorem lm_take {n e : Nat} {zs : List Int} {ks js : List Nat} (h : LM n zs e ks) (k : LM n zs e js) (g2 : ∀ a, a < n → Mkd n zs e (fun x => decide (x ∈ js)) a) : ∀ i, i ≤ ks.length → i ≤ js.length ∧ ks.take i = js.take i
  | 0, _ => ⟨Nat.zero_le _, by simp⟩
  | i + 1, hi => by
    obtain ⟨h1, h2⟩ := lm_take h k g2 i (by omega)
    have hk : ks[i]? = some ks[i] := List.getElem?_eq_getElem (by omega)
    obtain ⟨a1, a2⟩ := h.step i _ hk
    by_cases hl : i < js.length
    · have hj : js[i]? = some js[i] := List.getElem?_eq_getElem hl
      obtain ⟨b1, b2⟩ := k.step i _ hj
      rw [← h2] at b1 b2
      have he : ks[i] = js[i] := by
        rcases Nat.lt_trichotomy ks[i] js[i] with h9 | h9 | h9
        · exact absurd (b2 _ h9) a1
        · exact h9
        · exact absurd (a2 _ h9) b1
      refine ⟨hl, ?_⟩
      rw [List.take_succ_eq_append_getElem (by omega), List.take_succ_eq_append_getElem hl, h2, he]
    · have hil : js.take i = js := List.take_of_length_le (by omega)
      rw [h2, hil] at a1
      exact absurd (g2 _ (h.lt _ (List.getElem_mem (by omega)))) a1
theorem lm_unique {n e : Nat} {zs : List Int} {ks js : List Nat} (h : LM n zs e ks) (k : LM n zs e js) (g1 : ∀ a, a < n → Mkd n zs e (fun x => decide (x ∈ ks)) a) (g2 : ∀ a, a < n → Mkd n zs e (fun x => decide (x ∈ js)) a) : ks = js := by
  obtain ⟨h1, h2⟩ := lm_take h k g2 ks.length (Nat.le_refl _)
  obtain ⟨h3, _⟩ := lm_take k h g1 js.length (Nat.le_refl _)
  have : ks.length = js.length := by omega
  rw [List.take_length, this, List.take_length] at h2
  exact h2
end Go.Proofs.YtmgengplfebmjaaDoor

namespace Go.Proofs.YtmgengplfebmjaaDoor
open Go Go.RowKit

set_option maxRecDepth 100000 in
set_option maxHeartbeats 8000000 in
theorem autos_much (n e : Nat) (v : Value) (zs : List Int) (w : World) (hv : Sl w v zs) (hg : IsGrp n zs e) (hT : Tab w) (h24 : n ≤ 24) (hmuch : ∀ ks, LM n zs e ks → (∀ a, a < n → Mkd n zs e (fun x => decide (x ∈ ks)) a) → 1000 < (autL n zs e ks).length) :
    Calls Tryd.prog 32 #[.agg #[.int .i64 n, v]] w fun x w' => x = .returned (.tuple #[.slice none 0 0, .agg #[.int .i64 9, .int .i64 0]]) ∧ Below w.heap.size w w' := by
  obtain ⟨va, vl, vc, rfl⟩ := hv.isSlice
  have hn := hg.tab.le
  have h24i : ¬ ((24 : Int) < (n : Int)) := by omega
  obtain ⟨w0, BG⟩ := Beg.new w n (.slice va vl vc)
  have HCK := hide (opened_good n e (.slice va vl vc) zs w0 (hv.below BG.bel) hg)
  have hen := hg.elt
  obtain ⟨c0, c1, _, _⟩ := BG.box.two
  rw [BG.eq] at c0 c1
  go_enter Tryd.func32, Tryd.ntmps32
  go_wp2_with fail
  rw [← BG.eq]
  clear c0 c1
  refine HCK.out.mono ?_
  rintro x w1 ⟨iv9, rfl, hSI, hb1⟩
  obtain ⟨ia, il, ic, rfl⟩ := hSI.sl.isSlice
  obtain ⟨w2, hw2⟩ : ∃ w2, w2 = (w1.alloc (.cells #[.int .i64 n, (.slice va vl vc), .int .i64 e, (.slice ia il ic)] 67)).alloc (.cells #[.int .i64 0, .int .i64 0] 27) := ⟨_, rfl⟩
  have hb2 : Below w1.heap.size w1 w2 := by rw [hw2]; exact (balloc w1 _).alloc (by simp) _
  have hB1 : Below w0.heap.size w0 w2 := bcat2 hb1 hb2
  have hF1 : Blk w2 (w1.heap.size + 1) 27 [.int .i64 0, .int .i64 0] := by
    rw [hw2]
    have := blk0 (w := w1.alloc (.cells #[.int .i64 n, (.slice va vl vc), .int .i64 e, (.slice ia il ic)] 67)) (T := 27) (.int .i64 0) (.int .i64 0)
    rwa [World.size_alloc] at this
  have hH2 : Blk w2 w1.heap.size 67 [.int .i64 n, (.slice va vl vc), .int .i64 e, (.slice ia il ic)] := by
    rw [hw2]; exact (blk4 _ _ _ _).alloc _
  have hBw2 := bcat BG.bel hB1 BG.bel.size
  have hR2 := blk_below BG.res hB1
  have hX2 := blk_below BG.box hB1
  have hGA : GA w2 n (.slice va vl vc) e (.slice ia il ic) zs := ⟨hg, hv.below hBw2, hSI.sl.below hb2⟩
  have HLM := hide (fun W (h : Below w2.heap.size w2 W) => lm_ok' n e (.slice va vl vc) (.slice ia il ic) zs W (hGA.below h) ((hT.below hBw2).below h))
  have HSG := hide (fun W k1 k2 k3 => single_ok n e n e (.slice va vl vc) (.slice ia il ic) (.slice va vl vc) (.slice ia il ic) k1 k2 k3 W hn hen)
  have HLI := hide (fun (W : World) (ks : List Nat) (k1 : Option Addr) (k3 kb pb fb pc ab A : Nat) (h : Below w2.heap.size w2 W) (hk : Sl W (.slice k1 ks.length k3) (li ks)) (hLM : LM n zs e ks) (hgen : ∀ a, a < n → Mkd n zs e (fun x => decide (x ∈ ks)) a)
      (hA : Alls A W [.int .i64 n, (.slice va vl vc), .int .i64 e, (.slice ia il ic), .int .i64 n, (.slice va vl vc), .int .i64 e, (.slice ia il ic)] (.slice k1 ks.length k3) (.func (.func 104) #[] #[.pointer (some ⟨pc, 0, none⟩), .pointer (some ⟨ab, 0, none⟩)]) kb pb fb)
      (hpc : Blk W pc 83 [.int .i64 n, (.slice va vl vc), .int .i64 e, (.slice ia il ic), .int .i64 n, (.slice va vl vc), .int .i64 e, (.slice ia il ic)]) (hab : Boxed W ab 73 (.int .u64 (bs (fun a => decide (a = e)) n))) =>
    show Calls Tryd.prog 70 #[.func (.func 101) #[] #[.pointer (some ⟨kb, 0, none⟩), .pointer (some ⟨pb, 0, none⟩), .pointer (some ⟨fb, 0, none⟩)]] W (fun x w' => x = .returned (.tuple #[.slice none 0 0, .agg #[.int .i64 9, .int .i64 0]]) ∧ Below W.heap.size W w') from
      (listed_ok (f0 := 104) hg hg (hGA.below h).mul (hGA.below h).mul hk hLM.lt hLM.fits hA (fun a W => call113 a _ _ W) (fun W9 g ms hW9 hb9 hl9 =>
        sng1_ok n e n e pc ab (.slice va vl vc) (.slice ia il ic) (.slice va vl vc) (.slice ia il ic) (.slice (some ⟨g, 0, none⟩) n n) ms W9 hn (Sl.of_blk hb9 hl9.symm (by omega)) hl9 (blk_below hpc hW9) (Boxed.below hab hW9))).mono (fun x w' hp => by
        exact ⟨hp.much (hmuch ks hLM hgen), hp.bel⟩))
  obtain ⟨t0, t1, _, _⟩ := hF1.two
  obtain ⟨g0, g1, _, _⟩ := hX2.two
  rw [hw2] at t0 t1 g0 g1
  clear hmuch
  go_wp2_with fail
  rw [← hw2]
  clear hw2 t0 t1 g0 g1
  have hw1s : w.heap.size + 1 < w1.heap.size := by have := BG.res.lt; have := hb1.size; omega
  have hS : ∀ W9, Below w2.heap.size w2 W9 → ((fun W9 => Below w.heap.size w W9 ∧ W9.cell? ⟨w1.heap.size, 0, none⟩ = some (.int .i64 n) ∧ W9.cell? ⟨w1.heap.size, 1, none⟩ = some (.slice va vl vc) ∧ W9.cell? ⟨w1.heap.size, 2, none⟩ = some (.int .i64 e) ∧ W9.cell? ⟨w1.heap.size, 3, none⟩ = some (.slice ia il ic)) W9) := fun W9 h => by
    obtain ⟨_, h0, h1, h2, h3, _⟩ := Four.mk' hH2
    exact ⟨bcat2 hBw2 h, below_cell h h0, below_cell h h1, below_cell h h2, below_cell h h3⟩
  have hS3 : ∀ W8, Below w2.heap.size w2 W8 → ((fun W9 => Below w.heap.size w W9 ∧ W9.cell? ⟨w1.heap.size, 0, none⟩ = some (.int .i64 n) ∧ W9.cell? ⟨w1.heap.size, 1, none⟩ = some (.slice va vl vc) ∧ W9.cell? ⟨w1.heap.size, 2, none⟩ = some (.int .i64 e) ∧ W9.cell? ⟨w1.heap.size, 3, none⟩ = some (.slice ia il ic)) ((W8.setCell ⟨w.heap.size + 1, 0, none⟩ (.int .i64 9)).setCell ⟨w.heap.size + 1, 1, none⟩ (.int .i64 0))) := fun W8 h => by
    have hH9 : Blk ((W8.setCell ⟨w.heap.size + 1, 0, none⟩ (.int .i64 9)).setCell ⟨w.heap.size + 1, 1, none⟩ (.int .i64 0)) w1.heap.size 67 [.int .i64 n, .slice va vl vc, .int .i64 e, .slice ia il ic] := ((blk_below hH2 h).other (p := ⟨w.heap.size + 1, 0, none⟩) (show w1.heap.size ≠ w.heap.size + 1 by omega) _).other (p := ⟨w.heap.size + 1, 1, none⟩) (show w1.heap.size ≠ w.heap.size + 1 by omega) _
    obtain ⟨_, h0, h1, h2, h3, _⟩ := Four.mk' hH9
    exact ⟨bSet (bSet (bcat2 hBw2 h) (by omega)) (by omega), h0, h1, h2, h3⟩
  have hS0 := hS _ (bdrew (Below.refl _ w2))
  go_region_held3 (fun W9 => Below w.heap.size w W9 ∧ W9.cell? ⟨w1.heap.size, 0, none⟩ = some (.int .i64 n) ∧ W9.cell? ⟨w1.heap.size, 1, none⟩ = some (.slice va vl vc) ∧ W9.cell? ⟨w1.heap.size, 2, none⟩ = some (.int .i64 e) ∧ W9.cell? ⟨w1.heap.size, 3, none⟩ = some (.slice ia il ic))
    (first | exact hS0 | assumption | exact hS3 _ hx5 | exact hS _ hx5 | exact hS _ hx4 | exact hS _ hx3)
    (first
      | (go_at_call 72; refine (HLM.out _ (bdrew (Below.refl _ w2))).mono ?_; rintro e3 w3 ⟨ks, k1, k3, rfl, hK3, hLM, hgen, hl3⟩; have hx3 := undrew' hl3)
      | (go_at_call 77; refine (HSG.out _ _ _ _).mono ?_; rintro e4 w4 ⟨kb, pb, fb, pc, ab, rfl, hA4, hpc4, hab4, _, _, _, hl4⟩; have hx4 := bcat2 hx3 hl4)
      | (go_at_call 70; refine (HLI.out _ ks _ _ _ _ _ _ _ _ hx4 (hK3.below hl4) hLM hgen hA4 hpc4 hab4).mono ?_; rintro e5 w5 ⟨rfl, hl5⟩; have hx5 := bcat2 hx4 hl5; obtain ⟨y0, y1, fy0, fy1⟩ := (blk_below hR2 hx5).two))
  all_goals (
    obtain ⟨hR6, hB6⟩ := put2 (blk_below hR2 hx5) (bcat2 hBw2 hx5) (by omega) 9 0
    obtain ⟨z0, z1, _, _⟩ := hR6.two
    go_wp2
    exact bodyPost_ret (v := .tuple #[.slice none 0 0, .agg #[.int .i64 9, .int .i64 0]]) (by simp [results, Tryd.results32, go_sem, z0, z1]) rfl ⟨rfl, hB6⟩)
end Go.Proofs.YtmgengplfebmjaaDoor

namespace Go.Proofs.YtmgengplfebmjaaDoor.Pm
open Go Go.RowKit

/-- What is wrong with a list at the places from i on, r of them. -/
def pf (zs : List Int) : Nat → Nat → Int × Int
  | 0, _ => (0, 0)
  | r + 1, i => if zs[i]?.getD 0 < 0 ∨ (zs.length : Int) ≤ zs[i]?.getD 0 then (3, (i : Int)) else if zs[i]?.getD 0 ∈ zs.take i then (10, (i : Int)) else pf zs r (i + 1)
/-- What perm.Check answers: the code and the place. -/
def fault (zs : List Int) : Int × Int := if 1000 < zs.length then (2, 0) else pf zs zs.length 0
theorem pf_range {zs : List Int} {r i : Nat} (h : zs[i]?.getD 0 < 0 ∨ (zs.length : Int) ≤ zs[i]?.getD 0) : pf zs (r + 1) i = (3, (i : Int)) := by
  rw [pf, if_pos h]
theorem pf_twice {zs : List Int} {r i : Nat} (h : ¬ (zs[i]?.getD 0 < 0 ∨ (zs.length : Int) ≤ zs[i]?.getD 0)) (h2 : zs[i]?.getD 0 ∈ zs.take i) : pf zs (r + 1) i = (10, (i : Int)) := by
  rw [pf, if_neg h, if_pos h2]
theorem pf_on {zs : List Int} {r i : Nat} (h : ¬ (zs[i]?.getD 0 < 0 ∨ (zs.length : Int) ≤ zs[i]?.getD 0)) (h2 : ¬ zs[i]?.getD 0 ∈ zs.take i) : pf zs (r + 1) i = pf zs r (i + 1) := by
  rw [pf, if_neg h, if_neg h2]
/-- The numbers 0 to n - 1, each once. -/
def IsPerm (zs : List Int) : Prop := (∀ i, i < zs.length → 0 ≤ zs[i]?.getD 0 ∧ zs[i]?.getD 0 < zs.length) ∧ ∀ i j, i < j → j < zs.length → zs[i]?.getD 0 ≠ zs[j]?.getD 0
theorem mem_take {zs : List Int} {i : Nat} (hi : i ≤ zs.length) (x : Int) : x ∈ zs.take i ↔ ∃ j, j < i ∧ zs[j]?.getD 0 = x := by
  rw [List.mem_iff_getElem?]
  constructor
  · rintro ⟨j, hj⟩
    rw [List.getElem?_take] at hj
    split at hj
    · exact ⟨j, by assumption, by rw [hj]; rfl⟩
    · cases hj
  · rintro ⟨j, hj, rfl⟩
    refine ⟨j, ?_⟩
    rw [List.getElem?_take, if_pos hj, List.getElem?_eq_getElem (by omega)]
    simp
theorem pf_perm {zs : List Int} : ∀ (r i : Nat), i + r = zs.length → (pf zs r i).1 = 0 →
    (∀ k, i ≤ k → k < zs.length → 0 ≤ zs[k]?.getD 0 ∧ zs[k]?.getD 0 < zs.length) ∧ ∀ j k, j < k → i ≤ k → k < zs.length → zs[j]?.getD 0 ≠ zs[k]?.getD 0
  | 0, i, h, _ => ⟨fun k h1 h2 => by omega, fun j k h1 h2 h3 => by omega⟩
  | r + 1, i, h, h0 => by
    by_cases a : zs[i]?.getD 0 < 0 ∨ (zs.length : Int) ≤ zs[i]?.getD 0
    · rw [pf_range a] at h0; simp at h0
    · by_cases b : zs[i]?.getD 0 ∈ zs.take i
      · rw [pf_twice a b] at h0; simp at h0
      · rw [pf_on a b] at h0
        obtain ⟨h1, h2⟩ := pf_perm r (i + 1) (by omega) h0
        rw [mem_take (by omega)] at b
        refine ⟨fun k hk hl => ?_, fun j k hj hk hl => ?_⟩
        · by_cases e : k = i
          · subst e; omega
          · exact h1 k (by omega) hl
        · by_cases e : k = i
          · subst e; exact fun e => b ⟨j, hj, e⟩
          · exact h2 j k hj (by omega) hl
theorem fault_perm {zs : List Int} (h : (fault zs).1 = 0) : IsPerm zs ∧ zs.length ≤ 1000 := by
  unfold fault at h
  split at h
  · simp at h
  · obtain ⟨h1, h2⟩ := pf_perm zs.length 0 (by omega) h
    exact ⟨⟨fun i hi => h1 i (by omega) hi, fun i j hij hj => h2 i j hij (by omega) hj⟩, by omega⟩
theorem pf_zero {zs : List Int} : ∀ (r i : Nat), (pf zs r i).1 = 0 → pf zs r i = (0, 0)
  | 0, i, _ => rfl
  | r + 1, i, h0 => by
    by_cases a : zs[i]?.getD 0 < 0 ∨ (zs.length : Int) ≤ zs[i]?.getD 0
    · rw [pf_range a] at h0; simp at h0
    · by_cases b : zs[i]?.getD 0 ∈ zs.take i
      · rw [pf_twice a b] at h0; simp at h0
      · rw [pf_on a b] at h0 ⊢
        exact pf_zero r (i + 1) h0
theorem fault_zero {zs : List Int} (h : (fault zs).1 = 0) : fault zs = (0, 0) := by
  unfold fault at h ⊢
  split at h
  · simp at h
  · rw [if_neg (by omega)]; exact pf_zero _ _ h
theorem pf_of_perm {zs : List Int} (hp : IsPerm zs) : ∀ (r i : Nat), i + r = zs.length → pf zs r i = (0, 0)
  | 0, i, _ => rfl
  | r + 1, i, h => by
    have h1 := hp.1 i (by omega)
    rw [pf_on (by omega) (fun hm => by
      rw [mem_take (by omega)] at hm
      obtain ⟨j, hj, e⟩ := hm
      exact hp.2 j i hj (by omega) e)]
    exact pf_of_perm hp r (i + 1) (by omega)
theorem fault_of_perm {zs : List Int} (hp : IsPerm zs) (hl : zs.length ≤ 1000) : fault zs = (0, 0) := by
  unfold fault; rw [if_neg (by omega)]; exact pf_of_perm hp _ _ (by omega)
theorem take_snoc {zs : List Int} {i : Nat} (hi : i < zs.length) : zs.take (i + 1) = zs.take i ++ [zs[i]?.getD 0] := by
  rw [List.take_succ_eq_append_getElem hi]; simp [hi]
/-- Where a point is moved. -/
def nx (zs : List Int) (x : Nat) : Nat := (zs[x]?.getD 0).toNat
theorem nx_lt {zs : List Int} (hp : IsPerm zs) {x : Nat} (hx : x < zs.length) : nx zs x < zs.length ∧ zs[x]?.getD 0 = (nx zs x : Int) := by
  have := hp.1 x hx
  unfold nx; omega
/-- The product. -/
def mulL (xs ys : List Int) : List Int := xs.map fun x => ys[x.toNat]?.getD 0
theorem mulL_len (xs ys : List Int) : (mulL xs ys).length = xs.length := by simp [mulL]
theorem mulL_get {xs : List Int} (ys : List Int) {i : Nat} (hi : i < xs.length) : (mulL xs ys)[i]?.getD 0 = ys[(xs[i]?.getD 0).toNat]?.getD 0 := by
  simp [mulL, hi]
/-- The inverse, as far as k numbers tell it. -/
def invTo (xs : List Int) : Nat → List Int
  | 0 => List.replicate xs.length 0
  | k + 1 => (invTo xs k).set (nx xs k) (k : Int)
def invL (xs : List Int) : List Int := invTo xs xs.length
theorem invTo_len (xs : List Int) : ∀ k, (invTo xs k).length = xs.length
  | 0 => by simp [invTo]
  | k + 1 => by simp [invTo, invTo_len xs k]
theorem invL_len (xs : List Int) : (invL xs).length = xs.length := invTo_len xs _
theorem nx_ne {xs : List Int} (hp : IsPerm xs) {i j : Nat} (hi : i < xs.length) (hj : j < xs.length) (h : i ≠ j) : nx xs i ≠ nx xs j := by
  have h1 := nx_lt hp hi
  have h2 := nx_lt hp hj
  intro e
  rcases Nat.lt_or_gt_of_ne h with hlt | hlt
  · exact hp.2 i j hlt hj (by rw [h1.2, h2.2, e])
  · exact hp.2 j i hlt hi (by rw [h1.2, h2.2, e])
theorem invTo_get {xs : List Int} (hp : IsPerm xs) : ∀ (k : Nat), k ≤ xs.length → ∀ i, i < k → (invTo xs k)[nx xs i]?.getD 0 = (i : Int)
  | 0, _, i, hi => by omega
  | k + 1, hk, i, hi => by
    have hn := (nx_lt hp (show i < xs.length by omega)).1
    rw [invTo, List.getElem?_set]
    by_cases e : i = k
    · subst e
      rw [if_pos rfl, invTo_len, if_pos hn]; rfl
    · rw [if_neg (nx_ne hp (by omega) (by omega) (fun h => e h.symm))]
      exact invTo_get hp k (by omega) i (by omega)
theorem invL_get {xs : List Int} (hp : IsPerm xs) {i : Nat} (hi : i < xs.length) : (invL xs)[nx xs i]?.getD 0 = (i : Int) := invTo_get hp _ (Nat.le_refl _) i hi
theorem nodup_len : ∀ (l m : List Nat), l.Nodup → (∀ z, z ∈ l → z ∈ m) → l.length ≤ m.length
  | [], _, _, _ => Nat.zero_le _
  | a :: l, m, hn, hs => by
    rw [List.nodup_cons] at hn
    have ha := hs a (by simp)
    have h1 := nodup_len l (m.erase a) hn.2 (fun z hz => by
      rw [List.mem_erase_of_ne (fun e => hn.1 (by rw [← e]; exact hz))]
      exact hs z (by simp [hz]))
    rw [List.length_erase_of_mem ha] at h1
    have := List.length_pos_of_mem ha
    simp; omega
/-- A permutation hits every point. -/
theorem perm_hits {xs : List Int} (hp : IsPerm xs) {y : Nat} (hy : y < xs.length) : ∃ i, i < xs.length ∧ nx xs i = y := by
  -- the list of what points are moved to has no two the same, and all are below n
  have hnd : ((List.range xs.length).map (nx xs)).Nodup := by
    rw [List.nodup_iff_pairwise_ne, List.pairwise_map]
    refine List.Pairwise.imp_of_mem ?_ List.nodup_range
    intro i j hi hj hij
    rw [List.mem_range] at hi hj
    exact nx_ne hp hi hj hij
  have hsub : ∀ z, z ∈ (List.range xs.length).map (nx xs) → z ∈ List.range xs.length := by
    intro z hz
    rw [List.mem_map] at hz
    obtain ⟨i, hi, rfl⟩ := hz
    rw [List.mem_range] at hi ⊢
    exact (nx_lt hp hi).1
  by_cases hm : y ∈ (List.range xs.length).map (nx xs)
  · rw [List.mem_map] at hm
    obtain ⟨i, hi, e⟩ := hm
    exact ⟨i, by simpa using hi, e⟩
  · exfalso
    have h1 := nodup_len _ ((List.range xs.length).erase y) hnd (fun z hz => by
      rw [List.mem_erase_of_ne (fun e => hm (by rw [← e]; exact hz))]
      exact hsub z hz)
    rw [List.length_erase_of_mem (by simpa using hy)] at h1
    simp at h1
    omega
theorem list_ext {xs ys : List Int} (hl : xs.length = ys.length) (h : ∀ i, i < xs.length → xs[i]?.getD 0 = ys[i]?.getD 0) : xs = ys := by
  apply List.ext_getElem hl
  intro i h1 h2
  have := h i h1
  rw [List.getElem?_eq_getElem h1, List.getElem?_eq_getElem h2] at this
  simpa using this
theorem mulL_perm {xs ys : List Int} (hx : IsPerm xs) (hy : IsPerm ys) (hl : xs.length = ys.length) : IsPerm (mulL xs ys) := by
  refine ⟨fun i hi => ?_, fun i j hij hj => ?_⟩
  · rw [mulL_len] at hi ⊢
    rw [mulL_get ys hi, hl]
    exact hy.1 _ (by rw [← hl]; exact (nx_lt hx hi).1)
  · rw [mulL_len] at hj
    rw [mulL_get ys (by omega), mulL_get ys hj]
    have hi : i < xs.length := by omega
    have h1 := (nx_lt hx hi).1
    have h2 := (nx_lt hx hj).1
    have hne := nx_ne hx hi hj (by omega)
    have h3 := nx_ne hy (i := nx xs i) (j := nx xs j) (by omega) (by omega) hne
    intro e
    exact h3 (congrArg Int.toNat e)
theorem invL_perm {xs : List Int} (hx : IsPerm xs) : IsPerm (invL xs) := by
  have key : ∀ y, y < xs.length → ∃ i, i < xs.length ∧ nx xs i = y ∧ (invL xs)[y]?.getD 0 = (i : Int) := by
    intro y hy
    obtain ⟨i, hi, e⟩ := perm_hits hx hy
    exact ⟨i, hi, e, by rw [← e]; exact invL_get hx hi⟩
  refine ⟨fun y hy => ?_, fun y z hyz hz => ?_⟩
  · rw [invL_len] at hy ⊢
    obtain ⟨i, hi, _, e⟩ := key y hy
    rw [e]; omega
  · rw [invL_len] at hz
    obtain ⟨i, hi, ei, e1⟩ := key y (by omega)
    obtain ⟨j, hj, ej, e2⟩ := key z hz
    rw [e1, e2]
    intro e
    have : i = j := by omega
    subst this
    omega
set_option maxRecDepth 100000 in
set_option maxHeartbeats 1000000 in
theorem has_any (a : Option Addr) (cap pb po n : Nat) (xs : List Int) (x : Int) (w : World) (hn : n = xs.length) (hr : Reads w a pb po xs) (hl : xs.length ≤ maxLen) :
    Calls Tryd.prog 81 #[.slice a n cap, .int .i64 x] w fun e w' => e = .returned (.bool (decide (x ∈ xs))) ∧ w' = w := by
  subst hn
  unfold maxLen at hl
  go_enter Tryd.func81, Tryd.ntmps81
  go_wp2
  go_loop [5] (fun i => ∃ k : Nat, k ≤ xs.length ∧ i = .int .i64 k ∧ ∀ j, j < k → xs[j]?.getD 0 ≠ x) (fun i => xs.length - (intOf i).toNat)
  case atStart => exact ⟨0, Nat.zero_le _, rfl, fun j hj => by omega⟩
  case round =>
    obtain ⟨k, hk, rfl, hno⟩ := hrel
    have HN := hide hno
    clear hno
    by_cases hlt : k < xs.length
    · have hc := hr.cell k hlt
      obtain rfl := hr.at_ (by omega)
      generalize hye : xs[k]?.getD 0 = y at hc
      have HY := hide hye
      clear hye
      by_cases hyx : y = x
      · have hm : decide (x ∈ xs) = true := by
          rw [decide_eq_true_eq, List.mem_iff_getElem?]
          refine ⟨k, ?_⟩
          have := HY.out
          rw [List.getElem?_eq_getElem hlt] at this ⊢
          simp at this
          rw [this, hyx]
        have HM := hide hm
        have hb : (y == x) = true := by simp [hyx]
        have HE := hide hyx
        clear hm hyx
        go_wp2
        go_ret
        exact ⟨by rw [HM.out]; rfl, rfl⟩
      · have hb : (y == x) = false := by simp [hyx]
        have HE := hide hyx
        clear hyx
        go_wp2
        go_round
        case rel => exact ⟨k + 1, by omega, by go_num, fun j hj => by
          by_cases e : j = k
          · rw [e, HY.out]; exact HE.out
          · exact HN.out j (by omega)⟩
        case measure => simp [intOf]; omega
    · have hm : decide (x ∈ xs) = false := by
        rw [decide_eq_false_iff_not, List.mem_iff_getElem?]
        rintro ⟨j, hj⟩
        have hjl : j < xs.length := (List.getElem?_eq_some_iff.1 hj).1
        exact HN.out j (by omega) (by rw [hj]; rfl)
      have HM := hide hm
      clear hm
      go_wp2
      go_ret
      exact ⟨by rw [HM.out]; rfl, rfl⟩
set_option maxRecDepth 100000 in
set_option maxHeartbeats 2000000 in
theorem permFault_any (v : Value) (zs : List Int) (w : World) (hv : Sl w v zs) :
    Calls Tryd.prog 42 #[v] w fun e w' => e = .returned (.agg #[.int .i64 (fault zs).1, .int .i64 (fault zs).2]) ∧ Below w.heap.size w w' := by
  obtain ⟨a, cap, pb, po, rfl, hr, hp, hcap, hcm⟩ := hv
  unfold maxLen at hcm
  have hB0 : Below w.heap.size w (w.alloc (.cells #[.int .i64 0, .int .i64 0] 27)) := (Below.refl _ w).alloc (Nat.le_refl _) _
  by_cases hbig : 1000 < zs.length
  · have hb1 : (1000 : Int) < (zs.length : Int) := by omega
    have hf : fault zs = (2, 0) := by unfold fault; rw [if_pos hbig]
    go_enter Tryd.func42, Tryd.ntmps42
    go_wp2_with fail
    refine (f_any 2 0 _).mono ?_
    rintro e w1 ⟨rfl, hl1⟩
    have hR : Blk w1 w.heap.size 27 [.int .i64 0, .int .i64 0] := (hl1.block w.heap.size (by simp)).trans (World.alloc_heap_new w _)
    have hc0 : w1.cell? ⟨w.heap.size, 0, none⟩ = some (.int .i64 0) := hR.cell 0
    have hc1 : w1.cell? ⟨w.heap.size, 1, none⟩ = some (.int .i64 0) := hR.cell 1
    have hf0 := hR.frozen 0
    have hf1 := hR.frozen 1
    go_wp2
    refine bodyPost_ret (v := .agg #[.int .i64 2, .int .i64 0]) (by simp [results, Tryd.results42, go_sem, hc0, hc1]) rfl ⟨by rw [hf], ?_⟩
    exact ((hB0.trans (hl1.mono (by simp))).setCell (p := ⟨w.heap.size, 0, none⟩) (Nat.le_refl _) _).setCell (p := ⟨w.heap.size, 1, none⟩) (Nat.le_refl _) _
  · have hb1 : (zs.length : Int) ≤ 1000 := by omega
    have hf : fault zs = pf zs zs.length 0 := by unfold fault; rw [if_neg hbig]
    have hR0 : Blk (w.alloc (.cells #[.int .i64 0, .int .i64 0] 27)) w.heap.size 27 [.int .i64 0, .int .i64 0] := World.alloc_heap_new w _
    go_enter Tryd.func42, Tryd.ntmps42
    go_wp2_with fail
    go_loopw [3] (fun i wr => ∃ k : Nat, k ≤ zs.length ∧ i = .int .i64 k ∧ Blk wr w.heap.size 27 [.int .i64 0, .int .i64 0] ∧ Below w.heap.size w wr ∧ pf zs (zs.length - k) k = pf zs zs.length 0)
      (fun i _ => zs.length - (intOf i).toNat)
    case atStart => exact ⟨0, Nat.zero_le _, rfl, hR0, hB0, rfl⟩
    case round =>
      obtain ⟨k, hk, rfl, hR1, hB1, hpf⟩ := hrel
      have HP := hide hpf
      have HF := hide hf
      clear hpf hf hR0 hB0
      have hc0 : wr.cell? ⟨w.heap.size, 0, none⟩ = some (.int .i64 0) := hR1.cell 0
      have hc1 : wr.cell? ⟨w.heap.size, 1, none⟩ = some (.int .i64 0) := hR1.cell 1
      have hf0 := hR1.frozen 0
      have hf1 := hR1.frozen 1
      by_cases hlt : k < zs.length
      · obtain rfl := hr.at_ (by omega)
        have hrr := hr.below hB1 hp
        have hx := hrr.cell k hlt
        generalize hxe : zs[k]?.getD 0 = x at hx
        have HX := hide hxe
        clear hxe
        have HN : Hid (zs.length - k = (zs.length - (k + 1)) + 1) := by unfold Hid; omega
        have hfin : ∀ (c : Int) (w1 : World), Below wr.heap.size wr w1 → Blk w1 w.heap.size 27 [.int .i64 0, .int .i64 0] := fun c w1 h => hR1.of_eq (h.block _ hR1.lt)
        have HFI := hide hfin
        clear hfin
        by_cases hrange : x < 0 ∨ (zs.length : Int) ≤ x
        · have hfl : fault zs = (3, (k : Int)) := by
            rw [HF.out, ← HP.out, HN.out, pf_range (by rw [HX.out]; exact hrange)]
          have HFL := hide hfl
          clear hfl
          rcases hrange with hneg | hbigx
          all_goals
            go_wp2_with fail
            refine (f_any 3 (k : Int) _).mono ?_
            rintro e w1 ⟨rfl, hl1⟩
            have hR := HFI.out 0 w1 hl1
            have hd0 : w1.cell? ⟨w.heap.size, 0, none⟩ = some (.int .i64 0) := hR.cell 0
            have hd1 : w1.cell? ⟨w.heap.size, 1, none⟩ = some (.int .i64 0) := hR.cell 1
            have hg0 := hR.frozen 0
            have hg1 := hR.frozen 1
            go_wp2
            refine bodyPost_ret (v := .agg #[.int .i64 3, .int .i64 k]) (by simp [results, Tryd.results42, go_sem, hd0, hd1]) rfl ⟨by rw [HFL.out], ?_⟩
            exact ((bcat hB1 hl1 hB1.size).setCell (p := ⟨w.heap.size, 0, none⟩) (Nat.le_refl _) _).setCell (p := ⟨w.heap.size, 1, none⟩) (Nat.le_refl _) _
        · have h1 : 0 ≤ x := by omega
          have h2 : x < (zs.length : Int) := by omega
          have HR := hide hrange
          clear hrange
          have hrt : Reads wr (some ⟨pb, po, none⟩) pb po (zs.take k) := ⟨fun _ => rfl, fun j hj => by
            rw [List.length_take] at hj
            rw [hrr.cell j (by omega), List.getElem?_take, if_pos (by omega)]⟩
          have htl : k = (zs.take k).length := by rw [List.length_take]; omega
          have HTL := hide htl
          have h52 : ∀ W, W.heap = wr.heap → Calls Tryd.prog 81 #[.slice (some ⟨pb, po, none⟩) k cap, .int .i64 x] W fun e w' => e = .returned (.bool (decide (x ∈ zs.take k))) ∧ w' = W := fun W hW =>
            has_any _ cap pb po k (zs.take k) x W HTL.out (hrt.of_eq (by rw [hW])) (by rw [← HTL.out]; unfold maxLen; omega)
          generalize hbb : decide (x ∈ zs.take k) = b at h52
          have H52 := hide h52
          clear htl h52 hrt
          have hki : (k : Int) < (zs.length : Int) := by omega
          cases b with
          | true =>
            have h3 : x ∈ zs.take k := of_decide_eq_true hbb
            have hfl : fault zs = (10, (k : Int)) := by
              rw [HF.out, ← HP.out, HN.out, pf_twice (by rw [HX.out]; exact HR.out) (by rw [HX.out]; exact h3)]
            have HFL := hide hfl
            clear hfl h3 hbb
            go_wp2
            go_quiet ((go_at_call 81; exact Calls.quiet_of_same (H52.out _ rfl)))
            go_wp2_with fail
            refine (f_any 10 (k : Int) _).mono ?_
            rintro e w1 ⟨rfl, hl1⟩
            have hR : Blk w1 w.heap.size 27 [.int .i64 0, .int .i64 0] := hR1.of_eq (hl1.block _ hR1.lt)
            have hd0 : w1.cell? ⟨w.heap.size, 0, none⟩ = some (.int .i64 0) := hR.cell 0
            have hd1 : w1.cell? ⟨w.heap.size, 1, none⟩ = some (.int .i64 0) := hR.cell 1
            have hg0 := hR.frozen 0
            have hg1 := hR.frozen 1
            go_wp2
            refine bodyPost_ret (v := .agg #[.int .i64 10, .int .i64 k]) (by simp [results, Tryd.results42, go_sem, hd0, hd1]) rfl ⟨by rw [HFL.out], ?_⟩
            exact ((bcat (bdrewN hB1 _) hl1 hB1.size).setCell (p := ⟨w.heap.size, 0, none⟩) (Nat.le_refl _) _).setCell (p := ⟨w.heap.size, 1, none⟩) (Nat.le_refl _) _
          | false =>
            have h3 : ¬ x ∈ zs.take k := of_decide_eq_false hbb
            have hon : pf zs (zs.length - (k + 1)) (k + 1) = pf zs zs.length 0 := by
              rw [← HP.out, HN.out, pf_on (by rw [HX.out]; exact HR.out) (by rw [HX.out]; exact h3)]
            have HON := hide hon
            clear hon h3 hbb
            go_wp2
            go_quiet ((go_at_call 81; exact Calls.quiet_of_same (H52.out _ rfl)))
            go_wp2
            go_roundw
            case rel => exact ⟨k + 1, by omega, by go_num, hR1, bdrewN hB1 _, HON.out⟩
            case measure => simp [intOf]; omega
      · have hfl : fault zs = (0, 0) := by
          rw [HF.out, ← HP.out, show zs.length - k = 0 by omega]; rfl
        have HFL := hide hfl
        clear hfl
        go_wp2
        refine bodyPost_ret (v := .agg #[.int .i64 0, .int .i64 0]) (by simp [results, Tryd.results42, go_sem, hc0, hc1]) rfl ⟨by rw [HFL.out], ?_⟩
        exact (hB1.setCell (p := ⟨w.heap.size, 0, none⟩) (Nat.le_refl _) _).setCell (p := ⟨w.heap.size, 1, none⟩) (Nat.le_refl _) _
set_option maxRecDepth 100000 in
set_option maxHeartbeats 4000000 in
theorem inverse_ok (u : Value) (xs : List Int) (w : World) (hu : Sl w u xs) (hx : IsPerm xs) (h1000 : xs.length ≤ 1000) :
    Calls Tryd.prog 43 #[u] w fun e w' => ∃ r, e = .returned r ∧ Row w' w.heap.size r (invL xs) ∧ Below w.heap.size w w' := by
  obtain ⟨i0, hi, hz0, hz1, hz2⟩ := info_parts info3b
  obtain ⟨a, cap, pb, po, rfl, hr, hp, hq3, hq4⟩ := hu
  have hml := invL_len xs
  have hmg : ∀ j, j < xs.length → (invL xs)[nx xs j]?.getD 0 = (j : Int) := fun j hj => invL_get hx hj
  generalize invL xs = M at hml hmg
  have HX := hide hx
  have HML := hide hml
  have HMG := hide hmg
  clear hx hml hmg
  go_enter Tryd.func43, Tryd.ntmps43
  go_wp2
  go_loopw [3, 4] (fun v i wr => ∃ k : Nat, k ≤ xs.length ∧ i = .int .i64 k ∧ Row wr w.heap.size v (M.take k) ∧ Below w.heap.size w wr)
    (fun _ i _ => xs.length - (intOf i).toNat)
  case atStart => exact ⟨0, Nat.zero_le _, rfl, World.ownsRow_nil _ _ _ _, Below.refl _ _⟩
  case round =>
    obtain ⟨i, hi9, rfl, hown, hB⟩ := hrel
    obtain ⟨v, rfl⟩ : ∃ v, v = u3 := ⟨_, rfl⟩
    obtain ⟨W0, rfl⟩ : ∃ W0, W0 = wr := ⟨_, rfl⟩
    by_cases hlt : i < xs.length
    · obtain ⟨j0, hj0, hji⟩ := perm_hits HX.out hlt
      have hsn : M.take (i + 1) = M.take i ++ [(j0 : Int)] := by
        rw [take_snoc (zs := M) (by rw [HML.out]; omega)]
        have := HMG.out j0 hj0
        rw [hji] at this; rw [this]
      have HSN := hide hsn
      have HJI := hide hji
      clear hsn hji
      go_wp2
      go_loopw [3, 5] (fun v2 kv wr2 => ∃ k : Nat, k ≤ xs.length ∧ kv = .int .i64 k ∧ Row wr2 w.heap.size v2 (M.take (if j0 < k then i + 1 else i)) ∧ Below w.heap.size w wr2)
        (fun _ k _ => xs.length - (intOf k).toNat)
      case atStart => exact ⟨0, Nat.zero_le _, rfl, by rw [if_neg (by omega)]; exact hown, hB⟩
      case round =>
        obtain ⟨k, hk, rfl, hown2, hB2⟩ := hrel
        obtain ⟨v2, rfl⟩ : ∃ v2, v2 = u3 := ⟨_, rfl⟩
        clear hown hB
        have hBs := hB2.size
        by_cases hkl : k < xs.length
        · have hn := nx_lt HX.out hkl
          have hcx := (hr.below hB2 hp).cell k hkl
          rw [hn.2] at hcx
          obtain rfl := hr.at_ (by omega)
          by_cases e : k = j0
          · subst e
            rw [HJI.out] at hcx
            rw [if_neg (by omega)] at hown2
            have hil : (M.take i).length = i := by rw [List.length_take, HML.out]; omega
            have HIL := hide hil
            have hbe : ((i : Int) == (i : Int)) = true := by simp
            clear hn hil
            go_wp2_with (first
              | (at_builtin; refine wpList_append_own _ rfl _ _ 22 rfl w.heap.size 3 i0 (.int .i64 0) 1 8 under22b hi hz0 hz1 hz2 rfl (by decide) _ _ _ rfl (World.ownsRow.alloc hown2 _) ⟨wr.heap.size, 0, none⟩ 1 1 [.int .i64 (k : Int)] rfl rfl ?c1 ?c2 ?c3 ?c4 ?c5 ?_))
            case c1 => exact cell_one_new _ _ _
            case c2 => simp [Value.oneCell']
            case c3 => unfold maxLen; have := HIL.out; omega
            case c4 => have := HIL.out; omega
            case c5 => simp; omega
            intro v' w2 hown' hgrow _
            obtain ⟨g', cap', rfl⟩ := ownsRow_succ hown'
            have hB3 : Below w.heap.size w w2 := (hB2.alloc hBs _).grown hgrow (by simp; omega) (fun j e => owns_ge hown2 j e)
            have hown5 : Row w2 w.heap.size (.slice (some ⟨g', 0, none⟩) ((M.take i).length + 1) cap') (M.take (if k < k + 1 then i + 1 else i)) := by
              unfold Row
              rw [if_pos (by omega), HSN.out]; simpa using hown'
            clear hown' hgrow hown2
            go_wp2
            go_roundw
            case rel => exact ⟨k + 1, by omega, by go_num, (by rw [List.length_take] at hown5; exact hown5), hB3⟩
            case measure => simp [intOf]; omega
          · have hne : nx xs k ≠ i := fun h => nx_ne HX.out hkl hj0 e (h.trans HJI.out.symm)
            have hown5 : Row wr w.heap.size v2 (M.take (if j0 < k + 1 then i + 1 else i)) := by
              by_cases h : j0 < k
              · rw [if_pos h] at hown2; rw [if_pos (by omega)]; exact hown2
              · rw [if_neg h] at hown2; rw [if_neg (by omega)]; exact hown2
            obtain ⟨hn1, _⟩ := hn
            generalize nx xs k = x at hcx hne hn1
            have hbe : ((x : Int) == (i : Int)) = false := by simp; omega
            clear hne hown2
            go_wp2
            go_roundw
            case rel => exact ⟨k + 1, by omega, by go_num, hown5, hB2⟩
            case measure => simp [intOf]; omega
        · rw [if_pos (by omega)] at hown2
          go_wp2
          go_roundw
          case rel => exact ⟨i + 1, by omega, by go_num, hown2, hB2⟩
          case measure => simp [intOf]; omega
    · have hkk : i = xs.length := by omega
      subst hkk
      rw [← HML.out, List.take_length] at hown
      go_wp2
      go_ret
      exact ⟨_, rfl, hown, hB⟩
end Go.Proofs.YtmgengplfebmjaaDoor.Pm

namespace Go.Proofs.YtmgengplfebmjaaDoor
open Go Go.RowKit

section
variable {n e : Nat} {zs : List Int}
/-- An automorphism. -/
structure IsAut (n : Nat) (zs : List Int) (e : Nat) (φ : Nat → Nat) : Prop where
  hom : IsHom n zs n zs φ
  inj : ∀ a b, a < n → b < n → φ a = φ b → a = b
theorem aut_of_ker (g : IsGrp n zs e) {φ : Nat → Nat} (H : IsHom n zs n zs φ) (hk : ∀ a, a < n → φ a = e → a = e) : IsAut n zs e φ := by
  refine ⟨H, fun a b ha hb hab => ?_⟩
  obtain ⟨i1, i2, i3, _⟩ := iv_spec g hb
  have h1 := H.mul a (iv n zs e b) ha i1
  have h2 := H.mul b (iv n zs e b) hb i1
  rw [i2, IsHom.one g g H] at h2
  rw [hab, ← h2] at h1
  have h3 := hk _ (tm_lt g.tab ha i1) h1
  have h4 : tm n zs (tm n zs a (iv n zs e b)) b = tm n zs e b := congrArg (fun t => tm n zs t b) h3
  rw [g.ass a _ b ha i1 hb, i3, g.right a ha, g.left b hb] at h4
  exact h4
theorem hom_list_at {φ : Nat → Nat} {a : Nat} (ha : a < n) : (li ((List.range n).map φ))[a]?.getD 0 = (φ a : Int) := by simp [li, ha]
theorem hom_list_len {φ : Nat → Nat} : (li ((List.range n).map φ)).length = n := by simp [li]
theorem sng_fit (g : IsGrp n zs e) {φ : Nat → Nat} {S : List Int × List Nat} {ps : List (Nat × Nat)} (H : IsHom n zs n zs φ) (hF : ∀ a, a < n → φ a = e → a = e) (hps : ∀ p, p ∈ ps → p.1 < n ∧ φ p.1 = p.2) (hS : ext n zs e n zs e ps = some S) : sngq n e S.1 e = true := by
  have hp : ∀ p, p ∈ ps → p.1 < n ∧ p.2 < n := fun p hp => ⟨(hps p hp).1, by rw [← (hps p hp).2]; exact H.lt _ (hps p hp).1⟩
  obtain ⟨r1, r2, r3, _⟩ := ext_grow g g hp hS
  obtain ⟨S', hS', hv⟩ := ext_of_hom g g H hps
  rw [hS] at hS'
  injection hS' with hS'
  subst hS'
  unfold sngq
  refine decide_eq_true (bs_ext fun a ha => ?_)
  unfold kerq
  by_cases hin : a ∈ S.2
  · rw [hv a hin]
    by_cases hae : a = e
    · subst hae
      rw [IsHom.one g g H]
      simp
    · rw [decide_eq_false hae]
      refine decide_eq_false fun h9 => hae (hF a ha ?_)
      omega
  · have hae : ¬ a = e := fun h9 => hin (by rw [h9]; exact r2)
    rw [decide_eq_false hae]
    refine decide_eq_false fun h9 => ?_
    have := r1.no a ha hin
    rw [this] at h9
    omega
theorem sng_ker {φ : Nat → Nat} (hf : sngq n e (li ((List.range n).map φ)) e = true) {a : Nat} (ha : a < n) (hae : φ a = e) : a = e := by
  have := bs_inj (of_decide_eq_true hf) a ha
  unfold kerq at this
  rw [hom_list_at ha, hae] at this
  simpa using this
theorem aut_mem (g : IsGrp n zs e) {ks : List Nat} (hk : ∀ k, k ∈ ks → k < n) (hall : ∀ a, a < n → Mkd n zs e (fun x => decide (x ∈ ks)) a) {L : List Int} : L ∈ autL n zs e ks ↔ ∃ φ, IsAut n zs e φ ∧ L = li ((List.range n).map φ) := by
  have key := homF_mem (FP := fun φ => ∀ a, a < n → φ a = e → a = e) (fit := fun ms => sngq n e ms e) g g hk hall
    (fun φ S ps H hF hps hS => sng_fit g H hF hps hS)
    (fun φ H hf a ha hae => sng_ker hf ha hae)
    (ks.length + 1) [] L (by simp) (by simp) (by simp)
  unfold autL
  rw [key]
  constructor
  · rintro ⟨φ, H, hF, hL, _⟩
    exact ⟨φ, aut_of_ker g H hF, hL⟩
  · rintro ⟨φ, A, hL⟩
    exact ⟨φ, A.hom, fun a ha hae => A.inj a e ha g.elt (by rw [hae, IsHom.one g g A.hom]), hL, fun i hi => by simp at hi⟩
theorem inj_perm {φ : Nat → Nat} (hl : ∀ a, a < n → φ a < n) (hi : ∀ a b, a < n → b < n → φ a = φ b → a = b) : Pm.IsPerm (li ((List.range n).map φ)) := by
  refine ⟨fun i h => ?_, fun i j hij hj => ?_⟩
  · rw [hom_list_len] at h ⊢
    rw [hom_list_at h]
    have := hl i h
    omega
  · rw [hom_list_len] at hj
    rw [hom_list_at (by omega), hom_list_at hj]
    intro h9
    have := hi i j (by omega) hj (by omega)
    omega
theorem aut_perm {φ : Nat → Nat} (A : IsAut n zs e φ) : Pm.IsPerm (li ((List.range n).map φ)) := inj_perm A.hom.lt A.inj
theorem cjL_perm (g : IsGrp n zs e) {a : Nat} (ha : a < n) : Pm.IsPerm (cjL n zs e a) := by
  have F := grp_fg g
  have V := grp_iv g
  refine inj_perm (fun x hx => List.mem_range.1 (Fin.cj_mem F V (List.mem_range.2 hx) (List.mem_range.2 ha))) (fun x y hx hy h => ?_)
  have h1 := (Fin.cj_back F V (List.mem_range.2 hx) (List.mem_range.2 ha)).1
  have h2 := (Fin.cj_back F V (List.mem_range.2 hy) (List.mem_range.2 ha)).1
  rw [← h1, ← h2, h]
/-- An automorphism behind an inner one behind its inverse. -/
theorem aut_conj (g : IsGrp n zs e) {φ : Nat → Nat} (A : IsAut n zs e φ) {a : Nat} (ha : a < n) :
    Pm.mulL (Pm.mulL (Pm.invL (li ((List.range n).map φ))) (cjL n zs e a)) (li ((List.range n).map φ)) = cjL n zs e (φ a) := by
  have F := grp_fg g
  have V := grp_iv g
  have hP := aut_perm A
  have hL := hom_list_len (n := n) (φ := φ)
  have hil := Pm.invL_len (li ((List.range n).map φ))
  rw [hL] at hil
  apply Pm.list_ext
  · rw [Pm.mulL_len, Pm.mulL_len, hil, cjL_len]
  · intro y hy
    rw [Pm.mulL_len, Pm.mulL_len, hil] at hy
    obtain ⟨i, hi, hiy⟩ := Pm.perm_hits hP (y := y) (by rw [hL]; exact hy)
    rw [hL] at hi
    have h1 := Pm.invL_get hP (i := i) (by rw [hL]; exact hi)
    rw [hiy] at h1
    have hφ : φ i = y := by
      rw [← hiy]
      unfold Pm.nx
      rw [hom_list_at hi]
      rfl
    have hc := List.mem_range.1 (Fin.cj_mem F V (List.mem_range.2 hi) (List.mem_range.2 ha))
    rw [Pm.mulL_get _ (by rw [Pm.mulL_len, hil]; exact hy), Pm.mulL_get _ (by rw [hil]; exact hy), h1, Int.toNat_natCast, cjL_at hi, Int.toNat_natCast, hom_list_at hc, cjL_at hy]
    have h2 : Fin.cj (tm n zs) (iv n zs e) y (φ a) = φ (Fin.cj (tm n zs) (iv n zs e) i a) := by
      refine Fin.cj_unique F V (List.mem_range.2 hy) (List.mem_range.2 (A.hom.lt _ hc)) (List.mem_range.2 (A.hom.lt a ha)) ?_
      rw [← A.hom.mul _ _ ha hc, Fin.cj_eq F V (List.mem_range.2 hi) (List.mem_range.2 ha), A.hom.mul _ _ hi ha, hφ]
    rw [h2]
end
end Go.Proofs.YtmgengplfebmjaaDoor

namespace Go.Proofs.YtmgengplfebmjaaDoor
open Go Go.RowKit

/-- How the search for makers stands: k things are left. -/
structure MkS (w wr : World) (n : Nat) (v r : Value) (zs : List Int) (e k : Nat) (xs : List Nat) : Prop where
  row : Row wr w.heap.size r (li xs)
  box : BoxG wr w.heap.size n v
  bel : Below w.heap.size w wr
  lt : ∀ x, x ∈ xs → x < n
  len : xs.length + k ≤ n
  gen : ∀ x, x < n → k ≤ x → Mkd n zs e (fun a => decide (a ∈ xs)) x
theorem mkd_mono {n e : Nat} {zs : List Int} {xs ys : List Nat} (h : ∀ x, x ∈ xs → x ∈ ys) {a : Nat} (hm : Mkd n zs e (fun a => decide (a ∈ xs)) a) : Mkd n zs e (fun a => decide (a ∈ ys)) a :=
  hm _ (Fin.Gen.sg _) (fun z hz hq => Fin.Gen.base hz (decide_eq_true (h z (of_decide_eq_true hq))))
theorem lst_full {n : Nat} {p : Nat → Bool} (h : n ≤ (lst n p).length) {a : Nat} (ha : a < n) : p a = true := by
  have h1 : (lst n p).length = (List.range n).length := by
    have := List.length_filter_le p (List.range n)
    rw [List.length_range] at this ⊢
    unfold lst at h ⊢
    omega
  unfold lst at h1
  exact (List.length_filter_eq_length_iff.1 h1) a (List.mem_range.2 ha)
set_option maxRecDepth 100000 in
set_option maxHeartbeats 4000000 in
theorem makers_ok (n e : Nat) (v : Value) (zs : List Int) (w : World) (hv : Sl w v zs) (hg : IsGrp n zs e) :
    Calls Tryd.prog 74 #[.agg #[.int .i64 n, v]] w fun x w' => ∃ (r : Value) (xs : List Nat), x = .returned r ∧ Row w' w.heap.size r (li xs) ∧ (∀ x, x ∈ xs → x < n) ∧ xs.length ≤ n ∧ (∀ x, x < n → Mkd n zs e (fun a => decide (a ∈ xs)) x) ∧ Below w.heap.size w w' := by
  obtain ⟨i0, hi, hz0, hz1, hz2⟩ := info_parts info3b
  obtain ⟨v1, v2, v3, rfl⟩ := hv.isSlice
  have hn := hg.tab.le
  have hn0 : 0 < n := Nat.lt_of_le_of_lt (Nat.zero_le _) hg.elt
  have hst : MkS w (w.alloc (.cells #[.int .i64 n, .slice v1 v2 v3] 24)) n (.slice v1 v2 v3) (.slice none 0 0) zs e n [] :=
    ⟨World.ownsRow_nil _ _ _ _, blk0 _ _, balloc w _, by simp, by simp, fun x h1 h2 => by omega⟩
  have hw1 : IntKind.i64.wrap ((n : Int) - 1) = (n : Int) - 1 := by rw [IntKind.wrap_i64]; omega
  go_enter Tryd.func74, Tryd.ntmps74
  go_wp2
  go_loopw [3, 4] (fun r i wr => ∃ (k : Nat) (xs : List Nat), i = .int .i64 ((k : Int) - 1) ∧ MkS w wr n (.slice v1 v2 v3) r zs e k xs) (fun _ i _ => ((intOf i) + 1).toNat)
  case atStart => exact ⟨n, [], rfl, hst⟩
  case round =>
    obtain ⟨k, xs, rfl, hM⟩ := hrel
    obtain ⟨r, rfl⟩ : ∃ r, r = u3 := ⟨_, rfl⟩
    clear hst hw1
    obtain ⟨q1, q3, hrs⟩ := own_slice hM.row
    rw [li_len] at hrs
    subst hrs
    obtain ⟨c0, c1, _, _⟩ := hM.box.two
    have hkl := hM.len
    by_cases hk0 : k = 0
    · subst hk0
      go_wp2_with fail
      go_quiet (fail)
      have hM2 : Below w.heap.size w (wr.drewN nq) := bdrewN hM.bel nq
      have hR2 : Row (wr.drewN nq) w.heap.size (.slice q1 xs.length q3) (li xs) := hM.row
      go_wp2
      go_ret
      exact ⟨_, xs, rfl, hR2, hM.lt, by omega, fun x hx => hM.gen x hx (by omega), hM2⟩
    · obtain ⟨j, rfl⟩ : ∃ j, k = j + 1 := ⟨k - 1, by omega⟩
      have hjj : ((j + 1 : Nat) : Int) - 1 = (j : Int) := by omega
      rw [hjj]
      clear hjj hk0
      have hj0 : (0 : Int) ≤ (j : Int) := by omega
      have hw9 : IntKind.i64.wrap ((j : Int) - 1) = (j : Int) - 1 := by rw [IntKind.wrap_i64]; omega
      obtain ⟨p, hp⟩ := mkd_test n zs e (fun a => decide (a ∈ xs))
      have HSP := hide (fun W (h : Below wr.heap.size wr W) => span_ok n e (.slice v1 v2 v3) (.slice q1 xs.length q3) zs xs p W ((hv.below hM.bel).below h) hg ((row_sl hM.row (Nat.lt_of_le_of_lt (Nat.zero_le _) hM.box.lt)).below h) hM.lt (by omega) hp)
      have HP := hide hp
      clear hp
      have hS : ∀ W, Below wr.heap.size wr W → (Below wr.heap.size wr W ∧ W.cell? ⟨w.heap.size, 0, none⟩ = some (.int .i64 n) ∧ W.cell? ⟨w.heap.size, 1, none⟩ = some (.slice v1 v2 v3)) := fun W h => ⟨h, below_cell h c0, below_cell h c1⟩
      have hS0 := hS _ (bdrew (Below.refl _ wr))
      by_cases hall : (lst n p).length < n
      · have halli : (((lst n p).length : Nat) : Int) < (n : Int) := by omega
        go_wp2_with fail
        clear c0 c1
        go_region_held3 (fun W => Below wr.heap.size wr W ∧ W.cell? ⟨w.heap.size, 0, none⟩ = some (.int .i64 n) ∧ W.cell? ⟨w.heap.size, 1, none⟩ = some (.slice v1 v2 v3))
          (first | exact hS0 | assumption | exact hS _ (bcat2 (And.left ‹_›) hl1))
          (first | (go_at_call 20; refine (HSP.out _ (And.left ‹_›)).mono ?_; rintro e1 W1 ⟨r1, rfl, hr1, hl1⟩; obtain ⟨t1, t3, ht9⟩ := own_slice hr1; rw [li_len] at ht9; subst ht9))
        all_goals (
          obtain ⟨hB9, c0, c1⟩ := ‹Below wr.heap.size wr W1 ∧ _›
          clear hr1 hl1
          go_wp2_with fail
          clear c0 c1
          refine (HSP.out _ hB9).mono ?_
          rintro x W2 ⟨r2, rfl, hr2, hl2⟩
          obtain ⟨t5, t7, ht9⟩ := own_slice hr2
          rw [li_len] at ht9
          subst ht9
          have hB2 := bcat2 hB9 hl2
          have hsl2 := row_sl hr2 (Nat.lt_of_lt_of_le (Nat.lt_of_le_of_lt (Nat.zero_le _) hM.box.lt) hB2.size)
          go_wp2_with fail
          refine (rhas_ok _ _ _ _ hsl2).mono ?_
          rintro x W3 ⟨rfl, hW3⟩
          subst hW3
          have hX2 := blk_below hM.box hB2
          have hR2 := row_below hM.row hB2
          have hBw := bcat2 hM.bel hB2
          have hdm : decide ((j : Int) ∈ li (lst n p)) = p (j) := by
            rw [Bool.eq_iff_iff, decide_eq_true_eq]
            constructor
            · intro h9
              obtain ⟨z, hz, he⟩ := List.mem_map.1 h9
              have : z = j := by omega
              subst this
              exact (mem_lst.1 hz).2
            · intro h9
              exact List.mem_map.2 ⟨j, mem_lst.2 ⟨by omega, h9⟩, by omega⟩
          rw [hdm]
          cases hpk : p (j)
          · go_wp2_with (first
              | (at_builtin; refine wpList_append_own _ rfl _ _ 22 rfl w.heap.size 3 i0 (.int .i64 0) 1 8 under22b hi hz0 hz1 hz2 rfl (by decide) _ _ _ rfl (World.ownsRow.alloc hR2 _) ⟨W3.heap.size, 0, none⟩ 1 1 [.int .i64 (j : Int)] rfl rfl ?c1 ?c2 ?c3 ?c4 ?c5 ?_))
            case c1 => exact cell_one_new _ _ _
            case c2 => simp [Value.oneCell']
            case c3 => unfold maxLen; rw [li_len]; omega
            case c4 => rw [li_len]; omega
            case c5 => simp; have := hBw.size; omega
            intro v' w2 hown' hgrow _
            obtain ⟨g', cap', rfl⟩ := ownsRow_succ hown'
            have hB3 : Below w.heap.size w w2 := (hBw.alloc hBw.size _).grown hgrow (by simp; have := hBw.size; omega) (fun j e => owns_ge hR2 j e)
            have hX3 : BoxG w2 w.heap.size n (.slice v1 v2 v3) := (hX2.alloc _).grown hgrow (fun h9 => by
              have := owns_ge hR2 _ h9.symm
              rcases hR2.2 with ⟨h8, _⟩ | ⟨g9, cap9, cur9, h8, h7, h6, _⟩
              · rw [h8] at h9; simp [Value.ownBlock] at h9
              · rw [h8] at h9
                simp [Value.ownBlock] at h9
                subst h9
                have h5 : W3.heap[w.heap.size]? = _ := hX2
                rw [h6] at h5
                simp at h5)
            have hown5 : Row w2 w.heap.size (.slice (some ⟨g', 0, none⟩) ((li xs).length + 1) cap') (li (xs ++ [j])) := by
              unfold Row
              have : li (xs ++ [j]) = li xs ++ [(j : Int)] := by
                unfold li
                rw [List.map_append]
                simp
              rw [this]; simpa using hown'
            clear hown' hgrow
            go_wp2
            go_roundw
            case rel => exact ⟨j, xs ++ [j], by go_num, hown5, hX3, hB3, fun x hx => by
              rcases List.mem_append.1 hx with h9 | h9
              · exact hM.lt x h9
              · simp at h9; omega, by simp; omega, fun x hx hkx => by
              by_cases e9 : x = j
              · subst e9
                exact mkd_base hx (by simp)
              · exact mkd_mono (fun z hz => List.mem_append_left _ hz) (hM.gen x hx (by omega))⟩
            case measure => simp [intOf]
          · go_wp2
            go_roundw
            case rel => exact ⟨j, xs, by go_num, hR2, hX2, hBw, hM.lt, by omega, fun x hx hkx => by
              by_cases e9 : x = j
              · subst e9
                exact (HP.out _ hx).1 hpk
              · exact hM.gen x hx (by omega)⟩
            case measure => simp [intOf])
      · have halli : ¬ (((lst n p).length : Nat) : Int) < (n : Int) := by omega
        go_wp2_with fail
        clear c0 c1
        go_region_held3 (fun W => Below wr.heap.size wr W ∧ W.cell? ⟨w.heap.size, 0, none⟩ = some (.int .i64 n) ∧ W.cell? ⟨w.heap.size, 1, none⟩ = some (.slice v1 v2 v3))
          (first | exact hS0 | assumption | exact hS _ (bcat2 (And.left ‹_›) hl1))
          (first | (go_at_call 20; refine (HSP.out _ (And.left ‹_›)).mono ?_; rintro e1 W1 ⟨r1, rfl, hr1, hl1⟩; obtain ⟨t1, t3, ht9⟩ := own_slice hr1; rw [li_len] at ht9; subst ht9))
        all_goals (
          obtain ⟨hB9, c0, c1⟩ := ‹Below wr.heap.size wr W1 ∧ _›
          clear hr1 hl1 c0 c1
          go_wp2
          go_ret
          exact ⟨_, xs, rfl, row_below hM.row hB9, hM.lt, by omega, fun x hx => (HP.out x hx).1 (lst_full (by omega) hx), bcat2 hM.bel hB9⟩)
end Go.Proofs.YtmgengplfebmjaaDoor

namespace Go.Proofs.YtmgengplfebmjaaDoor
open Go Go.RowKit

/-- The document's search: js stand for the first makers. -/
def dhF (n : Nat) (zs : List Int) (e m : Nat) (ys : List Int) (d : Nat) (ks : List Nat) : Nat → List Nat → List (List Int)
  | 0, js => (match ext n zs e m ys d (ks.zip js) with | some S => [S.1] | none => [])
  | f + 1, js => (List.range m).flatMap fun b => if ordN n zs e (ks[js.length]?.getD 0) % ordN m ys d b = 0 then dhF n zs e m ys d ks f (js ++ [b]) else []
theorem dhF_none {n e m d : Nat} {zs ys : List Int} {ks js : List Nat} (g : IsGrp n zs e) (h : IsGrp m ys d) (hp : ∀ p, p ∈ ks.zip js → p.1 < n ∧ p.2 < m) (hall : ∀ x, x < n → Mkd n zs e (fun x => decide (x ∈ (ks.zip js).map Prod.fst)) x) (hno : ∀ φ, ¬ Leads n zs m ys (ks.zip js) φ) : dhF n zs e m ys d ks 0 js = [] := by
  unfold dhF
  cases hR : ext n zs e m ys d (ks.zip js) with
  | none => rfl
  | some S =>
    obtain ⟨H, _⟩ := ext_hom g h hp hR hall
    exact absurd ⟨H, fun p hpm => ext_at g h hp hR hpm⟩ (hno (vl S))
theorem dhF_some {n e m d : Nat} {zs ys : List Int} {ks js : List Nat} {φ : Nat → Nat} (g : IsGrp n zs e) (h : IsGrp m ys d) (hp : ∀ p, p ∈ ks.zip js → p.1 < n ∧ p.2 < m) (hall : ∀ x, x < n → Mkd n zs e (fun x => decide (x ∈ (ks.zip js).map Prod.fst)) x) (hφ : Leads n zs m ys (ks.zip js) φ) : dhF n zs e m ys d ks 0 js = [li ((List.range n).map φ)] := by
  unfold dhF
  obtain ⟨S, hR, hv⟩ := ext_of_hom g h hφ.1 (fun p hpm => ⟨(hp p hpm).1, hφ.2 p hpm⟩)
  rw [hR]
  obtain ⟨_, hS⟩ := ext_hom g h hp hR hall
  have hin : ∀ a, a < n → a ∈ S.2 := fun a ha => (ext_made g h hp hR).2 (hall a ha)
  show [S.1] = _
  rw [hS]
  congr 1
  unfold li
  rw [List.map_map, List.map_map]
  refine List.map_congr_left fun a ha => ?_
  have ha := List.mem_range.1 ha
  have h9 := hv a (hin a ha)
  show (vl S a : Int) = (φ a : Int)
  unfold vl
  omega
/-- What lies below a mark stays, but for the images' block and the box of what is found. -/
structure Kp (Bo tg ob : Nat) (W W' : World) : Prop where
  os : W'.os = W.os
  tape : W'.tape = W.tape
  output : W'.output = W.output
  size : W.heap.size ≤ W'.heap.size
  block : ∀ b, b < Bo → b ≠ tg → b ≠ ob → W'.heap[b]? = W.heap[b]?
section
variable {Bo tg ob : Nat} {W0 W W' : World}
theorem Kp.refl : Kp Bo tg ob W W := ⟨rfl, rfl, rfl, Nat.le_refl _, fun _ _ _ _ => rfl⟩
theorem Kp.below (h : Kp Bo tg ob W0 W) (hb : Below W.heap.size W W') (hB : Bo ≤ W.heap.size) : Kp Bo tg ob W0 W' :=
  ⟨hb.os.trans h.os, hb.tape.trans h.tape, hb.output.trans h.output, Nat.le_trans h.size hb.size, fun b h1 h2 h3 => (hb.block b (by omega)).trans (h.block b h1 h2 h3)⟩
theorem Kp.set (h : Kp Bo tg ob W0 W) (p : Addr) (v : Value) (hp : p.block = tg ∨ p.block = ob) : Kp Bo tg ob W0 (W.setCell p v) :=
  ⟨h.os, h.tape, h.output, by rw [size_set]; exact h.size, fun b h1 h2 h3 => (Below.heap_setCell W p v b (by rcases hp with hp | hp <;> omega)).trans (h.block b h1 h2 h3)⟩
theorem Kp.grown {row : Option Nat} (h : Kp Bo tg ob W0 W) (hg : W.grownBy W' row) (hB : Bo ≤ W.heap.size) (hr : ∀ j, row = some j → Bo ≤ j) : Kp Bo tg ob W0 W' :=
  ⟨hg.os.trans h.os, hg.tape.trans h.tape, hg.output.trans h.output, Nat.le_trans h.size hg.size, fun b h1 h2 h3 => (hg.block b (by omega) (fun h9 => by have := hr b h9.symm; omega)).trans (h.block b h1 h2 h3)⟩
theorem Kp.to_below (h : Kp Bo tg ob W0 W) {B : Nat} (h1 : B ≤ tg) (h2 : B ≤ ob) (h3 : B ≤ Bo) : Below B W0 W :=
  ⟨h.os, h.tape, h.output, h.size, fun b hb => h.block b (by omega) (by omega) (by omega)⟩
end
/-- How the images, and what is found, lie. -/
structure HmV (Bo tg ob : Nat) (W : World) (T : List Int) (os : List (List Int)) : Prop where
  sz : Bo ≤ W.heap.size
  tt : Blk W tg 3 (T.map (Value.int .i64))
  ex : ∃ r vs, Boxed W ob 25 r ∧ W.ownsRow Bo 22 1 r vs.length vs ∧ Lsts W Bo r vs os
section
variable {Bo tg ob : Nat} {W W' : World} {T : List Int} {os : List (List Int)}
theorem HmV.below (h : HmV Bo tg ob W T os) (hb : Below W.heap.size W W') : HmV Bo tg ob W' T os := by
  obtain ⟨r, vs, h1, h2, h3⟩ := h.ex
  exact ⟨Nat.le_trans h.sz hb.size, blk_below h.tt hb, r, vs, Boxed.below h1 hb, own_keep' h2 (fun g _ h9 => hb.block g h9), h3.keep hb.size (fun g _ h9 _ => hb.block g h9) (.inl rfl)⟩
theorem HmV.put (h : HmV Bo tg ob W T os) (hto : tg ≠ ob) (ht : tg < Bo) (k : Nat) (x : Int) : HmV Bo tg ob (W.setCell ⟨tg, k, none⟩ (.int .i64 x)) (T.set k x) os := by
  obtain ⟨r, vs, h1, h2, h3⟩ := h.ex
  have hk : ∀ c, c ≠ tg → (W.setCell ⟨tg, k, none⟩ (.int .i64 x)).heap[c]? = W.heap[c]? := fun c hc => Below.heap_setCell _ _ _ _ hc
  exact ⟨by rw [size_set]; exact h.sz, h.tt.setInt k x, r, vs, (hk _ (Ne.symm hto)).trans h1, own_keep' h2 (fun g h8 h9 => hk g (by omega)), h3.keep (by rw [size_set]; exact Nat.le_refl _) (fun g h8 h9 _ => hk g (by omega)) (.inl rfl)⟩
end
/-- What lies there all the while. -/
structure HmE (n : Nat) (zs : List Int) (e m : Nat) (ys : List Int) (d : Nat) (ks : List Nat) (v y : Value) (most : Nat) (l1 : Option Addr) (l3 lb gb hb tb mb rb nb rg Bo tg ob : Nat) (W0 : World) : Prop where
  fl : ∀ W, Kp Bo tg ob W0 W → Boxed W lb 22 (.slice l1 ks.length l3) ∧ Sl W (.slice l1 ks.length l3) (li ks)
  fg : ∀ W, Kp Bo tg ob W0 W → BoxG W gb n v ∧ Sl W v zs
  fh : ∀ W, Kp Bo tg ob W0 W → BoxG W hb m y ∧ Sl W y ys
  fm : ∀ W, Kp Bo tg ob W0 W → Boxed W mb 3 (.int .i64 most)
  fr : ∀ W, Kp Bo tg ob W0 W → Boxed W rb 22 (.slice (some ⟨rg, 0, none⟩) m m) ∧ Blk W rg 3 ((li ((List.range m).map (ordN m ys d))).map (Value.int .i64))
  fn : ∀ W, Kp Bo tg ob W0 W → Boxed W nb 42 (.func (.func 75) #[] #[.pointer (some ⟨lb, 0, none⟩), .pointer (some ⟨gb, 0, none⟩), .pointer (some ⟨hb, 0, none⟩), .pointer (some ⟨tb, 0, none⟩), .pointer (some ⟨ob, 0, none⟩), .pointer (some ⟨mb, 0, none⟩), .pointer (some ⟨rb, 0, none⟩), .pointer (some ⟨nb, 0, none⟩)])
  ft : ∀ W, Kp Bo tg ob W0 W → Boxed W tb 22 (.slice (some ⟨tg, 0, none⟩) ks.length ks.length)
  fne : tg ≠ ob
  ftl : tg < Bo
  fol : ob < Bo
/-- How the search ends. -/
def HmP (n : Nat) (zs : List Int) (e m : Nat) (ys : List Int) (d : Nat) (ks : List Nat) (most Bo tg ob : Nat) (W0 : World) (f : Nat) (js : List Nat) (os : List (List Int)) (x : Ending) (W' : World) : Prop :=
  Kp Bo tg ob W0 W' ∧ Bo ≤ W'.heap.size ∧ x = .returned (.bool (decide ((os ++ dhF n zs e m ys d ks f js).length ≤ most))) ∧ ((os ++ dhF n zs e m ys d ks f js).length ≤ most → ∃ T', HmV Bo tg ob W' T' (os ++ dhF n zs e m ys d ks f js) ∧ T'.length = ks.length ∧ T'.take js.length = li js)
theorem call75 (a x1 x2 x3 x4 x5 x6 x7 x8 : Value) (W : World) : Sem.run Tryd.prog (callFunc 75 (#[a] ++ #[x1, x2, x3, x4, x5, x6, x7, x8])) W = .ok (.enter 75 (#[a] ++ #[x1, x2, x3, x4, x5, x6, x7, x8])) W := by kernel_rfl
theorem nilq3 (w : World) : Sem.run Tryd.prog (binOp BinOp.neq 22 (.slice none 0 0) (.slice none 0 0)) w = .ok (.bool false) w := by kernel_rfl
theorem nilq4 (g l : Nat) (w : World) : Sem.run Tryd.prog (binOp BinOp.neq 22 (.slice (some ⟨g, 0, none⟩) l l) (.slice none 0 0)) w = .ok (.bool true) w := by kernel_rfl
set_option maxRecDepth 100000 in
set_option maxHeartbeats 8000000 in
theorem homs_leaf {n e m d : Nat} {zs ys : List Int} {ks : List Nat} {v1 : Option Addr} {v2 v3 : Nat} {y1 : Option Addr} {y2 y3 most : Nat} {l1 : Option Addr} {l3 lb gb hb tb mb rb nb rg Bo tg ob : Nat} {W0 : World}
    (hg : IsGrp n zs e) (hh : IsGrp m ys d) (hE : HmE n zs e m ys d ks (.slice v1 v2 v3) (.slice y1 y2 y3) most l1 l3 lb gb hb tb mb rb nb rg Bo tg ob W0) (hkn : ∀ k, k ∈ ks → k < n) (hks : ks.length ≤ n) (hmost : most ≤ 10000) (hall : ∀ x, x < n → Mkd n zs e (fun a => decide (a ∈ ks)) x)
    (js : List Nat) (T : List Int) (os : List (List Int)) (W : World) (hjl : js.length = ks.length) (hjm : ∀ j, j ∈ js → j < m) (hK : Kp Bo tg ob W0 W) (hV : HmV Bo tg ob W T os) (hTl : T.length = ks.length) (hTj : T.take js.length = li js) (hos : os.length ≤ most) :
    Calls Tryd.prog 75 (#[.int .i64 js.length] ++ #[.pointer (some ⟨lb, 0, none⟩), .pointer (some ⟨gb, 0, none⟩), .pointer (some ⟨hb, 0, none⟩), .pointer (some ⟨tb, 0, none⟩), .pointer (some ⟨ob, 0, none⟩), .pointer (some ⟨mb, 0, none⟩), .pointer (some ⟨rb, 0, none⟩), .pointer (some ⟨nb, 0, none⟩)]) W (HmP n zs e m ys d ks most Bo tg ob W0 0 js os) := by
  show Calls Tryd.prog 75 #[.int .i64 js.length, .pointer (some ⟨lb, 0, none⟩), .pointer (some ⟨gb, 0, none⟩), .pointer (some ⟨hb, 0, none⟩), .pointer (some ⟨tb, 0, none⟩), .pointer (some ⟨ob, 0, none⟩), .pointer (some ⟨mb, 0, none⟩), .pointer (some ⟨rb, 0, none⟩), .pointer (some ⟨nb, 0, none⟩)] W _
  obtain ⟨i2, hi2, hz0, hz1, hz2⟩ := info_parts info22b
  have hn60 := hg.tab.le
  rw [hjl] at hTj ⊢
  rw [← hTl, List.take_length] at hTj
  have hz1' : (ks.zip js).map Prod.fst = ks := List.map_fst_zip (by omega)
  have hz2' : (ks.zip js).map Prod.snd = js := List.map_snd_zip (by omega)
  have hp : ∀ p, p ∈ ks.zip js → p.1 < n ∧ p.2 < m := fun p hp => ⟨hkn _ (List.of_mem_zip hp).1, hjm _ (List.of_mem_zip hp).2⟩
  have hall' : ∀ x, x < n → Mkd n zs e (fun x => decide (x ∈ (ks.zip js).map Prod.fst)) x := by rw [hz1']; exact hall
  obtain ⟨hl0, hlS⟩ := hE.fl W hK
  obtain ⟨hg0, hgS⟩ := hE.fg W hK
  obtain ⟨hh0, hhS⟩ := hE.fh W hK
  have ht0 := hE.ft W hK
  have hTS : Sl W (.slice (some ⟨tg, 0, none⟩) ks.length ks.length) (li js) := by
    rw [← hTj]
    exact Sl.of_blk hV.tt hTl.symm (by omega)
  have HSP := hide (spread_ok n e m d (.slice v1 v2 v3) (.slice y1 y2 y3) (.slice l1 ks.length l3) (.slice (some ⟨tg, 0, none⟩) ks.length ks.length) zs ys (ks.zip js) W hg hh hgS hhS (by rw [hz1']; exact hlS) (by rw [hz2']; exact hTS) hp hall')
  have c0 := hl0.cell
  obtain ⟨c1, c2, _, _⟩ := hg0.two
  obtain ⟨c3, c4, _, _⟩ := hh0.two
  have c5 := ht0.cell
  have HNO := hide (dhF_none (d := d) hg hh hp hall')
  have HSO := hide (fun φ (hφ : Leads n zs m ys (ks.zip js) φ) => dhF_some (d := d) hg hh hp hall' hφ)
  have HTL := hide hTl
  have HTJ := hide hTj
  have HJL := hide hjl
  clear hlS hgS hhS hTS hp hall' hz1' hz2' hTl hTj hjl hl0 hg0 hh0 ht0
  go_enter Tryd.func75, Tryd.ntmps75
  go_wp2_with fail
  clear c0 c1 c2 c3 c4 c5
  refine HSP.out.mono ?_
  rintro x W1 ⟨hb1, hcase⟩
  have hK1 := hK.below hb1 hV.sz
  have hV1 := hV.below hb1
  have hm1 := (hE.fm W1 hK1).cell
  rcases hcase with ⟨rfl, hno⟩ | ⟨φ, g, hφ, rfl, hgW, hgB⟩
  · have hd := HNO.out hno
    obtain ⟨r, vs, hr1, hr2, hr3⟩ := hV1.ex
    obtain ⟨ra, rc, rfl⟩ := own_slice' hr2
    have hvl := hr3.1
    have k0 := hr1.cell
    have hle : ((vs.length : Nat) : Int) ≤ (most : Int) := by omega
    have hq := nilq3 W1
    have HVL := hide hvl
    clear hvl
    go_wp2
    go_ret
    refine ⟨hK1, hV1.sz, ?_, ?_⟩
    · rw [hd, List.append_nil, decide_eq_true hos]; rfl
    · rw [hd, List.append_nil]
      exact fun _ => ⟨T, hV1, HTL.out, by rw [HJL.out, ← HTL.out, List.take_length]; exact HTJ.out⟩
  · have hd := HSO.out φ hφ
    obtain ⟨r, vs, hr1, hr2, hr3⟩ := hV1.ex
    obtain ⟨ra, rc, rfl⟩ := own_slice' hr2
    have HOB := hide (show ∀ j, (Value.slice ra vs.length rc).ownBlock = some j → j < W.heap.size from fun j hj => by
      obtain ⟨r9, vs9, h91, h92, _⟩ := hV.ex
      have h93 := (Boxed.below h91 hb1).cell
      rw [hr1.cell] at h93
      injection h93 with h93
      subst h93
      rcases h92.2 with ⟨h8, _⟩ | ⟨g9, cap9, cur9, h8, h7, h6, _⟩
      · rw [h8] at hj; simp [Value.ownBlock] at hj
      · rw [h8] at hj
        simp [Value.ownBlock] at hj
        subst hj
        exact (Array.getElem?_eq_some_iff.1 h6).1)
    have hvl := hr3.1
    have k0 := hr1.cell
    have kf := hr1.frozen
    have hq := nilq4 g n W1
    have HVL := hide hvl
    have hv9 : vs.length ≤ 10000 := by omega
    have hB1 := hV1.sz
    clear hvl
    go_wp2_with (first
      | (at_builtin; refine wpList_append_own_at _ rfl _ _ 25 rfl Bo 22 i2 (.slice none 0 0) 1 24 under25b hi2 hz0 hz1 hz2 rfl (by decide) _ _ _ rfl (World.ownsRow.alloc hr2 _) ⟨W1.heap.size, 0, none⟩ 1 1 [.slice (some ⟨g, 0, none⟩) n n] rfl rfl ?c1 ?c2 ?c3 ?c4 ?c5 ?_))
    case c1 => exact cell_one_new _ _ _
    case c2 => simp [Value.oneCell']
    case c3 => unfold maxLen; omega
    case c4 => omega
    case c5 => simp; omega
    intro v' W2 hown' hgrow hnil hloc
    obtain ⟨ra', rcap', rfl⟩ := own_slice' hown'
    have hge := owns_ge hr2
    have hob : ∀ j, (Value.slice ra vs.length rc).ownBlock = some j → j < W.heap.size := HOB.out
    have hne : ∀ b, b < Bo → some b ≠ (Value.slice ra vs.length rc).ownBlock := fun b h1 h2 => by have := hge b h2.symm; omega
    have hO2 : Boxed W2 ob 25 (.slice ra vs.length rc) := (hr1.alloc _).kept hgrow (hne _ hE.fol)
    have hK2 : Kp Bo tg ob W0 W2 := (hK1.below (balloc W1 _) hB1).grown hgrow (by simp; omega) (fun j e => hge j e)
    have hT2 : Blk W2 tg 3 (T.map (Value.int .i64)) := (hV1.tt.alloc _).grown hgrow (hne _ hE.ftl)
    have hszw : W1.heap.size + 1 ≤ W2.heap.size := by have := hgrow.size; simpa using this
    have hK3 := hK2.set ⟨ob, 0, none⟩ (.slice ra' (vs.length + 1) rcap') (.inr rfl)
    have hO3 := hO2.set (.slice ra' (vs.length + 1) rcap')
    have hT3 : Blk (W2.setCell ⟨ob, 0, none⟩ (.slice ra' (vs.length + 1) rcap')) tg 3 (T.map (Value.int .i64)) := hT2.other (p := ⟨ob, 0, none⟩) hE.fne _
    have hkeep : ∀ b, b < W1.heap.size → b ≠ ob → (Value.slice ra vs.length rc).ownBlock ≠ some b → (W2.setCell ⟨ob, 0, none⟩ (.slice ra' (vs.length + 1) rcap')).heap[b]? = W1.heap[b]? := fun b h1 h2 h3 => by
      rw [Below.heap_setCell _ _ _ _ h2, hgrow.block b (by simp; omega) (fun e => h3 e.symm)]
      exact Below.heap_alloc _ _ _ h1
    have hlo : (Value.slice ra' (vs.length + 1) rcap').ownBlock = (Value.slice ra vs.length rc).ownBlock ∨ ∀ g, (Value.slice ra' (vs.length + 1) rcap').ownBlock = some g → W1.heap.size ≤ g := by
      rcases hloc with h | h
      · exact .inl h
      · right; intro g hg; rw [h] at hg; simp at hg; omega
    have hgn : (Value.slice ra vs.length rc).ownBlock ≠ some g := fun e => by have := hob g e; omega
    have hgn' : ∀ b, (Value.slice ra' (vs.length + 1) rcap').ownBlock = some b → g ≠ b := fun b hb e => by
      subst e
      rcases hlo with h | h
      · exact hgn (h.symm.trans hb)
      · have := h g hb; have := hgB.lt; omega
    have hgo : g ≠ ob := fun e => by have := hE.fol; have := hV.sz; omega
    have hM5 : Blk (W2.setCell ⟨ob, 0, none⟩ (.slice ra' (vs.length + 1) rcap')) g 3 ((li ((List.range n).map φ)).map (Value.int .i64)) := (hkeep g hgB.lt hgo hgn).trans hgB
    have hcl : (li ((List.range n).map φ)).length = n := by simp [li]
    have hV3 : HmV Bo tg ob (W2.setCell ⟨ob, 0, none⟩ (.slice ra' (vs.length + 1) rcap')) T (os ++ [li ((List.range n).map φ)]) := by
      refine ⟨by rw [size_set]; omega, hT3, .slice ra' (vs.length + 1) rcap', vs ++ [.slice (some ⟨g, 0, none⟩) n n], hO3, ?_, ?_⟩
      · rw [List.length_append]
        exact own_keep' hown' (fun b h1 h2 => Below.heap_setCell _ _ _ _ (by have := hE.fol; simp; omega))
      · refine (hr3.keep (by rw [size_set]; omega) (fun b h1 h2 h3 => hkeep b h2 (by have := hE.fol; omega) h3) hlo).snoc ?_
        exact ⟨some ⟨g, 0, none⟩, n, g, 0, by rw [hcl], ⟨fun _ => rfl, fun j hj => by rw [Nat.zero_add]; exact hM5.int hj⟩, hM5.lt, by omega, by unfold maxLen; omega, by have := hV.sz; omega, hgn'⟩
    have k1 := hO2.cell
    have kf1 := hO2.frozen
    have k3 := hO3.cell
    have hm3 := (hE.fm _ hK3).cell
    have HK3 := hide hK3
    have HV3 := hide hV3
    clear hM5 hgo hgn' hgn hlo hkeep hT3 hO3 hK3 hK2 hT2 hO2 hne hob hge hown' hgrow hnil hloc hV3 hcl hm1 kf k0
    have hvo : vs.length + 1 = (os ++ [li ((List.range n).map φ)]).length := by rw [List.length_append, HVL.out]; rfl
    have HVO := hide hvo
    clear hvo
    by_cases hle : vs.length + 1 ≤ most
    · have hlei : ((vs.length + 1 : Nat) : Int) ≤ (most : Int) := by omega
      have hlej : ((vs.length : Nat) : Int) + 1 ≤ (most : Int) := by omega
      go_wp2
      go_ret
      refine ⟨HK3.out, HV3.out.sz, ?_, ?_⟩
      · rw [hd, ← HVO.out, decide_eq_true hle]; rfl
      · rw [hd]
        exact fun _ => ⟨T, HV3.out, HTL.out, by rw [HJL.out, ← HTL.out, List.take_length]; exact HTJ.out⟩
    · have hlei : ¬ ((vs.length + 1 : Nat) : Int) ≤ (most : Int) := by omega
      have hlej : ¬ ((vs.length : Nat) : Int) + 1 ≤ (most : Int) := by omega
      go_wp2
      go_ret
      refine ⟨HK3.out, HV3.out.sz, ?_, ?_⟩
      · rw [hd, ← HVO.out, decide_eq_false hle]; rfl
      · rw [hd, ← HVO.out]
        exact fun h => absurd h hle
theorem take_set_one {T : List Int} {k : Nat} {x : Int} (h : k < T.length) : (T.set k x).take (k + 1) = T.take k ++ [x] := by
  rw [List.take_set, List.take_succ_eq_append_getElem h, List.set_append_right _ _ (by rw [List.length_take]; omega)]
  rw [List.length_take, show k - min k T.length = 0 by omega]
  rfl
theorem flat_succ {α : Type} (F : Nat → List α) (y : Nat) : (List.range (y + 1)).flatMap F = (List.range y).flatMap F ++ F y := by
  rw [List.range_succ, List.flatMap_append]
  simp
theorem flat_le {α : Type} (F : Nat → List α) {y m : Nat} (h : y ≤ m) : ((List.range y).flatMap F).length ≤ ((List.range m).flatMap F).length := by
  obtain ⟨k, rfl⟩ : ∃ k, m = y + k := ⟨m - y, by omega⟩
  induction k with
  | zero => exact Nat.le_refl _
  | succ k ih => rw [← Nat.add_assoc, flat_succ, List.length_append]; have := ih (by omega); omega
set_option maxRecDepth 100000 in
set_option maxHeartbeats 8000000 in
theorem homs_next {n e m d : Nat} {zs ys : List Int} {ks : List Nat} {v1 : Option Addr} {v2 v3 : Nat} {y1 : Option Addr} {y2 y3 most : Nat} {l1 : Option Addr} {l3 lb gb hb tb mb rb nb rg Bo tg ob : Nat} {W0 : World}
    (hg : IsGrp n zs e) (hh : IsGrp m ys d) (hE : HmE n zs e m ys d ks (.slice v1 v2 v3) (.slice y1 y2 y3) most l1 l3 lb gb hb tb mb rb nb rg Bo tg ob W0) (hkn : ∀ k, k ∈ ks → k < n) (hks : ks.length ≤ n) (hmost : most ≤ 10000) (hall : ∀ x, x < n → Mkd n zs e (fun a => decide (a ∈ ks)) x) :
    ∀ (f : Nat) (js : List Nat) (T : List Int) (os : List (List Int)) (W : World), js.length + f = ks.length → (∀ j, j ∈ js → j < m) → Kp Bo tg ob W0 W → HmV Bo tg ob W T os → T.length = ks.length → T.take js.length = li js → os.length ≤ most →
    Calls Tryd.prog 75 (#[.int .i64 js.length] ++ #[.pointer (some ⟨lb, 0, none⟩), .pointer (some ⟨gb, 0, none⟩), .pointer (some ⟨hb, 0, none⟩), .pointer (some ⟨tb, 0, none⟩), .pointer (some ⟨ob, 0, none⟩), .pointer (some ⟨mb, 0, none⟩), .pointer (some ⟨rb, 0, none⟩), .pointer (some ⟨nb, 0, none⟩)]) W (HmP n zs e m ys d ks most Bo tg ob W0 f js os) := by
  have hn60 := hg.tab.le
  have hm60 := hh.tab.le
  intro f
  induction f with
  | zero => exact fun js T os W h1 h2 h3 h4 h5 h6 h7 => homs_leaf hg hh hE hkn hks hmost hall js T os W h1 h2 h3 h4 h5 h6 h7
  | succ f ih =>
    intro js T os W hjl hjm hK hV hTl hTj hos
    show Calls Tryd.prog 75 #[.int .i64 js.length, .pointer (some ⟨lb, 0, none⟩), .pointer (some ⟨gb, 0, none⟩), .pointer (some ⟨hb, 0, none⟩), .pointer (some ⟨tb, 0, none⟩), .pointer (some ⟨ob, 0, none⟩), .pointer (some ⟨mb, 0, none⟩), .pointer (some ⟨rb, 0, none⟩), .pointer (some ⟨nb, 0, none⟩)] W _
    have HIH := hide ih
    clear ih
    obtain ⟨F, hF⟩ : ∃ F : Nat → List (List Int), F = fun b => if ordN n zs e (ks[js.length]?.getD 0) % ordN m ys d b = 0 then dhF n zs e m ys d ks f (js ++ [b]) else [] := ⟨_, rfl⟩
    have hdF : dhF n zs e m ys d ks (f + 1) js = (List.range m).flatMap F := by rw [hF]; rfl
    have hjk : js.length < ks.length := by omega
    obtain ⟨c, hc⟩ : ∃ c, ks[js.length] = c := ⟨_, rfl⟩
    have hcn : c < n := by rw [← hc]; exact hkn _ (List.getElem_mem hjk)
    rw [show ks[js.length]?.getD 0 = c by rw [List.getElem?_eq_getElem hjk, Option.getD_some, hc]] at hF
    have hop := ord_pos (n := n) (zs := zs) (e := e) c
    have hol := ord_le hg hcn
    have HO := hide (fun W9 (h : Below W.heap.size W W9) => O_ok hg hcn (.slice v1 v2 v3) W9 ((hE.fg W hK).2.below h))
    have HORD := hide (fun b (hb9 : b < m) => And.intro (ord_pos (n := m) (zs := ys) (e := d) b) (ord_le hh hb9))
    generalize ordN n zs e c = oc at *
    obtain ⟨hl0, hlS⟩ := hE.fl W hK
    obtain ⟨hg0, hgS⟩ := hE.fg W hK
    obtain ⟨la, lcap, lpb, lpo, hlv, hlr, hlp, hl4, hl5⟩ := hlS
    injection hlv with e1 e2 e3
    subst e1 e3
    obtain rfl := hlr.at_ (by rw [li_len]; omega)
    have cl := hlr.cell js.length (by rw [li_len]; exact hjk)
    rw [li_get hjk, hc] at cl
    have c0 := hl0.cell
    obtain ⟨c1, c2, _, _⟩ := hg0.two
    have hjk1 : ¬ ((js.length : Nat) : Int) = ((ks.length : Nat) : Int) := by omega
    have hjk2 : ((js.length : Nat) : Int) < ((ks.length : Nat) : Int) := by omega
    have hS : ∀ W9, Below W.heap.size W W9 → (Below W.heap.size W W9 ∧ W9.cell? ⟨lb, 0, none⟩ = some (.slice (some ⟨lpb, lpo, none⟩) ks.length l3) ∧ W9.cell? ⟨gb, 0, none⟩ = some (.int .i64 n) ∧ W9.cell? ⟨gb, 1, none⟩ = some (.slice v1 v2 v3) ∧ W9.cell? ⟨lpb, lpo + js.length, none⟩ = some (.int .i64 c)) := fun W9 h => ⟨h, below_cell h c0, below_cell h c1, below_cell h c2, below_cell h cl⟩
    have hS0 := hS _ (bdrew (Below.refl _ W))
    have HJ := hide hjl
    have HTL := hide hTl
    have HTJ := hide hTj
    have HF := hide hF
    have HDF := hide hdF
    clear hjl hTl hTj hF hdF hlr hl4 hl5 hc e2 hl0 hg0 hgS
    go_enter Tryd.func75, Tryd.ntmps75
    go_wp2_with fail
    clear c0 c1 c2 cl
    go_region_held3 (fun W9 => Below W.heap.size W W9 ∧ W9.cell? ⟨lb, 0, none⟩ = some (.slice (some ⟨lpb, lpo, none⟩) ks.length l3) ∧ W9.cell? ⟨gb, 0, none⟩ = some (.int .i64 n) ∧ W9.cell? ⟨gb, 1, none⟩ = some (.slice v1 v2 v3) ∧ W9.cell? ⟨lpb, lpo + js.length, none⟩ = some (.int .i64 c))
      (first | exact hS0 | assumption | exact hS _ (bcat2 (And.left ‹_›) hq1))
      (first | (go_at_call 47; refine (HO.out _ (And.left ‹_›)).mono ?_; rintro e1 W1 ⟨rfl, hq1⟩))
    all_goals (
      have hB1 := And.left ‹Below W.heap.size W W1 ∧ _›
      have hK1 := hK.below hB1 hV.sz
      have hV1 := hV.below hB1
      clear hS hS0 hq1
      go_wp2
      go_loopw [13] (fun i wr => ∃ (b : Nat) (T' : List Int), b ≤ m ∧ i = .int .i64 b ∧ Kp Bo tg ob W0 wr ∧ HmV Bo tg ob wr T' (os ++ (List.range b).flatMap F) ∧ T'.length = ks.length ∧ T'.take js.length = li js ∧ (os ++ (List.range b).flatMap F).length ≤ most) (fun i _ => m - (intOf i).toNat)
      case atStart => exact ⟨0, T, Nat.zero_le _, rfl, hK1, by simpa using hV1, HTL.out, HTJ.out, by simpa using hos⟩
      case round =>
        obtain ⟨b, T', hbm, rfl, hKb, hVb, hTl, hTj, hob⟩ := hrel
        obtain ⟨h0, _⟩ := hE.fh wr hKb
        obtain ⟨d0, d1, _, _⟩ := h0.two
        by_cases hlt : b < m
        · have hbi : (b : Int) < (m : Int) := by omega
          obtain ⟨hr0, hrB⟩ := hE.fr wr hKb
          have k0 := hr0.cell
          have k1 := hrB.int (y := b) (by rw [li_len]; simpa using hlt)
          rw [show (li ((List.range m).map (ordN m ys d)))[b]?.getD 0 = (ordN m ys d b : Int) by simp [li, hlt]] at k1
          obtain ⟨ho1, ho2⟩ := HORD.out b hlt
          obtain ⟨q, hq⟩ : ∃ q, oc % ordN m ys d b = q := ⟨_, rfl⟩
          have hFb : F b = if q = 0 then dhF n zs e m ys d ks f (js ++ [b]) else [] := by rw [HF.out, ← hq]
          have HFB := hide hFb
          have HFS := hide (flat_succ F b)
          have HFL := hide (flat_le F (show b + 1 ≤ m by omega))
          generalize ordN m ys d b = o at *
          have hrm : (oc : Int).tmod (o : Int) = (q : Int) := by rw [← hq]; exact tmod_nat o rfl
          have hqn : q ≤ 60 := by rw [← hq]; exact Nat.le_trans (Nat.mod_le _ _) (by omega)
          have hwq : IntKind.i64.wrap (q : Int) = (q : Int) := by rw [IntKind.wrap_i64]; omega
          have ho0 : ¬ o = 0 := by omega
          have ho0i : ¬ (o : Int) = 0 := by omega
          have HTl := hide hTl
          have HTj := hide hTj
          have HOb := hide hob
          clear hq hFb hTl hTj hob
          by_cases hq0 : q = 0
          · subst hq0
            have hrm : (oc : Int).tmod (o : Int) = 0 := hrm
            have HFB2 : Hid (F b = dhF n zs e m ys d ks f (js ++ [b])) := by
              have h9 := HFB.out
              rw [if_pos rfl] at h9
              exact h9
            clear HFB
            have ht0 := (hE.ft wr hKb).cell
            have kt := hVb.tt.int (y := js.length) (by rw [HTl.out]; exact hjk)
            have kf := hVb.tt.frozen js.length
            have hK2 := hKb.set ⟨tg, js.length, none⟩ (.int .i64 b) (.inl rfl)
            have hV2 := hVb.put hE.fne hE.ftl js.length b
            have kn := (hE.fn _ hK2).cell
            have hw9 : IntKind.i64.wrap ((js.length : Int) + 1) = (js.length : Int) + 1 := by rw [IntKind.wrap_i64]; omega
            have HC := hide (show Calls Tryd.prog 75 (#[.int .i64 ((js.length : Int) + 1)] ++ #[.pointer (some ⟨lb, 0, none⟩), .pointer (some ⟨gb, 0, none⟩), .pointer (some ⟨hb, 0, none⟩), .pointer (some ⟨tb, 0, none⟩), .pointer (some ⟨ob, 0, none⟩), .pointer (some ⟨mb, 0, none⟩), .pointer (some ⟨rb, 0, none⟩), .pointer (some ⟨nb, 0, none⟩)]) (wr.setCell ⟨tg, js.length, none⟩ (.int .i64 b)) (HmP n zs e m ys d ks most Bo tg ob W0 f (js ++ [b]) (os ++ (List.range b).flatMap F)) from by
              have h9 := HIH.out (js ++ [b]) (T'.set js.length b) (os ++ (List.range b).flatMap F) (wr.setCell ⟨tg, js.length, none⟩ (.int .i64 b)) (by rw [List.length_append]; have := HJ.out; simp; omega) (fun j hj => by
                rcases List.mem_append.1 hj with h8 | h8
                · exact hjm j h8
                · simp at h8; omega) hK2 hV2 (by rw [List.length_set]; exact HTl.out) (by
                rw [List.length_append]
                show (T'.set js.length b).take (js.length + 1) = _
                rw [take_set_one (by rw [HTl.out]; exact hjk), HTj.out]
                simp [li]) HOb.out
              rw [show (((js ++ [b]).length : Nat) : Int) = (js.length : Int) + 1 by simp] at h9
              exact h9)
            have hcall := call75
            clear hV2 hK2
            go_wp2_with fail
            refine HC.out.mono ?_
            rintro x W2 ⟨hK3, hs3, rfl, hok⟩
            rw [List.append_assoc, ← HFB2.out, ← HFS.out] at hok ⊢
            by_cases hle : (os ++ (List.range (b + 1)).flatMap F).length ≤ most
            · obtain ⟨T2, hV3, hT3, hT4⟩ := hok hle
              rw [decide_eq_true hle]
              have hT5 : T2.take js.length = li js := by
                have := congrArg (List.take js.length) hT4
                rw [List.take_take, List.length_append] at this
                rw [show min js.length (js.length + [b].length) = js.length by simp] at this
                rw [this]
                simp [li]
              clear hok
              go_wp2
              go_roundw
              case rel => exact ⟨b + 1, T2, by omega, by go_num, hK3, hV3, hT3, hT5, hle⟩
              case measure => simp [intOf]; omega
            · rw [decide_eq_false hle]
              clear hok
              go_wp2
              go_ret
              have hgt : ¬ (os ++ (List.range m).flatMap F).length ≤ most := by
                have := HFL.out
                rw [List.length_append] at hle ⊢
                omega
              refine ⟨hK3, hs3, ?_, ?_⟩
              · rw [HDF.out, decide_eq_false hgt]; rfl
              · rw [HDF.out]
                exact fun h => absurd h hgt
          · have hqi : ¬ (q : Int) = 0 := by omega
            have hFe : (List.range (b + 1)).flatMap F = (List.range b).flatMap F := by
              have h9 := HFB.out
              rw [if_neg hq0] at h9
              rw [HFS.out, h9, List.append_nil]
            go_wp2
            go_roundw
            case rel => exact ⟨b + 1, T', by omega, by go_num, hKb, by rw [hFe]; exact hVb, HTl.out, HTj.out, by rw [hFe]; exact HOb.out⟩
            case measure => simp [intOf]; omega
        · have hbi : ¬ (b : Int) < (m : Int) := by omega
          have hbe : b = m := by omega
          go_wp2
          go_ret
          refine ⟨hKb, hVb.sz, ?_, ?_⟩
          · rw [HDF.out, ← hbe, decide_eq_true hob]; rfl
          · rw [HDF.out, ← hbe]
            exact fun _ => ⟨T', hVb, hTl, hTj⟩)
end Go.Proofs.YtmgengplfebmjaaDoor

namespace Go.Proofs.YtmgengplfebmjaaDoor
open Go Go.RowKit

set_option maxRecDepth 100000 in
set_option maxHeartbeats 2000000 in
theorem less_ok (u v : Value) (xs ys : List Int) (w : World) (hu : Sl w u xs) (hv : Sl w v ys) (hl : xs.length = ys.length) :
    Calls Tryd.prog 39 #[u, v] w fun e w' => e = .returned (.bool (decide (cmpL xs ys < 0))) ∧ Below w.heap.size w w' := by
  obtain ⟨a, cap, pb, po, rfl, hr, hp, hc1, hm1⟩ := hu
  obtain ⟨b, cap', qb, qo, rfl, hs, hq, hc2, hm2⟩ := hv
  unfold maxLen at hm1 hm2
  have HL := hide hl
  have hle1 : xs.length ≤ ys.length := by omega
  have hle2 : ys.length ≤ xs.length := by omega
  clear hl
  go_enter Tryd.func39, Tryd.ntmps39
  go_wp2
  go_loopw [5] (fun i wr => ∃ k j : Nat, k ≤ xs.length ∧ i = .int .i64 k ∧ wr = w.drewN j ∧ cmpL xs ys = cmpL (xs.drop k) (ys.drop k)) (fun i _ => xs.length - (intOf i).toNat)
  case atStart => exact ⟨0, 0, Nat.zero_le _, rfl, rfl, by simp⟩
  case round =>
    obtain ⟨k, j, hk, rfl, rfl, hsame⟩ := hrel
    have HS := hide hsame
    clear hsame
    by_cases hlt : k < xs.length
    · have hlu : k < ys.length := by omega
      have hx := hr.cell k hlt
      have hy := hs.cell k hlu
      have HE := hide (cmpL_step hlt hlu)
      rw [List.getElem?_eq_getElem hlt, Option.getD_some] at hx
      rw [List.getElem?_eq_getElem hlu, Option.getD_some] at hy
      obtain rfl := hr.at_ (by omega)
      obtain rfl := hs.at_ (by omega)
      generalize xs[k] = x at *
      generalize ys[k] = y at *
      have hki : (k : Int) < (xs.length : Int) := by omega
      have hkj : (k : Int) < (ys.length : Int) := by omega
      by_cases hxy : x = y
      · have hb : (x != y) = false := by simp [hxy]
        have HN := hide (show cmpL xs ys = cmpL (xs.drop (k + 1)) (ys.drop (k + 1)) by
          rw [HS.out, HE.out, if_neg (by rw [Decidable.not_not]; exact cmpI_zero.2 hxy)])
        clear hxy
        go_wp2
        go_quiet (fail)
        go_wp2
        go_roundw
        case rel => exact ⟨k + 1, _, by omega, by go_num, rfl, HN.out⟩
        case measure => simp [intOf]; omega
      · have hb : (x != y) = true := by simp [hxy]
        have HD := hide (show decide (cmpL xs ys < 0) = decide (x < y) by
          rw [HS.out, HE.out, if_pos (fun h => hxy (cmpI_zero.1 h))]
          rw [Bool.eq_iff_iff, decide_eq_true_eq, decide_eq_true_eq]
          exact cmpI_lt)
        clear hxy
        go_wp2
        go_quiet (fail)
        go_wp2
        go_quiet (fail)
        go_wp2
        go_ret
        exact ⟨by rw [HD.out]; rfl, bdrewN (bdrewN (bdrewN (Below.refl _ w) _) _) _⟩
    · have HD := hide (show decide (cmpL xs ys < 0) = false by
        rw [HS.out, cmpL_end (by omega) (by omega)]; rfl)
      go_wp2
      go_ret
      exact ⟨by rw [HD.out]; rfl, bdrewN (Below.refl _ w) _⟩

/-- Two that stand beside each other, changed. -/
def swp {α : Type} (l : List α) (j : Nat) (x y : α) : List α := (l.set (j + 1) x).set j y
theorem swp_len {α : Type} {l : List α} {j : Nat} {x y : α} : (swp l j x y).length = l.length := by simp [swp]
theorem swp_perm {α : Type} {l : List α} {j : Nat} {x y : α} (h : j + 1 < l.length) (hx : l[j]? = some x) (hy : l[j + 1]? = some y) : (swp l j x y).Perm l := by
  have h1 := @List.set_set_perm _ l (j + 1) j h (by omega)
  rw [List.getElem?_eq_getElem (by omega)] at hx hy
  injection hx with hx
  injection hy with hy
  rw [hx, hy] at h1
  exact h1
theorem swp_get {α : Type} {l : List α} {j t : Nat} {x y : α} (h : j + 1 < l.length) : (swp l j x y)[t]? = if t = j then some y else if t = j + 1 then some x else l[t]? := by
  unfold swp
  rw [List.getElem?_set, List.getElem?_set]
  by_cases h1 : t = j
  · subst h1
    rw [if_pos rfl, if_pos rfl, if_pos (by rw [List.length_set]; omega)]
  · rw [if_neg (fun e => h1 e.symm), if_neg h1]
    by_cases h2 : t = j + 1
    · subst h2
      rw [if_pos rfl, if_pos rfl, if_pos h]
    · rw [if_neg (fun e => h2 e.symm), if_neg h2]
theorem lsts_swp {W : World} {B : Nat} {r : Value} {vs : List Value} {ls : List (List Int)} {j : Nat} {a b : Value} {x y : List Int} (h : Lsts W B r vs ls) (hj : j + 1 < vs.length) (ha : vs[j]? = some a) (hb : vs[j + 1]? = some b) (hx : ls[j]? = some x) (hy : ls[j + 1]? = some y) : Lsts W B r (swp vs j a b) (swp ls j x y) := by
  refine ⟨by rw [swp_len, swp_len]; exact h.1, fun t u l h1 h2 => ?_⟩
  have hl := h.1
  rw [swp_get hj] at h1
  rw [swp_get (by omega)] at h2
  by_cases e1 : t = j
  · rw [if_pos e1] at h1 h2
    injection h1 with h1
    injection h2 with h2
    subst h1 h2
    exact h.2 (j + 1) _ _ hb hy
  · rw [if_neg e1] at h1 h2
    by_cases e2 : t = j + 1
    · rw [if_pos e2] at h1 h2
      injection h1 with h1
      injection h2 with h2
      subst h1 h2
      exact h.2 j _ _ ha hx
    · rw [if_neg e2] at h1 h2
      exact h.2 t u l h1 h2
/-- In order up to k, but for what stands at j. -/
def srtBut (ms : List (List Int)) (k j : Nat) : Prop := ∀ a b, a < b → b ≤ k → b ≠ j → b < ms.length → ¬ cmpL (ms[b]?.getD []) (ms[a]?.getD []) < 0
def srtTo (ms : List (List Int)) (k : Nat) : Prop := ∀ a b, a < b → b < k → b < ms.length → ¬ cmpL (ms[b]?.getD []) (ms[a]?.getD []) < 0
theorem srtBut.start {ms : List (List Int)} {k : Nat} (h : srtTo ms k) : srtBut ms k k := fun a b h1 h2 h3 h4 => h a b h1 (by omega) h4
theorem srtBut.fin {ms : List (List Int)} {k j : Nat} (h : srtBut ms k j) (hj : j ≤ k) (he : j = 0 ∨ ¬ cmpL (ms[j]?.getD []) (ms[j - 1]?.getD []) < 0) : srtTo ms (k + 1) := fun a b h1 h2 h3 => by
  by_cases e : b = j
  · subst e
    rcases he with he | he
    · omega
    · by_cases e2 : a = b - 1
      · subst e2; exact he
      · exact cmpL_ge he (h a (b - 1) (by omega) (by omega) (by omega) (by omega))
  · exact h a b h1 (by omega) e h3
theorem srtBut.step {ms : List (List Int)} {k j : Nat} {x y : List Int} (h : srtBut ms k (j + 1)) (hk : j + 1 ≤ k) (hl : j + 1 < ms.length) (hx : ms[j]? = some x) (hy : ms[j + 1]? = some y) (hlt : cmpL y x < 0) : srtBut (swp ms j x y) k j := fun a b h1 h2 h3 h4 => by
  rw [swp_len] at h4
  have hgx : ms[j]?.getD [] = x := by rw [hx]; rfl
  have hgy : ms[j + 1]?.getD [] = y := by rw [hy]; rfl
  rw [swp_get hl, swp_get hl, if_neg h3]
  by_cases e1 : b = j + 1
  · rw [if_pos e1]
    by_cases e2 : a = j
    · rw [if_pos e2]
      show ¬ cmpL x y < 0
      have := cmpL_neg x y
      omega
    · rw [if_neg e2, if_neg (by omega)]
      show ¬ cmpL x _ < 0
      rw [← hgx]
      exact h a j (by omega) (by omega) (by omega) (by omega)
  · rw [if_neg e1]
    by_cases e2 : a = j
    · rw [if_pos e2]
      show ¬ cmpL _ y < 0
      rw [← hgy]
      exact h (j + 1) b (by omega) h2 e1 h4
    · rw [if_neg e2]
      by_cases e3 : a = j + 1
      · rw [if_pos e3]
        show ¬ cmpL _ x < 0
        rw [← hgx]
        exact h j b (by omega) h2 e1 h4
      · rw [if_neg e3]
        exact h a b h1 h2 e1 h4
set_option maxRecDepth 100000 in
set_option maxHeartbeats 4000000 in
theorem rising_ok (B n : Nat) (r : Value) (vs : List Value) (ls : List (List Int)) (w : World) (hrow : w.ownsRow B 22 1 r vs.length vs) (hls : Lsts w B r vs ls) (hn : ∀ l, l ∈ ls → l.length = n) (hB : B ≤ w.heap.size) :
    Calls Tryd.prog 36 #[r] w fun e w' => e = .returned r ∧ Below B w w' ∧ ∃ (us : List Value) (ms : List (List Int)), us.length = vs.length ∧ ms.Perm ls ∧ srt ms ∧ w'.ownsRow B 22 1 r us.length us ∧ Lsts w' B r us ms := by
  obtain ⟨ra, rc, rfl⟩ := own_slice' hrow
  have hcap : vs.length ≤ 9223372036854775807 := by
    rcases hrow.2 with ⟨_, h0⟩ | ⟨g, cap, cur, _, _, _, h1, h2, _⟩
    · omega
    · unfold maxLen at h2; omega
  obtain ⟨K, hK⟩ : ∃ K, vs.length = K := ⟨_, rfl⟩
  have HST := hide (show ∃ us ms, us.length = K ∧ w.ownsRow B 22 1 (.slice ra K rc) K us ∧ Lsts w B (.slice ra K rc) us ms ∧ List.Perm ms ls from ⟨vs, ls, hK, by rw [← hK]; exact hrow, by rw [← hK]; exact hls, List.Perm.refl _⟩)
  have HN := hide hn
  have HK := hide hK
  rw [hK] at hcap ⊢
  clear hrow hls hn hK
  go_enter Tryd.func36, Tryd.ntmps36
  go_wp2
  go_loopw [3] (fun i wr => ∃ (k : Nat) (us : List Value) (ms : List (List Int)), 1 ≤ k ∧ i = .int .i64 k ∧ us.length = K ∧ wr.ownsRow B 22 1 (.slice ra K rc) K us ∧ Lsts wr B (.slice ra K rc) us ms ∧ ms.Perm ls ∧ srtTo ms k ∧ Below B w wr) (fun i _ => K - (intOf i).toNat)
  case atStart =>
    obtain ⟨us, ms, h1, h2, h3, h4⟩ := HST.out
    exact ⟨1, us, ms, Nat.le_refl _, rfl, h1, h2, h3, h4, fun a b h5 h6 => by omega, Below.refl _ _⟩
  case round =>
    obtain ⟨k, us, ms, hk1, rfl, hul, hrow, hls, hperm, hst, hBw⟩ := hrel
    by_cases hlt : k < K
    · have hki : (k : Int) < (K : Int) := by omega
      obtain ⟨g, rfl⟩ : ∃ g, ra = some ⟨g, 0, none⟩ := by
        rcases hrow.2 with ⟨h1, h2⟩ | ⟨g', cap, cur, h1, _⟩
        · omega
        · injection h1 with h1; exact ⟨g', h1⟩
      have HI := hide (show ∃ us ms, us.length = K ∧ wr.ownsRow B 22 1 (.slice (some ⟨g, 0, none⟩) K rc) K us ∧ Lsts wr B (.slice (some ⟨g, 0, none⟩) K rc) us ms ∧ List.Perm ms ls ∧ srtBut ms k k from ⟨us, ms, hul, hrow, hls, hperm, srtBut.start hst⟩)
      clear hul hrow hls hperm hst us ms
      go_wp2
      go_loopw [4] (fun i wr => ∃ (j : Nat) (us : List Value) (ms : List (List Int)), j ≤ k ∧ i = .int .i64 j ∧ us.length = K ∧ wr.ownsRow B 22 1 (.slice (some ⟨g, 0, none⟩) K rc) K us ∧ Lsts wr B (.slice (some ⟨g, 0, none⟩) K rc) us ms ∧ ms.Perm ls ∧ srtBut ms k j ∧ Below B w wr) (fun i _ => (intOf i).toNat)
      case atStart =>
        obtain ⟨us, ms, h1, h2, h3, h4, h5⟩ := HI.out
        exact ⟨k, us, ms, Nat.le_refl _, rfl, h1, h2, h3, h4, h5, hBw⟩
      case round =>
        obtain ⟨j, us, ms, hjk, rfl, hul, hrow, hls, hperm, hst, hBw⟩ := hrel
        by_cases hj0 : j = 0
        · subst hj0
          have hfin := hst.fin hjk (.inl rfl)
          clear hst
          go_wp2_with fail
          go_quiet (fail)
          have hB9 : Below B w (wr.drewN nq) := bdrewN hBw nq
          have hR9 : (wr.drewN nq).ownsRow B 22 1 (.slice (some ⟨g, 0, none⟩) K rc) K us := hrow
          have hL9 : Lsts (wr.drewN nq) B (.slice (some ⟨g, 0, none⟩) K rc) us ms := hls.keep (Nat.le_refl _) (fun _ _ _ _ => rfl) (.inl rfl)
          go_wp2
          go_roundw
          case rel => exact ⟨k + 1, us, ms, by omega, by go_num, hul, hR9, hL9, hperm, hfin, hB9⟩
          case measure => simp [intOf]; omega
        · obtain ⟨i, hji⟩ : ∃ i, j = i + 1 := ⟨j - 1, by omega⟩
          have hJi : (j : Int) - 1 = (i : Int) := by omega
          have hJ0 : (0 : Int) < (j : Int) := by omega
          have hJn : 0 < j := by omega
          have hJd : decide (0 < j) = true := decide_eq_true hJn
          have hi1 : j < K := by omega
          have hml := hls.1
          obtain ⟨a, ha⟩ : ∃ a, us[i]? = some a := ⟨_, List.getElem?_eq_getElem (by omega)⟩
          obtain ⟨b, hb⟩ : ∃ b, us[j]? = some b := ⟨_, List.getElem?_eq_getElem (by omega)⟩
          obtain ⟨x, hx⟩ : ∃ x, ms[i]? = some x := ⟨_, List.getElem?_eq_getElem (by omega)⟩
          obtain ⟨y, hy⟩ : ∃ y, ms[j]? = some y := ⟨_, List.getElem?_eq_getElem (by omega)⟩
          have hxn : x.length = n := HN.out x (hperm.mem_iff.1 (List.mem_of_getElem? hx))
          have hyn : y.length = n := HN.out y (hperm.mem_iff.1 (List.mem_of_getElem? hy))
          obtain ⟨a1, a3, apb, apo, rfl, a4, a5, a6, a7, a8, a9⟩ := hls.2 i a x ha hx
          obtain ⟨b1, b3, bpb, bpo, rfl, b4, b5, b6, b7, b8, b9⟩ := hls.2 j b y hb hy
          have hsa : Sl wr (.slice a1 x.length a3) x := ⟨a1, a3, apb, apo, rfl, a4, a5, a6, a7⟩
          have hsb : Sl wr (.slice b1 y.length b3) y := ⟨b1, b3, bpb, bpo, rfl, b4, b5, b6, b7⟩
          have hadd : ∀ t, (⟨g, 0, none⟩ : Addr).add t = ⟨g, t, none⟩ := fun t => by unfold Addr.add; split <;> simp_all
          have ca : wr.cell? ⟨g, i, none⟩ = some (.slice a1 x.length a3) := by
            have := hrow.cells (g := g) rfl i _ ha
            rwa [hadd] at this
          have cb : wr.cell? ⟨g, j, none⟩ = some (.slice b1 y.length b3) := by
            have := hrow.cells (g := g) rfl j _ hb
            rwa [hadd] at this
          have HLS := hide (fun W (h : Below wr.heap.size wr W) => less_ok (.slice b1 y.length b3) (.slice a1 x.length a3) y x W (hsb.below h) (hsa.below h) (by omega))
          have hBg : B ≤ g := owns_ge hrow g (by simp [Value.ownBlock])
          have HR := hide hrow
          have HLL := hide hls
          have HUL := hide hul
          have HPM := hide hperm
          have HSW := hide (fun (h : cmpL y x < 0) => And.intro (srtBut.step (hji ▸ hst) (by omega) (by omega) hx (hji ▸ hy) h) ((swp_perm (by omega) hx (hji ▸ hy)).trans hperm))
          have HSF := hide (fun (h : ¬ cmpL y x < 0) => hst.fin hjk (.inr (by rw [hy, show j - 1 = i by omega, hx]; exact h)))
          have HLW := hide (fun W (h : Lsts W B (.slice (some ⟨g, 0, none⟩) K rc) us ms) => lsts_swp h (by omega) ha (hji ▸ hb) hx (hji ▸ hy))
          have hS : ∀ W, Below wr.heap.size wr W → (Below wr.heap.size wr W ∧ W.cell? ⟨g, i, none⟩ = some (.slice a1 x.length a3) ∧ W.cell? ⟨g, j, none⟩ = some (.slice b1 y.length b3)) := fun W h => ⟨h, below_cell h ca, below_cell h cb⟩
          have hS0 := hS _ (bdrew (Below.refl _ wr))
          have hi2 : ((j : Nat) : Int) < (K : Int) := by omega
          have HJI := hide hji
          have hi3 : ((i : Nat) : Int) < (K : Int) := by omega
          have hwi : IntKind.i64.wrap (i : Int) = (i : Int) := by rw [IntKind.wrap_i64]; omega
          generalize x.length = lx at *
          generalize y.length = ly at *
          clear hul hls hrow hperm hst hml ha hb hx hy hxn hyn a4 a5 a6 a7 a8 a9 b4 b5 b6 b7 b8 b9 hsa hsb hadd hj0 hji
          by_cases hlt2 : cmpL y x < 0
          · rw [show decide (cmpL y x < 0) = true from decide_eq_true hlt2] at HLS
            obtain ⟨hst2, hperm2⟩ := HSW.out hlt2
            have HST2 := hide hst2
            have HPM2 := hide hperm2
            clear hst2 hperm2 hlt2
            go_wp2_with fail
            clear ca cb
            go_region_held3 (fun W => Below wr.heap.size wr W ∧ W.cell? ⟨g, i, none⟩ = some (.slice a1 lx a3) ∧ W.cell? ⟨g, j, none⟩ = some (.slice b1 ly b3))
              (first | exact hS0 | assumption | exact hS _ (bcat2 (And.left ‹_›) hq1))
              (first | (go_at_call 39; refine (HLS.out _ (And.left ‹_›)).mono ?_; rintro e1 W1 ⟨rfl, hq1⟩))
            all_goals (
              obtain ⟨hB1, ca, cb⟩ := ‹Below wr.heap.size wr W1 ∧ _›
              have hR1 := own_keep' HR.out (fun g _ h2 => hB1.block g h2)
              have fa := hR1.frozenAt i
              have fb := hR1.frozenAt j
              have hji := HJI.out
              have hR3 : ((W1.setCell ⟨g, j, none⟩ (.slice a1 lx a3)).setCell ⟨g, i, none⟩ (.slice b1 ly b3)).ownsRow B 22 1 (.slice (some ⟨g, 0, none⟩) K rc) K (swp us i (.slice a1 lx a3) (.slice b1 ly b3)) := by
                have := ((hR1.stored j (.slice a1 lx a3)).1.stored i (.slice b1 ly b3)).1
                unfold swp
                rw [← hji]
                exact this
              have hk3 : ∀ b, b ≠ g → b < wr.heap.size → ((W1.setCell ⟨g, j, none⟩ (.slice a1 lx a3)).setCell ⟨g, i, none⟩ (.slice b1 ly b3)).heap[b]? = wr.heap[b]? := fun b h1 h2 => by
                rw [Below.heap_setCell _ _ _ _ h1, Below.heap_setCell _ _ _ _ h1]
                exact hB1.block b h2
              have hL3 := HLW.out _ (HLL.out.keep (W' := (W1.setCell ⟨g, j, none⟩ (.slice a1 lx a3)).setCell ⟨g, i, none⟩ (.slice b1 ly b3)) (r' := .slice (some ⟨g, 0, none⟩) K rc) (by rw [size_set, size_set]; exact hB1.size) (fun b h1 h2 h3 => hk3 b (fun e => h3 (by rw [e]; rfl)) h2) (.inl rfl))
              have hB3 : Below B w ((W1.setCell ⟨g, j, none⟩ (.slice a1 lx a3)).setCell ⟨g, i, none⟩ (.slice b1 ly b3)) := (((bcat hBw hB1 (Nat.le_trans hB hBw.size)).setCell (p := ⟨g, j, none⟩) hBg _).setCell (p := ⟨g, i, none⟩) hBg _)
              have HR3 := hide hR3
              have HL3 := hide hL3
              have HB3 := hide hB3
              clear hji hR3 hk3 hL3 hB3
              go_wp2_with fail
              go_region
              all_goals (
                go_wp2
                go_roundw
                case rel => exact ⟨i, _, _, by omega, by go_num, by rw [swp_len]; exact HUL.out, HR3.out, HL3.out.keep (Nat.le_refl _) (fun _ _ _ _ => rfl) (.inl rfl), HPM2.out, HST2.out, bdrew HB3.out⟩
                case measure => simp [intOf]; omega))
          · rw [show decide (cmpL y x < 0) = false from decide_eq_false hlt2] at HLS
            have HST2 := hide (HSF.out hlt2)
            clear hlt2
            go_wp2_with fail
            clear ca cb
            go_region_held3 (fun W => Below wr.heap.size wr W ∧ W.cell? ⟨g, i, none⟩ = some (.slice a1 lx a3) ∧ W.cell? ⟨g, j, none⟩ = some (.slice b1 ly b3))
              (first | exact hS0 | assumption | exact hS _ (bcat2 (And.left ‹_›) hq1))
              (first | (go_at_call 39; refine (HLS.out _ (And.left ‹_›)).mono ?_; rintro e1 W1 ⟨rfl, hq1⟩))
            all_goals (
              obtain ⟨hB1, ca, cb⟩ := ‹Below wr.heap.size wr W1 ∧ _›
              have hR1 := own_keep' HR.out (fun g _ h2 => hB1.block g h2)
              have hL1 := HLL.out.keep hB1.size (fun g _ h2 _ => hB1.block g h2) (.inl rfl)
              clear ca cb
              go_wp2
              go_roundw
              case rel => exact ⟨k + 1, us, ms, by omega, by go_num, HUL.out, hR1, hL1, HPM.out, HST2.out, bcat hBw hB1 (Nat.le_trans hB hBw.size)⟩
              case measure => simp [intOf]; omega)
    · have hki : ¬ (k : Int) < (K : Int) := by omega
      go_wp2
      go_ret
      exact ⟨rfl, hBw, us, hul, ms, hperm, fun a b h1 h2 => hst a b h1 (by have := hls.1; omega) h2, by rw [hul]; exact hrow, hls⟩
end Go.Proofs.YtmgengplfebmjaaDoor

namespace Go.Proofs.YtmgengplfebmjaaDoor
open Go Go.RowKit

/-- A list of orders, as far as k things are gone through. -/
def flO (o : Nat → Nat) (m k : Nat) : List Int := li ((List.range k).map o) ++ List.replicate (m - k) 0
theorem flO_len {o : Nat → Nat} {m k : Nat} (h : k ≤ m) : (flO o m k).length = m := by simp [flO, li]; omega
theorem flO_set {o : Nat → Nat} {m k : Nat} (h : k < m) : (flO o m k).set k (o k : Int) = flO o m (k + 1) := by
  unfold flO
  obtain ⟨j, hj⟩ : ∃ j, m - k = j + 1 := ⟨m - k - 1, by omega⟩
  have hl : (li ((List.range k).map o)).length = k := by simp [li]
  rw [List.set_append_right _ _ (by rw [hl]; exact Nat.le_refl _), hl, Nat.sub_self, hj, List.replicate_succ, List.set_cons_zero, show m - (k + 1) = j by omega, List.range_succ]
  simp [li]
theorem flO_zero {o : Nat → Nat} {m : Nat} : flO o m 0 = List.replicate m 0 := by simp [flO, li]
theorem flO_all {o : Nat → Nat} {m : Nat} : flO o m m = li ((List.range m).map o) := by simp [flO]
theorem rep_int (m : Nat) : (List.replicate m (0 : Int)).map (Value.int .i64) = List.replicate m (.int .i64 0) := by simp
theorem below_of {B : Nat} {W0 W1 W : World} (h : Below W1.heap.size W1 W0) (k : Below B W0 W) (hB : W1.heap.size ≤ B) : Below W1.heap.size W1 W := h.trans (k.mono hB)
/-- What Homs answers. -/
structure HmR (n : Nat) (zs : List Int) (e m : Nat) (ys : List Int) (d most : Nat) (w : World) (x : Ending) (w' : World) : Prop where
  bel : Below w.heap.size w w'
  ans : ∃ ks : List Nat, (∀ k, k ∈ ks → k < n) ∧ ks.length ≤ n ∧ (∀ x, x < n → Mkd n zs e (fun a => decide (a ∈ ks)) x) ∧
    (((dhF n zs e m ys d ks ks.length []).length ≤ most ∧ ∃ (r : Value) (us : List Value) (ms : List (List Int)), x = .returned (.tuple #[r, .bool true]) ∧ w'.ownsRow w.heap.size 22 1 r us.length us ∧ Lsts w' w.heap.size r us ms ∧ ms.Perm (dhF n zs e m ys d ks ks.length []) ∧ srt ms) ∨
     (¬ (dhF n zs e m ys d ks ks.length []).length ≤ most ∧ x = .returned (.tuple #[.slice none 0 0, .bool false])))
theorem dhF_len {n e m d : Nat} {zs ys : List Int} {ks : List Nat} (g : IsGrp n zs e) (h : IsGrp m ys d) (hk : ∀ k, k ∈ ks → k < n) : ∀ (f : Nat) (js : List Nat), (∀ j, j ∈ js → j < m) → ∀ l, l ∈ dhF n zs e m ys d ks f js → l.length = n
  | 0, js, hj, l, hl => by
    unfold dhF at hl
    cases hR : ext n zs e m ys d (ks.zip js) with
    | none => rw [hR] at hl; cases hl
    | some S =>
      rw [hR] at hl
      have hl : l = S.1 := by simpa using hl
      rw [hl]
      exact (ext_grow g h (fun p hp => ⟨hk _ (List.of_mem_zip hp).1, hj _ (List.of_mem_zip hp).2⟩) hR).1.len
  | f + 1, js, hj, l, hl => by
    unfold dhF at hl
    obtain ⟨b, hb, hl⟩ := List.mem_flatMap.1 hl
    split at hl
    · exact dhF_len g h hk f (js ++ [b]) (fun j hjm => by
        rcases List.mem_append.1 hjm with h9 | h9
        · exact hj j h9
        · simp at h9; rw [h9]; exact List.mem_range.1 hb) l hl
    · cases hl
set_option maxRecDepth 100000 in
set_option maxHeartbeats 8000000 in
theorem homs_ok (n e m d most : Nat) (v y : Value) (zs ys : List Int) (w : World) (hv : Sl w v zs) (hg : IsGrp n zs e) (hy : Sl w y ys) (hh : IsGrp m ys d) (hmost : most ≤ 10000) :
    Calls Tryd.prog 29 #[.agg #[.int .i64 n, v], .agg #[.int .i64 m, y], .int .i64 most] w (HmR n zs e m ys d most w) := by
  obtain ⟨v1, v2, v3, rfl⟩ := hv.isSlice
  obtain ⟨y1, y2, y3, rfl⟩ := hy.isSlice
  obtain ⟨i0, hi3, hz0, hz1, hz2⟩ := info_parts info3b
  have hn60 := hg.tab.le
  have hm60 := hh.tab.le
  obtain ⟨w0, hw0⟩ : ∃ w0, w0 = ((w.alloc (.cells #[.int .i64 n, .slice v1 v2 v3] 24)).alloc (.cells #[.int .i64 m, .slice y1 y2 y3] 24)).alloc (.cells #[.int .i64 most] 3) := ⟨_, rfl⟩
  have hs0a : w0.heap.size ≤ w.heap.size + 3 := by rw [hw0]; simp
  have hs0b : w.heap.size + 3 ≤ w0.heap.size := by rw [hw0]; simp
  have hB0 : Below w.heap.size w w0 := by rw [hw0]; exact ((balloc w _).alloc (by simp) _).alloc (by simp; omega) _
  have hG0 : BoxG w0 w.heap.size n (.slice v1 v2 v3) := by rw [hw0]; exact Blk.alloc (Blk.alloc (blk0 _ _) _) _
  have hH0 : BoxG w0 (w.heap.size + 1) m (.slice y1 y2 y3) := by
    rw [hw0]
    have := Blk.alloc (blk0 (w := w.alloc (.cells #[.int .i64 n, .slice v1 v2 v3] 24)) (T := 24) (.int .i64 m) (.slice y1 y2 y3)) (.cells #[.int .i64 most] 3)
    rwa [World.size_alloc] at this
  have hM0 : Boxed w0 (w.heap.size + 1 + 1) 3 (.int .i64 most) := by
    rw [hw0]
    have := Boxed.new ((w.alloc (.cells #[.int .i64 n, .slice v1 v2 v3] 24)).alloc (.cells #[.int .i64 m, .slice y1 y2 y3] 24)) 3 (.int .i64 most)
    rwa [World.size_alloc, World.size_alloc] at this
  obtain ⟨c0, c1, _, _⟩ := hG0.two
  have HMK := hide (makers_ok n e (.slice v1 v2 v3) zs w0 (hv.below hB0) hg)
  rw [hw0] at c0 c1
  go_enter Tryd.func29, Tryd.ntmps29
  go_wp2_with fail
  rw [← hw0]
  clear hw0 c0 c1
  refine HMK.out.mono ?_
  rintro x W1 ⟨r, ks, rfl, hrow, hkn, hks, hall, hb1⟩
  have hs1 := hb1.size
  have hlS := row_sl hrow (by omega)
  obtain ⟨l1, l3, hre⟩ := own_slice hrow
  rw [li_len] at hre
  subst hre
  obtain ⟨W2, hW2⟩ : ∃ W2, W2 = W1.alloc (.cells #[.slice l1 ks.length l3] 22) := ⟨_, rfl⟩
  have hL2 : Boxed W2 W1.heap.size 22 (.slice l1 ks.length l3) := by rw [hW2]; exact Boxed.new W1 22 _
  have hb2 : Below W1.heap.size W1 W2 := by rw [hW2]; exact balloc W1 _
  have hs2a : W2.heap.size ≤ W1.heap.size + 1 := by rw [hW2]; simp
  have hs2b : W1.heap.size + 1 ≤ W2.heap.size := by rw [hW2]; simp
  have hlS2 := hlS.below hb2
  clear hrow hlS
  have k0 := hL2.cell
  rw [hW2] at k0
  go_wp2_with (first
    | (at_make; refine wpList_make_full _ rfl _ _ 22 rfl W2.heap.size 3 i0 (.int .i64 0) 1 under22b hi3 hz0 hz1 _ _ _ _ ks.length rfl rfl rfl rfl (by rw [hz2]; omega) (by unfold maxLen; omega) (by rw [hW2]; simp) ?_))
  rw [← hW2]
  intro W3 hown hgr
  have hT3 : Blk W3 (W1.heap.size + 1) 3 ((List.replicate ks.length (0 : Int)).map (Value.int .i64)) := by
    have := Blk.of_owns hown
    rw [made_rep] at this
    rw [rep_int]
    simpa using this
  have hb3 : Below W2.heap.size W2 W3 := (Below.refl _ _).grown hgr (Nat.le_refl _) (by simp)
  have hs3 : W1.heap.size + 1 < W3.heap.size := hT3.lt
  clear hown hgr k0 hW2
  obtain ⟨W4, hW4⟩ : ∃ W4, W4 = (W3.alloc (.cells #[.slice (some ⟨W1.heap.size + 1, 0, none⟩) ks.length ks.length] 22)).alloc (.cells #[.slice none 0 0] 25) := ⟨_, rfl⟩
  have hs4a : W4.heap.size ≤ W3.heap.size + 1 + 1 := by rw [hW4]; simp
  have hs4b : W3.heap.size + 1 + 1 ≤ W4.heap.size := by rw [hW4]; simp
  have hb4 : Below W3.heap.size W3 W4 := by rw [hW4]; exact (balloc W3 _).alloc (by simp) _
  have hTb4 : Boxed W4 W3.heap.size 22 (.slice (some ⟨W1.heap.size + 1, 0, none⟩) ks.length ks.length) := by rw [hW4]; exact (Boxed.new W3 22 _).alloc _
  have hOb4 : Boxed W4 (W3.heap.size + 1) 25 (.slice none 0 0) := by
    rw [hW4]
    have := Boxed.new (W3.alloc (.cells #[.slice (some ⟨W1.heap.size + 1, 0, none⟩) ks.length ks.length] 22)) 25 (.slice none 0 0)
    rwa [World.size_alloc] at this
  have hb04 : Below w0.heap.size w0 W4 := bcat2 hb1 (bcat2 hb2 (bcat2 hb3 hb4))
  obtain ⟨c0, c1, _, _⟩ := (blk_below hH0 hb04).two
  rw [hW4] at c0 c1
  go_wp2_with (first
    | (at_make; refine wpList_make_full _ rfl _ _ 22 rfl W4.heap.size 3 i0 (.int .i64 0) 1 under22b hi3 hz0 hz1 _ _ _ _ m rfl rfl rfl rfl (by rw [hz2]; omega) (by unfold maxLen; omega) (by rw [hW4]; simp) ?_))
  rw [← hW4]
  intro W5 hown hgr
  have hR5 : Blk W5 (W3.heap.size + 1 + 1) 3 ((flO (ordN m ys d) m 0).map (Value.int .i64)) := by
    have := Blk.of_owns hown
    rw [made_rep] at this
    rw [flO_zero, rep_int]
    simpa using this
  have hb5 : Below W4.heap.size W4 W5 := (Below.refl _ _).grown hgr (Nat.le_refl _) (by simp)
  have hs5 : W3.heap.size + 1 + 1 < W5.heap.size := hR5.lt
  clear hown hgr c0 c1 hW4
  obtain ⟨W6, hW6⟩ : ∃ W6, W6 = W5.alloc (.cells #[.slice (some ⟨W3.heap.size + 1 + 1, 0, none⟩) m m] 22) := ⟨_, rfl⟩
  have hs6a : W6.heap.size ≤ W5.heap.size + 1 := by rw [hW6]; simp
  have hs6b : W5.heap.size + 1 ≤ W6.heap.size := by rw [hW6]; simp
  have hb6 : Below W5.heap.size W5 W6 := by rw [hW6]; exact balloc W5 _
  have hRb6 : Boxed W6 W5.heap.size 22 (.slice (some ⟨W3.heap.size + 1 + 1, 0, none⟩) m m) := by rw [hW6]; exact Boxed.new W5 22 _
  have hR6 : Blk W6 (W3.heap.size + 1 + 1) 3 ((flO (ordN m ys d) m 0).map (Value.int .i64)) := blk_below hR5 hb6
  have hb46 : Below W4.heap.size W4 W6 := bcat2 hb5 hb6
  have hb06 : Below w0.heap.size w0 W6 := bcat2 hb04 hb46
  have HH6 := hide (fun W (h : Kp W6.heap.size (W3.heap.size + 1 + 1) (W3.heap.size + 1 + 1) W6 W) => show BoxG W (w.heap.size + 1) m (.slice y1 y2 y3) ∧ Sl W (.slice y1 y2 y3) ys from by
    have h9 := hb06.trans ((h.to_below (B := W4.heap.size) (by omega) (by omega) (by omega)).mono hb04.size)
    exact ⟨blk_below hH0 h9, (hy.below hB0).below h9⟩)
  have HRB := hide (fun W (h : Kp W6.heap.size (W3.heap.size + 1 + 1) (W3.heap.size + 1 + 1) W6 W) => show Boxed W W5.heap.size 22 (.slice (some ⟨W3.heap.size + 1 + 1, 0, none⟩) m m) from (h.block _ hRb6.lt (by omega) (by omega)).trans hRb6)
  have HO := hide (fun W k (h : Sl W (.slice y1 y2 y3) ys) (hk : k < m) => O_ok hh hk (.slice y1 y2 y3) W h)
  have HOB := hide (fun k (hk : k < m) => ord_le hh hk)
  go_wp2
  rw [← hW6]
  clear hW6 hR5
  go_loopw [12] (fun i wr => ∃ k : Nat, k ≤ m ∧ i = .int .i64 k ∧ Kp W6.heap.size (W3.heap.size + 1 + 1) (W3.heap.size + 1 + 1) W6 wr ∧ Blk wr (W3.heap.size + 1 + 1) 3 ((flO (ordN m ys d) m k).map (Value.int .i64))) (fun i _ => m - (intOf i).toNat)
  case atStart => exact ⟨0, Nat.zero_le _, rfl, Kp.refl, hR6⟩
  case round =>
    obtain ⟨k, hk, rfl, hKk, hRk⟩ := hrel
    clear hR6
    obtain ⟨hHk, hyk⟩ := HH6.out wr hKk
    obtain ⟨c0, c1, _, _⟩ := hHk.two
    by_cases hlt : k < m
    · have hki : (k : Int) < (m : Int) := by omega
      have cr := (HRB.out wr hKk).cell
      have HOk := hide (fun W (h : Below wr.heap.size wr W) => HO.out W k (hyk.below h) hlt)
      have HFS := hide (flO_set (o := ordN m ys d) hlt)
      have hRl := flO_len (o := ordN m ys d) hk
      generalize ordN m ys d k = o at *
      have hS : ∀ U, Below wr.heap.size wr U → (U.cell? ⟨W5.heap.size, 0, none⟩ = some (.slice (some ⟨W3.heap.size + 1 + 1, 0, none⟩) m m) ∧ U.cell? ⟨w.heap.size + 1, 0, none⟩ = some (.int .i64 m) ∧ U.cell? ⟨w.heap.size + 1, 1, none⟩ = some (.slice y1 y2 y3)) := fun U h => ⟨below_cell h cr, below_cell h c0, below_cell h c1⟩
      have hset : ∀ (U : World) (b t : Nat) (x z : Value), b ≠ W3.heap.size + 1 + 1 → U.cell? ⟨b, t, none⟩ = some z → (U.setCell ⟨W3.heap.size + 1 + 1, k, none⟩ x).cell? ⟨b, t, none⟩ = some z := fun U b t x z h1 h2 => (World.cell?_of_block (a := ⟨b, t, none⟩) (Below.heap_setCell U ⟨W3.heap.size + 1 + 1, k, none⟩ x b h1)).trans h2
      have hS3 : ∀ U, Below wr.heap.size wr U → ((U.setCell ⟨W3.heap.size + 1 + 1, k, none⟩ (.int .i64 o)).cell? ⟨W5.heap.size, 0, none⟩ = some (.slice (some ⟨W3.heap.size + 1 + 1, 0, none⟩) m m) ∧ (U.setCell ⟨W3.heap.size + 1 + 1, k, none⟩ (.int .i64 o)).cell? ⟨w.heap.size + 1, 0, none⟩ = some (.int .i64 m) ∧ (U.setCell ⟨W3.heap.size + 1 + 1, k, none⟩ (.int .i64 o)).cell? ⟨w.heap.size + 1, 1, none⟩ = some (.slice y1 y2 y3)) := fun U h => ⟨hset U _ _ _ _ (by omega) (hS U h).1, hset U _ _ _ _ (by omega) (hS U h).2.1, hset U _ _ _ _ (by omega) (hS U h).2.2⟩
      have hS0 := hS _ (bdrew (Below.refl _ wr))
      clear hset
      have HRL := hide hRl
      clear hRl
      go_wp2_with fail
      clear c0 c1 cr
      go_region_held3 (fun U => U.cell? ⟨W5.heap.size, 0, none⟩ = some (.slice (some ⟨W3.heap.size + 1 + 1, 0, none⟩) m m) ∧ U.cell? ⟨w.heap.size + 1, 0, none⟩ = some (.int .i64 m) ∧ U.cell? ⟨w.heap.size + 1, 1, none⟩ = some (.slice y1 y2 y3))
        (first | exact hS0 | assumption | exact hS3 _ hx1 | exact hS _ hx1)
        (first | (go_at_call 47; refine (HOk.out _ (bdrew (Below.refl _ wr))).mono ?_; rintro e1 U1 ⟨rfl, hl1⟩; have hx1 := undrew' hl1; have cw := (blk_below hRk hx1).int (y := k) (by rw [HRL.out]; exact hlt); have fw := (blk_below hRk hx1).frozen k))
      all_goals (
        have hK2 := (hKk.below hx1 hKk.size).set ⟨W3.heap.size + 1 + 1, k, none⟩ (.int .i64 o) (.inl rfl)
        have hR2 := (blk_below hRk hx1).setInt k o
        rw [HFS.out] at hR2
        go_wp2
        go_roundw
        case rel => exact ⟨k + 1, by omega, by go_num, hK2, hR2⟩
        case measure => simp [intOf]; omega)
    · have hki : ¬ (k : Int) < (m : Int) := by omega
      rw [show k = m by omega, flO_all] at hRk
      have hcall := call75
      obtain ⟨X, hX⟩ : ∃ X, X = wr.alloc (.cells #[.func (.func 75) #[] #[.pointer (some ⟨W1.heap.size, 0, none⟩), .pointer (some ⟨w.heap.size, 0, none⟩), .pointer (some ⟨w.heap.size + 1, 0, none⟩), .pointer (some ⟨W3.heap.size, 0, none⟩), .pointer (some ⟨W3.heap.size + 1, 0, none⟩), .pointer (some ⟨w.heap.size + 1 + 1, 0, none⟩), .pointer (some ⟨W5.heap.size, 0, none⟩), .pointer (some ⟨wr.heap.size, 0, none⟩)]] 42) := ⟨_, rfl⟩
      have hXs : X.heap.size = wr.heap.size + 1 := by rw [hX]; simp
      have hXb : Below wr.heap.size wr X := by rw [hX]; exact balloc wr _
      have hXn : Boxed X wr.heap.size 42 (.func (.func 75) #[] #[.pointer (some ⟨W1.heap.size, 0, none⟩), .pointer (some ⟨w.heap.size, 0, none⟩), .pointer (some ⟨w.heap.size + 1, 0, none⟩), .pointer (some ⟨W3.heap.size, 0, none⟩), .pointer (some ⟨W3.heap.size + 1, 0, none⟩), .pointer (some ⟨w.heap.size + 1 + 1, 0, none⟩), .pointer (some ⟨W5.heap.size, 0, none⟩), .pointer (some ⟨wr.heap.size, 0, none⟩)]) := by rw [hX]; exact Boxed.new wr 42 _
      have hsr := hKk.size
      have hX6 : ∀ b, b < W6.heap.size → b ≠ W3.heap.size + 1 + 1 → X.heap[b]? = W6.heap[b]? := fun b h1 h2 => (hXb.block b (by omega)).trans (hKk.block b h1 h2 h2)
      have hb26 : Below W2.heap.size W2 W6 := bcat2 hb3 (bcat2 hb4 hb46)
      have hb2X : Below W2.heap.size W2 X := hb26.trans ⟨hXb.os.trans hKk.os, hXb.tape.trans hKk.tape, hXb.output.trans hKk.output, Nat.le_trans hKk.size hXb.size, fun b hb => hX6 b (by omega) (by omega)⟩
      have HBEL : ∀ W, Kp X.heap.size (W1.heap.size + 1) (W3.heap.size + 1) X W → Below W2.heap.size W2 W := fun W h => hb2X.trans (h.to_below (by omega) (by omega) (by omega))
      have HBE0 : ∀ W, Kp X.heap.size (W1.heap.size + 1) (W3.heap.size + 1) X W → Below w0.heap.size w0 W := fun W h => (bcat2 hb1 hb2).trans ((HBEL W h).mono (by omega))
      have hE : HmE n zs e m ys d ks (.slice v1 v2 v3) (.slice y1 y2 y3) most l1 l3 W1.heap.size w.heap.size (w.heap.size + 1) W3.heap.size (w.heap.size + 1 + 1) W5.heap.size wr.heap.size (W3.heap.size + 1 + 1) X.heap.size (W1.heap.size + 1) (W3.heap.size + 1) X := by
        refine ⟨fun W h => ⟨Boxed.below hL2 (HBEL W h), hlS2.below (HBEL W h)⟩, fun W h => ⟨blk_below hG0 (HBE0 W h), (hv.below hB0).below (HBE0 W h)⟩, fun W h => ⟨blk_below hH0 (HBE0 W h), (hy.below hB0).below (HBE0 W h)⟩, fun W h => Boxed.below hM0 (HBE0 W h), fun W h => ⟨?_, ?_⟩, fun W h => ?_, fun W h => ?_, by omega, by omega, by omega⟩
        · exact (h.block _ (by omega) (by omega) (by omega)).trans ((hXb.block _ (by omega)).trans (HRB.out wr hKk))
        · exact (h.block _ (by omega) (by omega) (by omega)).trans ((hXb.block _ (by omega)).trans hRk)
        · exact (h.block _ (by omega) (by omega) (by omega)).trans hXn
        · exact (h.block _ (by omega) (by omega) (by omega)).trans ((hX6 _ (by omega) (by omega)).trans ((hb46.block _ (by omega)).trans hTb4))
      have hV : HmV X.heap.size (W1.heap.size + 1) (W3.heap.size + 1) X (List.replicate ks.length 0) [] := by
        refine ⟨Nat.le_refl _, ?_, .slice none 0 0, [], ?_, World.ownsRow_nil _ _ _ _, rfl, fun t x l h => by simp at h⟩
        · exact (hX6 _ (by omega) (by omega)).trans ((hb46.block _ (by omega)).trans ((hb4.block _ (by omega)).trans hT3))
        · exact (hX6 _ (by omega) (by omega)).trans ((hb46.block _ (by omega)).trans hOb4)
      have HC := hide (show Calls Tryd.prog 75 #[.int .i64 0, .pointer (some ⟨W1.heap.size, 0, none⟩), .pointer (some ⟨w.heap.size, 0, none⟩), .pointer (some ⟨w.heap.size + 1, 0, none⟩), .pointer (some ⟨W3.heap.size, 0, none⟩), .pointer (some ⟨W3.heap.size + 1, 0, none⟩), .pointer (some ⟨w.heap.size + 1 + 1, 0, none⟩), .pointer (some ⟨W5.heap.size, 0, none⟩), .pointer (some ⟨wr.heap.size, 0, none⟩)] X (HmP n zs e m ys d ks most X.heap.size (W1.heap.size + 1) (W3.heap.size + 1) X ks.length [] []) from
        homs_next hg hh hE hkn hks hmost hall ks.length [] _ [] X (by simp) (by simp) Kp.refl hV (by simp) (by simp [li]) (by simp))
      have HBX := hide (fun W (h : Kp X.heap.size (W1.heap.size + 1) (W3.heap.size + 1) X W) => show Below w.heap.size w W from hB0.trans ((HBE0 W h).mono (by omega)))
      have hwX : w.heap.size ≤ X.heap.size := by omega
      have hDl := dhF_len hg hh hkn ks.length [] (by simp)
      have HDL := hide hDl
      have HX := hide hX
      have HKN := hide hkn
      have HALL := hide hall
      clear hE hV hDl hXs hXn hsr hX6 hb26 hb2X HBEL HBE0 hb3 hb4 hb46 hb5 hb6 hb06 hb04 hRb6 hRk hKk hTb4 hOb4 hT3 hL2 hlS2 hM0 hH0 hG0 hHk hyk hb1 hb2 hkn hall
      clear hX
      go_wp2_with fail
      rw [← HX.out]
      clear c0 c1
      refine HC.out.mono ?_
      rintro x W8 ⟨hK8, hs8, rfl, hok⟩
      rw [List.nil_append] at hok ⊢
      have hB8 := HBX.out W8 hK8
      by_cases hle : (dhF n zs e m ys d ks ks.length []).length ≤ most
      · obtain ⟨T8, hV8, _, _⟩ := hok hle
        obtain ⟨r, vs, hr1, hr2, hr3⟩ := hV8.ex
        rw [decide_eq_true hle]
        have k0 := hr1.cell
        have HRI := hide (rising_ok X.heap.size n r vs _ W8 hr2 hr3 HDL.out hs8)
        obtain ⟨ra, rc, rfl⟩ := own_slice' hr2
        clear hok hV8 hr1 hr2 hr3
        go_wp2_with fail
        refine HRI.out.mono ?_
        rintro x W9 ⟨rfl, hb9, us, ms, hul, hpm, hst, hrow, hls⟩
        go_wp2
        exact bodyPost_ret (v := .tuple #[.slice ra vs.length rc, .bool true]) (by simp [results, Tryd.results29, go_sem]) rfl ⟨hB8.trans (hb9.mono hwX), ks, HKN.out, hks, HALL.out, .inl ⟨hle, _, us, ms, rfl, owns_mono hrow hwX, hls.mono hwX, hpm, hst⟩⟩
      · rw [decide_eq_false hle]
        clear hok
        go_wp2
        exact bodyPost_ret (v := .tuple #[.slice none 0 0, .bool false]) (by simp [results, Tryd.results29, go_sem]) rfl ⟨hB8, ks, HKN.out, hks, HALL.out, .inr ⟨hle, rfl⟩⟩
end Go.Proofs.YtmgengplfebmjaaDoor

namespace Go.Proofs.YtmgengplfebmjaaDoor
open Go Go.RowKit

section
variable {n e m d : Nat} {zs ys : List Int} {φ ψ : Nat → Nat}
theorem hom_pw (g : IsGrp n zs e) (h : IsGrp m ys d) (H : IsHom n zs m ys φ) {a : Nat} (ha : a < n) : ∀ k, φ (pw n zs e a k) = pw m ys d (φ a) k
  | 0 => IsHom.one g h H
  | k + 1 => by
    show φ (tm n zs (pw n zs e a k) a) = tm m ys (pw m ys d (φ a) k) (φ a)
    rw [H.mul _ _ (pw_lt g ha k) ha, hom_pw g h H ha k]
theorem hom_ord (g : IsGrp n zs e) (h : IsGrp m ys d) (H : IsHom n zs m ys φ) {a : Nat} (ha : a < n) : ordN m ys d (φ a) ∣ ordN n zs e a :=
  ord_dvd h (H.lt a ha) (by rw [← hom_pw g h H ha, pw_ord g ha, IsHom.one g h H])
/-- Homomorphisms that agree on makers agree on what is made. -/
theorem hom_agree (g : IsGrp n zs e) (h : IsGrp m ys d) (H : IsHom n zs m ys φ) (K : IsHom n zs m ys ψ) {q : Nat → Bool} (hq : ∀ x, x < n → q x = true → φ x = ψ x) {a : Nat} (ha : a < n) (hm : Mkd n zs e q a) : φ a = ψ a := by
  have S : Fin.Sg (List.range n) (tm n zs) e (fun x => x ∈ List.range n → φ x = ψ x) := by
    refine ⟨fun _ => by rw [IsHom.one g h H, IsHom.one g h K], fun x y hx hy h1 h2 _ => ?_⟩
    rw [H.mul _ _ (List.mem_range.1 hx) (List.mem_range.1 hy), K.mul _ _ (List.mem_range.1 hx) (List.mem_range.1 hy), h1 hx, h2 hy]
  exact hm _ S (fun z hz hqz _ => hq z (List.mem_range.1 hz) hqz) (List.mem_range.2 ha)
theorem leads_iff {ks js : List Nat} (hl : js.length = ks.length) : Leads n zs m ys (ks.zip js) φ ↔ IsHom n zs m ys φ ∧ ∀ i (_ : i < js.length) (hi2 : i < ks.length), φ ks[i] = js[i] := by
  constructor
  · rintro ⟨H, h⟩
    refine ⟨H, fun i hi hi2 => h (ks[i], js[i]) ?_⟩
    exact List.mem_iff_getElem.2 ⟨i, by rw [List.length_zip]; omega, by simp⟩
  · rintro ⟨H, h⟩
    refine ⟨H, fun p hp => ?_⟩
    obtain ⟨i, hi, he⟩ := List.mem_iff_getElem.1 hp
    rw [List.length_zip] at hi
    rw [← he]
    simpa using h i (by omega) (by omega)
theorem dh_mem (g : IsGrp n zs e) (h : IsGrp m ys d) {ks : List Nat} (hk : ∀ k, k ∈ ks → k < n) (hall : ∀ a, a < n → Mkd n zs e (fun x => decide (x ∈ ks)) a) :
    ∀ (f : Nat) (js : List Nat) (L : List Int), js.length + f = ks.length → (∀ j, j ∈ js → j < m) →
      (L ∈ dhF n zs e m ys d ks f js ↔ ∃ φ, IsHom n zs m ys φ ∧ L = li ((List.range n).map φ) ∧ ∀ i (_ : i < js.length) (hi2 : i < ks.length), φ ks[i] = js[i])
  | 0, js, L, hl, hj => by
    have hl : js.length = ks.length := by omega
    have hp : ∀ p, p ∈ ks.zip js → p.1 < n ∧ p.2 < m := fun p hp => ⟨hk _ (List.of_mem_zip hp).1, hj _ (List.of_mem_zip hp).2⟩
    have hz : (ks.zip js).map Prod.fst = ks := List.map_fst_zip (by omega)
    have hall' : ∀ x, x < n → Mkd n zs e (fun x => decide (x ∈ (ks.zip js).map Prod.fst)) x := by rw [hz]; exact hall
    constructor
    · intro hL
      cases hR : ext n zs e m ys d (ks.zip js) with
      | none => unfold dhF at hL; rw [hR] at hL; cases hL
      | some S =>
        obtain ⟨H, hS⟩ := ext_hom g h hp hR hall'
        unfold dhF at hL
        rw [hR] at hL
        have hL : L = S.1 := by simpa using hL
        have := (leads_iff (n := n) (zs := zs) (m := m) (ys := ys) (φ := vl S) hl).1 ⟨H, fun p hpm => ext_at g h hp hR hpm⟩
        exact ⟨vl S, H, by rw [hL]; exact hS, this.2⟩
    · rintro ⟨φ, H, rfl, hag⟩
      rw [dhF_some g h hp hall' ((leads_iff hl).2 ⟨H, hag⟩)]
      simp
  | f + 1, js, L, hl, hj => by
    have hjl : js.length < ks.length := by omega
    have hjb : ∀ b, b < m → ∀ j, j ∈ js ++ [b] → j < m := fun b hb j hjm => by
      rcases List.mem_append.1 hjm with h9 | h9
      · exact hj j h9
      · simp at h9; omega
    unfold dhF
    rw [List.mem_flatMap]
    constructor
    · rintro ⟨b, hb, hL⟩
      have hb := List.mem_range.1 hb
      split at hL
      · obtain ⟨φ, H, hLe, hag⟩ := (dh_mem g h hk hall f (js ++ [b]) L (by simp; omega) (hjb b hb)).1 hL
        refine ⟨φ, H, hLe, fun i hi hi2 => ?_⟩
        have := hag i (by simp; omega) hi2
        rwa [List.getElem_append_left hi] at this
      · cases hL
    · rintro ⟨φ, H, rfl, hag⟩
      have hkn := hk _ (List.getElem_mem hjl)
      refine ⟨φ ks[js.length], List.mem_range.2 (H.lt _ hkn), ?_⟩
      rw [List.getElem?_eq_getElem hjl, Option.getD_some, if_pos (Nat.mod_eq_zero_of_dvd (hom_ord g h H hkn))]
      refine (dh_mem g h hk hall f (js ++ [φ ks[js.length]]) _ (by simp; omega) (hjb _ (H.lt _ hkn))).2 ⟨φ, H, rfl, fun i hi hi2 => ?_⟩
      by_cases hij : i < js.length
      · rw [List.getElem_append_left hij]; exact hag i hij hi2
      · have : i = js.length := by simp at hi; omega
        subst this
        simp
theorem dh_nodup (g : IsGrp n zs e) (h : IsGrp m ys d) {ks : List Nat} (hk : ∀ k, k ∈ ks → k < n) (hall : ∀ a, a < n → Mkd n zs e (fun x => decide (x ∈ ks)) a) :
    ∀ (f : Nat) (js : List Nat), js.length + f = ks.length → (∀ j, j ∈ js → j < m) → (dhF n zs e m ys d ks f js).Nodup
  | 0, js, hl, hj => by
    unfold dhF
    cases ext n zs e m ys d (ks.zip js) <;> simp
  | f + 1, js, hl, hj => by
    have hjl : js.length < ks.length := by omega
    have hjb : ∀ b, b < m → ∀ j, j ∈ js ++ [b] → j < m := fun b hb j hjm => by
      rcases List.mem_append.1 hjm with h9 | h9
      · exact hj j h9
      · simp at h9; omega
    unfold dhF
    refine nodup_flat m (fun b hb => ?_) (fun b c L hb hc hLb hLc => ?_)
    · split
      · exact dh_nodup g h hk hall f (js ++ [b]) (by simp; omega) (hjb b hb)
      · exact List.nodup_nil
    · split at hLb
      · split at hLc
        · obtain ⟨φ, _, e1, a1⟩ := (dh_mem g h hk hall f (js ++ [b]) L (by simp; omega) (hjb b hb)).1 hLb
          obtain ⟨ψ, _, e2, a2⟩ := (dh_mem g h hk hall f (js ++ [c]) L (by simp; omega) (hjb c hc)).1 hLc
          have h9 := a1 js.length (by simp) hjl
          have h8 := a2 js.length (by simp) hjl
          have h7 := li_map_inj (e1.symm.trans e2) (hk _ (List.getElem_mem hjl))
          simp at h9 h8
          omega
        · cases hLc
      · cases hLb
/-- Where two lists differ first decides. -/
theorem cmp_first : ∀ {xs ys : List Int} {k : Nat}, k < xs.length → k < ys.length → (∀ x, x < k → xs[x]?.getD 0 = ys[x]?.getD 0) → xs[k]?.getD 0 < ys[k]?.getD 0 → cmpL xs ys < 0
  | [], _, k, h1, _, _, _ => by simp at h1
  | _ :: _, [], k, _, h2, _, _ => by simp at h2
  | x :: xs, y :: ys, 0, _, _, _, h => by
    have h : x < y := by simpa using h
    unfold cmpL
    have := cmpI_lt.2 h
    rw [if_pos (by omega)]
    exact this
  | x :: xs, y :: ys, k + 1, h1, h2, h3, h => by
    have h0 : x = y := by simpa using h3 0 (by omega)
    unfold cmpL
    rw [if_neg (by rw [Decidable.not_not]; exact cmpI_zero.2 h0)]
    exact cmp_first (k := k) (by simpa using h1) (by simpa using h2) (fun t ht => by simpa using h3 (t + 1) (by omega)) (by simpa using h)
/-- What the program lists stands in order. -/
theorem homF_sorted {ks : List Nat} {fit : List Int → Bool} {FP : (Nat → Nat) → Prop} (g : IsGrp n zs e) (h : IsGrp m ys d) (hLM : LM n zs e ks) (hall : ∀ a, a < n → Mkd n zs e (fun x => decide (x ∈ ks)) a)
    (h1 : ∀ φ S (ps : List (Nat × Nat)), IsHom n zs m ys φ → FP φ → (∀ p, p ∈ ps → p.1 < n ∧ φ p.1 = p.2) → ext n zs e m ys d ps = some S → fit S.1 = true)
    (h2 : ∀ φ, IsHom n zs m ys φ → fit (li ((List.range n).map φ)) = true → FP φ) :
    ∀ (f : Nat) (js : List Nat), js.length ≤ ks.length → ks.length + 1 ≤ f + js.length → (∀ j, j ∈ js → j < m) → (homF n zs e m ys d ks fit f js).Pairwise (fun a b => cmpL a b < 0)
  | 0, js, hl, hf, hj => by omega
  | f + 1, js, hl, hf, hj => by
    cases hR : ext n zs e m ys d ((ks.take js.length).zip js) with
    | none => rw [homF_none hR]; exact List.Pairwise.nil
    | some S =>
      cases hfit : fit S.1 with
      | false => rw [homF_unfit hR hfit]; exact List.Pairwise.nil
      | true =>
        by_cases hle : js.length = ks.length
        · rw [homF_full hR hfit hle]; simp
        · rw [homF_on hR hfit hle]
          have hkl : js.length < ks.length := by omega
          have hjb : ∀ b, b < m → ∀ j, j ∈ js ++ [b] → j < m := fun b hb j hjm => by
            rcases List.mem_append.1 hjm with hjm | hjm
            · exact hj j hjm
            · simp at hjm; rw [hjm]; exact hb
          have key : ∀ k, k ≤ m → ((List.range k).flatMap fun b => homF n zs e m ys d ks fit f (js ++ [b])).Pairwise (fun a b => cmpL a b < 0) := by
            intro k
            induction k with
            | zero => intro _; simp
            | succ k ih =>
              intro hk
              rw [flat_succ]
              refine List.pairwise_append.2 ⟨ih (by omega), homF_sorted g h hLM hall h1 h2 f (js ++ [k]) (by simp; omega) (by simp; omega) (hjb k (by omega)), fun L hL L' hL' => ?_⟩
              obtain ⟨b, hb, hL⟩ := List.mem_flatMap.1 hL
              have hb := List.mem_range.1 hb
              obtain ⟨φ, H, _, e1, a1⟩ := (homF_mem g h hLM.lt hall h1 h2 f (js ++ [b]) L (by simp; omega) (by simp; omega) (hjb b (by omega))).1 hL
              obtain ⟨ψ, K, _, e2, a2⟩ := (homF_mem g h hLM.lt hall h1 h2 f (js ++ [k]) L' (by simp; omega) (by simp; omega) (hjb k (by omega))).1 hL'
              have hcn := hLM.lt _ (List.getElem_mem hkl)
              have h9 := a1 js.length (by simp) hkl
              have h8 := a2 js.length (by simp) hkl
              simp at h9 h8
              obtain ⟨_, hst⟩ := hLM.step js.length ks[js.length] (List.getElem?_eq_getElem hkl)
              have hag : ∀ x, x < ks[js.length] → φ x = ψ x := fun x hx => hom_agree g h H K (q := fun x => decide (x ∈ ks.take js.length)) (fun z hz hq => by
                obtain ⟨i, hi, he⟩ := List.mem_iff_getElem.1 (of_decide_eq_true hq)
                rw [List.length_take] at hi
                rw [List.getElem_take] at he
                have p1 := a1 i (by simp; omega) (by omega)
                have p2 := a2 i (by simp; omega) (by omega)
                rw [List.getElem_append_left (by omega)] at p1 p2
                rw [← he, p1, p2]) (by omega) (hst x hx)
              have at_ : ∀ (χ : Nat → Nat) t, t < n → (li ((List.range n).map χ))[t]?.getD 0 = (χ t : Int) := fun χ t ht => by simp [li, ht]
              rw [e1, e2]
              refine cmp_first (k := ks[js.length]) (by simp [li]; omega) (by simp [li]; omega) (fun x hx => ?_) ?_
              · rw [at_ φ x (by omega), at_ ψ x (by omega), hag x hx]
              · rw [at_ φ _ hcn, at_ ψ _ hcn, h9, h8]
                omega
          exact key m (Nat.le_refl _)
/-- Lists in order that have the same are the same. -/
theorem srt_eq {rs ts : List (List Int)} (hp : rs.Perm ts) (ha : srt rs) (hb : ts.Pairwise (fun a b => cmpL a b < 0)) : rs = ts := by
  refine List.Perm.eq_of_pairwise (le := fun a b => ¬ cmpL b a < 0) (fun a b _ _ h1 h2 => ?_) ?_ ?_ hp
  · have := cmpL_neg a b
    exact (cmpL_zero a b).1 (by omega)
  · refine List.pairwise_iff_getElem.2 fun i j hi hj hij => ?_
    have := ha i j hij hj
    rw [List.getElem?_eq_getElem hi, List.getElem?_eq_getElem hj] at this
    exact this
  · exact hb.imp fun {a b} h => by have := cmpL_neg a b; omega
theorem homs_same {ks ls : List Nat} (g : IsGrp n zs e) (h : IsGrp m ys d) (hLM : LM n zs e ks) (hall : ∀ a, a < n → Mkd n zs e (fun x => decide (x ∈ ks)) a) (hl : ∀ k, k ∈ ls → k < n) (hall' : ∀ a, a < n → Mkd n zs e (fun x => decide (x ∈ ls)) a) :
    (homF n zs e m ys d ks (fun _ => true) (ks.length + 1) []).Perm (dhF n zs e m ys d ls ls.length []) := by
  refine (List.perm_ext_iff_of_nodup (homF_nodup (FP := fun _ => True) g h hLM.lt hall (fun _ _ _ _ _ _ _ => rfl) (fun _ _ _ => trivial) _ _ (by simp) (by simp) (by simp)) (dh_nodup g h hl hall' _ _ (by simp) (by simp))).2 fun L => ?_
  rw [homF_mem (FP := fun _ => True) g h hLM.lt hall (fun _ _ _ _ _ _ _ => rfl) (fun _ _ _ => trivial) _ _ _ (by simp) (by simp) (by simp), dh_mem g h hl hall' _ _ _ (by simp) (by simp)]
  constructor
  · rintro ⟨φ, H, _, hL, _⟩
    exact ⟨φ, H, hL, fun i hi => by simp at hi⟩
  · rintro ⟨φ, H, hL, _⟩
    exact ⟨φ, H, trivial, hL, fun i hi => by simp at hi⟩
end
end Go.Proofs.YtmgengplfebmjaaDoor

namespace Go.Proofs.YtmgengplfebmjaaDoor
open Go Go.RowKit

set_option maxRecDepth 100000 in
set_option maxHeartbeats 2000000 in
theorem lists_any (v u : Value) (rs ts : List (List Int)) (w : World) (hv : SlL w v rs) (hu : SlL w u ts) :
    Calls Tryd.prog 16 #[v, u] w fun x w' => x = .returned (.bool (decide (rs = ts))) ∧ Below w.heap.size w w' := by
  obtain ⟨va, vc, vb, vo, rfl, v1, v2, v3, v4, v5⟩ := hv
  obtain ⟨ua, uc, ub, uo, rfl, u1, u2, u3, u4, u5⟩ := hu
  have hm1 : rs.length ≤ 9223372036854775807 := by unfold maxLen at v5; omega
  have hm2 : ts.length ≤ 9223372036854775807 := by unfold maxLen at u5; omega
  have HV := hide v2
  have HU := hide u2
  clear v2 u2 v5 u5
  by_cases hlen : rs.length = ts.length
  · have HLEN := hide hlen
    rw [hlen] at v1 v4 hm1 ⊢
    clear hlen
    go_enter Tryd.func16, Tryd.ntmps16
    go_wp2
    go_loopw [5] (fun i wr => ∃ k : Nat, k ≤ ts.length ∧ i = .int .i64 k ∧ (∀ t, t < k → rs[t]?.getD [] = ts[t]?.getD []) ∧ Below w.heap.size w wr) (fun i _ => ts.length - (intOf i).toNat)
    case atStart => exact ⟨0, Nat.zero_le _, rfl, fun t ht => by omega, Below.refl _ _⟩
    case round =>
      obtain ⟨k, hk, rfl, hno, hB⟩ := hrel
      have HNO := hide hno
      clear hno
      by_cases hlt : k < ts.length
      · obtain rfl := v1 (by omega)
        obtain rfl := u1 (by omega)
        obtain ⟨x, hx, hsx⟩ := HV.out k (by rw [HLEN.out]; exact hlt)
        obtain ⟨y, hy, hsy⟩ := HU.out k (by omega)
        obtain ⟨x1, x2, x3, rfl⟩ := hsx.isSlice
        obtain ⟨y1, y2, y3, rfl⟩ := hsy.isSlice
        have hx := below_cell hB hx
        have hy := below_cell hB hy
        have hki : (k : Int) < (ts.length : Int) := by omega
        have HI := hide (fun W (h : Below wr.heap.size wr W) => ints_any (.slice x1 x2 x3) (.slice y1 y2 y3) (rs[k]?.getD []) (ts[k]?.getD []) W ((hsx.below hB).below h) ((hsy.below hB).below h))
        have hS : ∀ W, Below wr.heap.size wr W → (Below wr.heap.size wr W ∧ W.cell? ⟨vb, vo + k, none⟩ = some (.slice x1 x2 x3) ∧ W.cell? ⟨ub, uo + k, none⟩ = some (.slice y1 y2 y3)) := fun W h => ⟨h, below_cell h hx, below_cell h hy⟩
        have hS0 := hS _ (bdrew (Below.refl _ wr))
        clear hx hy hsx hsy
        by_cases he : rs[k]?.getD [] = ts[k]?.getD []
        · rw [decide_eq_true he] at HI
          have HE := hide he
          clear he
          go_wp2_with fail
          go_region_held3 (fun W => Below wr.heap.size wr W ∧ W.cell? ⟨vb, vo + k, none⟩ = some (.slice x1 x2 x3) ∧ W.cell? ⟨ub, uo + k, none⟩ = some (.slice y1 y2 y3))
            (first | exact hS0 | assumption | exact hS _ (bcat2 (And.left ‹_›) hl1))
            (first | (go_at_call 17; refine (HI.out _ (And.left ‹_›)).mono ?_; rintro e1 U1 ⟨rfl, hl1⟩))
          all_goals (
            have hB9 := And.left ‹Below wr.heap.size wr U1 ∧ _›
            go_wp2
            go_roundw
            case rel => exact ⟨k + 1, by omega, by go_num, fun t ht => by
              by_cases e9 : t = k
              · subst e9; exact HE.out
              · exact HNO.out t (by omega), bcat2 hB hB9⟩
            case measure => simp [intOf]; omega)
        · rw [decide_eq_false he] at HI
          have HD := hide (show decide (rs = ts) = false from decide_eq_false (fun e => he (by rw [e])))
          clear he
          go_wp2_with fail
          go_region_held3 (fun W => Below wr.heap.size wr W ∧ W.cell? ⟨vb, vo + k, none⟩ = some (.slice x1 x2 x3) ∧ W.cell? ⟨ub, uo + k, none⟩ = some (.slice y1 y2 y3))
            (first | exact hS0 | assumption | exact hS _ (bcat2 (And.left ‹_›) hl1))
            (first | (go_at_call 17; refine (HI.out _ (And.left ‹_›)).mono ?_; rintro e1 U1 ⟨rfl, hl1⟩))
          all_goals (
            have hB9 := And.left ‹Below wr.heap.size wr U1 ∧ _›
            go_wp2
            go_ret
            exact ⟨by rw [HD.out]; rfl, bcat2 hB hB9⟩)
      · have HD := hide (show decide (rs = ts) = true from decide_eq_true (List.ext_getElem HLEN.out fun t h1 h2 => by
          have := HNO.out t (by have := HLEN.out; omega)
          rw [List.getElem?_eq_getElem h1, List.getElem?_eq_getElem h2] at this
          exact this))
        go_wp2
        go_ret
        exact ⟨by rw [HD.out]; rfl, hB⟩
  · have hli : ¬ ((rs.length : Nat) : Int) = ((ts.length : Nat) : Int) := by omega
    have HD := hide (show decide (rs = ts) = false from decide_eq_false (fun e => hlen (by rw [e])))
    go_enter Tryd.func16, Tryd.ntmps16
    go_wp2
    go_ret
    exact ⟨by rw [HD.out]; rfl, Below.refl _ _⟩
set_option maxRecDepth 100000 in
set_option maxHeartbeats 8000000 in
theorem lsas_good (k : Nat) (caps : Array Value) (sv : Value) (xs ys : List (List Int)) (w : World) (hs : SlL w sv xs)
    (hcall : ∀ W, Sem.run Tryd.prog (callFunc k caps) W = .ok (.enter k caps) W)
    (hk : ∀ W, Below w.heap.size w W → Calls Tryd.prog k caps W fun x w' => ∃ r, x = .returned r ∧ SlL w' r ys ∧ Below W.heap.size W w') :
    Calls Tryd.prog 30 #[sv, .agg #[.int .i64 0, .int .i64 0], .agg #[.int .i64 0, .int .i64 0], .func (.func k) #[] caps] w fun x w' => x = .returned (.bool (decide (xs = ys))) ∧ Below w.heap.size w w' := by
  have hF1 : Blk ((w.alloc (.cells #[.int .i64 0, .int .i64 0] 27)).alloc (.cells #[.int .i64 0, .int .i64 0] 27)) w.heap.size 27 [.int .i64 0, .int .i64 0] := (blk0 _ _).alloc _
  have hF2 := blk0 (w := w.alloc (.cells #[.int .i64 0, .int .i64 0] 27)) (T := 27) (.int .i64 0) (.int .i64 0)
  rw [World.size_alloc] at hF2
  have hb : Below w.heap.size w ((w.alloc (.cells #[.int .i64 0, .int .i64 0] 27)).alloc (.cells #[.int .i64 0, .int .i64 0] 27)) := (balloc w _).alloc (by simp) _
  obtain ⟨f0, f1, _, _⟩ := hF1.two
  obtain ⟨g0, g1, _, _⟩ := hF2.two
  have HK := hide hk
  clear hk
  go_enter Tryd.func30, Tryd.ntmps30
  go_wp2_with fail
  generalize (w.alloc (.cells #[.int .i64 0, .int .i64 0] 27)).alloc (.cells #[.int .i64 0, .int .i64 0] 27) = w0 at *
  refine (HK.out w0 hb).mono ?_
  rintro x w1 ⟨r, rfl, hr, hb1⟩
  go_wp2_with fail
  refine (lists_any sv r xs ys w1 (hs.below (bcat2 hb hb1)) hr).mono ?_
  rintro x w2 ⟨rfl, hb2⟩
  go_wp2
  go_ret
  exact ⟨rfl, bcat2 (bcat2 hb hb1) hb2⟩
set_option maxRecDepth 100000 in
set_option maxHeartbeats 8000000 in
theorem lsas_nil (k : Nat) (caps : Array Value) (c i : Int) (r : Value) (w : World) (_h0 : 0 < w.heap.size) (hr : SlL w r []) (hc : c ≠ 0) :
    Calls Tryd.prog 30 #[r, .agg #[.int .i64 c, .int .i64 i], .agg #[.int .i64 c, .int .i64 i], .func (.func k) #[] caps] w fun x w' => x = .returned (.bool true) ∧ Below w.heap.size w w' := by
  obtain ⟨ra, rc, _, _, rfl, _, _, _, _, _⟩ := hr
  have hcb : (c != 0) = true := by simpa using hc
  have hF1 : Blk ((w.alloc (.cells #[.int .i64 c, .int .i64 i] 27)).alloc (.cells #[.int .i64 c, .int .i64 i] 27)) w.heap.size 27 [.int .i64 c, .int .i64 i] := (blk0 _ _).alloc _
  have hF2 := blk0 (w := w.alloc (.cells #[.int .i64 c, .int .i64 i] 27)) (T := 27) (.int .i64 c) (.int .i64 i)
  rw [World.size_alloc] at hF2
  have hb : Below w.heap.size w ((w.alloc (.cells #[.int .i64 c, .int .i64 i] 27)).alloc (.cells #[.int .i64 c, .int .i64 i] 27)) := (balloc w _).alloc (by simp) _
  obtain ⟨f0, f1, _, _⟩ := hF1.two
  obtain ⟨g0, g1, _, _⟩ := hF2.two
  show Calls Tryd.prog 30 #[.slice ra 0 rc, .agg #[.int .i64 c, .int .i64 i], .agg #[.int .i64 c, .int .i64 i], .func (.func k) #[] caps] w _
  go_enter Tryd.func30, Tryd.ntmps30
  go_wp2
  go_ret
  exact ⟨rfl, hb⟩
end Go.Proofs.YtmgengplfebmjaaDoor

namespace Go.Proofs.YtmgengplfebmjaaDoor
open Go Go.RowKit

/-- Does each number below n stand there? -/
def o1 (n : Nat) (xs : List Int) : Bool := (List.range n).all fun i => decide ((i : Int) ∈ xs)
theorem o1_iff {n : Nat} {xs : List Int} : o1 n xs = true ↔ ∀ i, i < n → (i : Int) ∈ xs := by simp [o1]
set_option maxRecDepth 100000 in
set_option maxHeartbeats 2000000 in
theorem one_ok (n : Nat) (v : Value) (xs : List Int) (w : World) (hv : Sl w v xs) (hl : xs.length = n) (hn : n ≤ 1000) :
    Calls Tryd.prog 38 #[v, .int .i64 n] w fun x w' => x = .returned (.bool (o1 n xs)) ∧ Below w.heap.size w w' := by
  have HY := hide (fun (h : ∀ i, i < n → (i : Int) ∈ xs) => o1_iff.2 h)
  have HX := hide (fun i (hi : i < n) (h : ¬ (i : Int) ∈ xs) => show o1 n xs = false from by
    cases h9 : o1 n xs
    · rfl
    · exact absurd (o1_iff.1 h9 i hi) h)
  obtain ⟨v1, v2, v3, rfl⟩ := hv.isSlice
  have hv2 : v2 = n := by
    obtain ⟨_, _, _, _, he, _⟩ := hv
    injection he with _ h2
    omega
  subst hv2
  generalize o1 v2 xs = b at *
  go_enter Tryd.func38, Tryd.ntmps38
  go_wp2
  go_loopw [5] (fun i wr => ∃ k : Nat, k ≤ v2 ∧ i = .int .i64 k ∧ (∀ t, t < k → (t : Int) ∈ xs) ∧ wr = w) (fun i _ => v2 - (intOf i).toNat)
  case atStart => exact ⟨0, Nat.zero_le _, rfl, fun t ht => by omega, rfl⟩
  case round =>
    obtain ⟨k, hk, rfl, hall, rfl⟩ := hrel
    have HA := hide hall
    clear hall
    by_cases hlt : k < v2
    · have hki : (k : Int) < (v2 : Int) := by omega
      have HH := hide (rhas_ok (.slice v1 v2 v3) xs (k : Int) wr hv)
      go_wp2_with fail
      refine HH.out.mono ?_
      rintro x w1 ⟨rfl, hw1⟩
      subst hw1
      by_cases hin : (k : Int) ∈ xs
      · rw [decide_eq_true hin]
        go_wp2
        go_roundw
        case rel => exact ⟨k + 1, by omega, by go_num, fun t ht => by
          by_cases e : t = k
          · subst e; exact hin
          · exact HA.out t (by omega), trivial⟩
        case measure => simp [intOf]; omega
      · rw [decide_eq_false hin]
        have hb := HX.out k hlt hin
        go_wp2
        go_ret
        exact ⟨by first | rfl | (rw [hb]; rfl), Below.refl _ _⟩
    · have hki : ¬ (k : Int) < (v2 : Int) := by omega
      have hb := HY.out (fun i hi => HA.out i (by omega))
      go_wp2
      go_ret
      exact ⟨by first | rfl | (rw [hb]; rfl), Below.refl _ _⟩
section
variable {n e : Nat} {zs : List Int}
/-- A homomorphism into the same group hits all just where it is an automorphism. -/
theorem o1_aut {φ : Nat → Nat} (H : IsHom n zs n zs φ) : o1 n (li ((List.range n).map φ)) = true ↔ IsAut n zs e φ := by
  rw [o1_iff]
  have hmem : ∀ i : Nat, (i : Int) ∈ li ((List.range n).map φ) ↔ ∃ a, a < n ∧ φ a = i := fun i => by
    unfold li
    rw [List.map_map, List.mem_map]
    constructor
    · rintro ⟨a, ha, h⟩
      exact ⟨a, List.mem_range.1 ha, by have h : (φ a : Int) = i := h; omega⟩
    · rintro ⟨a, ha, h⟩
      exact ⟨a, List.mem_range.2 ha, by show (φ a : Int) = i; omega⟩
  constructor
  · intro h
    refine ⟨H, fun a b ha hb hab => ?_⟩
    rcases Nat.decEq a b with hne | heq
    · exfalso
      -- without b all are still hit: too many for n - 1
      have hsub : ∀ z, z ∈ List.range n → z ∈ ((List.range n).erase b).map φ := fun z hz => by
        obtain ⟨c, hc, hcz⟩ := (hmem z).1 (h z (List.mem_range.1 hz))
        by_cases hcb : c = b
        · exact List.mem_map.2 ⟨a, (List.mem_erase_of_ne hne).2 (List.mem_range.2 ha), by rw [hab, ← hcb]; exact hcz⟩
        · exact List.mem_map.2 ⟨c, (List.mem_erase_of_ne hcb).2 (List.mem_range.2 hc), hcz⟩
      have := Pm.nodup_len _ _ List.nodup_range hsub
      rw [List.length_map, List.length_erase_of_mem (List.mem_range.2 hb), List.length_range] at this
      omega
    · exact heq
  · intro A i hi
    obtain ⟨a, ha, hae⟩ := Pm.perm_hits (aut_perm A) (y := i) (by rw [hom_list_len]; exact hi)
    rw [hom_list_len] at ha
    refine (hmem i).2 ⟨a, ha, ?_⟩
    unfold Pm.nx at hae
    rw [hom_list_at ha] at hae
    simpa using hae
/-- What Autos lists stands in order. -/
theorem aut_sorted (g : IsGrp n zs e) {ks : List Nat} (hLM : LM n zs e ks) (hall : ∀ a, a < n → Mkd n zs e (fun x => decide (x ∈ ks)) a) : (autL n zs e ks).Pairwise (fun a b => cmpL a b < 0) := by
  refine homF_sorted (FP := fun φ => ∀ a, a < n → φ a = e → a = e) (fit := fun ms => sngq n e ms e) g g hLM hall (fun φ S ps H hF hps hS => ?_) (fun φ H hf a ha hae => ?_) _ _ (by simp) (by simp) (by simp)
  · exact sng_fit g H hF hps hS
  · exact sng_ker hf ha hae
theorem aut_filter (g : IsGrp n zs e) {ks ls : List Nat} {ms : List (List Int)} (hLM : LM n zs e ks) (hall : ∀ a, a < n → Mkd n zs e (fun x => decide (x ∈ ks)) a) (hl : ∀ k, k ∈ ls → k < n) (hall' : ∀ a, a < n → Mkd n zs e (fun x => decide (x ∈ ls)) a) (hp : ms.Perm (dhF n zs e n zs e ls ls.length [])) (hs : srt ms) : ms.filter (o1 n) = autL n zs e ks := by
  have hnd : ms.Nodup := hp.nodup_iff.2 (dh_nodup g g hl hall' _ _ (by simp) (by simp))
  have hsort := aut_sorted g hLM hall
  have hnd2 : (autL n zs e ks).Nodup := hsort.imp fun {a b} h h9 => by
    subst h9
    have := (cmpL_zero a a).2 rfl
    omega
  refine srt_eq ((List.perm_ext_iff_of_nodup (hnd.sublist List.filter_sublist) hnd2).2 fun L => ?_) ?_ hsort
  · rw [List.mem_filter, hp.mem_iff, dh_mem g g hl hall' _ _ _ (by simp) (by simp), aut_mem g hLM.lt hall]
    constructor
    · rintro ⟨⟨φ, H, rfl, _⟩, ho⟩
      exact ⟨φ, (o1_aut H).1 ho, rfl⟩
    · rintro ⟨φ, A, rfl⟩
      exact ⟨⟨φ, A.hom, rfl, fun i hi => by simp at hi⟩, (o1_aut A.hom).2 A⟩
  · have h1 : ms.Pairwise (fun a b => ¬ cmpL b a < 0) := List.pairwise_iff_getElem.2 fun i j hi hj hij => by
      have := hs i j hij hj
      rwa [List.getElem?_eq_getElem hi, List.getElem?_eq_getElem hj] at this
    have h2 := h1.sublist (List.filter_sublist (p := o1 n))
    intro i j hij hj
    have := List.pairwise_iff_getElem.1 h2 i j (by omega) hj hij
    rw [List.getElem?_eq_getElem hj, List.getElem?_eq_getElem (show i < (ms.filter (o1 n)).length by omega)]
    exact this
/-- Struck and sorted. -/
theorem dd_sorted {ls : List (List Int)} (hs : srt ls) : (dd ls).Pairwise (fun a b => cmpL a b < 0) := by
  have h1 : (dd ls).Pairwise (fun a b => ¬ cmpL b a < 0) := by
    unfold dd
    refine List.pairwise_map.2 ?_
    have h0 : (kpt ls ls.length).Pairwise (· < ·) := List.pairwise_lt_range.sublist List.filter_sublist
    refine h0.imp_of_mem ?_
    intro i j hi hj hij
    have hjl := List.mem_range.1 (List.mem_filter.1 hj).1
    exact hs i j hij hjl
  have h2 : (dd ls).Pairwise (fun a b => a ≠ b) := dd_nodup hs
  refine (h1.and h2).imp fun {a b} h => ?_
  obtain ⟨h3, h4⟩ := h
  have h5 := cmpL_neg a b
  have h6 : cmpL a b ≠ 0 := fun h9 => h4 ((cmpL_zero a b).1 h9)
  omega
theorem inn_same {ms os rs : List (List Int)} (hp : ms.Perm (innL n zs e)) (hs : srt ms) (hnd : os.Nodup) (hm : ∀ x, x ∈ os ↔ ∃ a, a < n ∧ x = cjL n zs e a) (hr : rs.Perm os) (hrs : srt rs) : rs = dd ms := by
  refine srt_eq (hr.trans ((List.perm_ext_iff_of_nodup hnd (dd_nodup hs)).2 fun x => ?_)) hrs (dd_sorted hs)
  rw [hm, dd_mem, hp.mem_iff, inn_mem]
end
end Go.Proofs.YtmgengplfebmjaaDoor

namespace Go.Proofs.YtmgengplfebmjaaDoor
open Go Go.RowKit

theorem call34 (x : Value) (W : World) : Sem.run Tryd.prog (callFunc 34 #[x]) W = .ok (.enter 34 #[x]) W := by kernel_rfl
/-- How the search stands: a things are gone through. -/
structure HaS (w wr : World) (n : Nat) (zs : List Int) (e a : Nat) (r : Value) (vs : List Value) (os : List (List Int)) : Prop where
  row : wr.ownsRow w.heap.size 22 1 r vs.length vs
  ls : Lsts wr w.heap.size r vs os
  nd : os.Nodup
  mem : ∀ x, x ∈ os ↔ ∃ b, b < a ∧ x = cjL n zs e b
  len : os.length ≤ a
  bel : Below w.heap.size w wr
theorem HaS.below {w wr W : World} {n : Nat} {zs : List Int} {e a : Nat} {r : Value} {vs : List Value} {os : List (List Int)} (h : HaS w wr n zs e a r vs os) (hb : Below wr.heap.size wr W) : HaS w W n zs e a r vs os :=
  ⟨own_keep' h.row (fun g _ h2 => hb.block g h2), h.ls.keep hb.size (fun g _ h2 _ => hb.block g h2) (.inl rfl), h.nd, h.mem, h.len, bcat2 h.bel hb⟩
theorem addr_add (g t : Nat) : (⟨g, 0, none⟩ : Addr).add t = ⟨g, t, none⟩ := by unfold Addr.add; split <;> simp_all
set_option maxRecDepth 100000 in
set_option maxHeartbeats 8000000 in
theorem hau1_ok (n e gb : Nat) (v1 : Option Addr) (v2 v3 : Nat) (zs : List Int) (w : World) (hG : BoxG w gb n (.slice v1 v2 v3)) (hv : Sl w (.slice v1 v2 v3) zs) (hg : IsGrp n zs e) :
    Calls Tryd.prog 34 #[.pointer (some ⟨gb, 0, none⟩)] w fun x w' => ∃ (r : Value) (os ms : List (List Int)), x = .returned r ∧ SlL w' r ms ∧ os.Nodup ∧ (∀ x, x ∈ os ↔ ∃ a, a < n ∧ x = cjL n zs e a) ∧ ms.Perm os ∧ srt ms ∧ Below w.heap.size w w' := by
  obtain ⟨i0, hi0, hz0, hz1, hz2⟩ := info_parts info3b
  obtain ⟨i2, hi2, hy0, hy1, hy2⟩ := info_parts info22b
  have hn60 := hg.tab.le
  have hst : HaS w w n zs e 0 (.slice none 0 0) [] [] := ⟨World.ownsRow_nil _ _ _ _, ⟨rfl, fun t x l h => by simp at h⟩, List.nodup_nil, fun x => by simp, Nat.le_refl _, Below.refl _ _⟩
  go_enter Tryd.func34, Tryd.ntmps34
  go_wp2
  go_loopw [2, 3] (fun r i wr => ∃ (a : Nat) (vs : List Value) (os : List (List Int)), a ≤ n ∧ i = .int .i64 a ∧ HaS w wr n zs e a r vs os) (fun _ i _ => n - (intOf i).toNat)
  case atStart => exact ⟨0, [], [], Nat.zero_le _, rfl, hst⟩
  case round =>
    obtain ⟨a, vs, os, han, rfl, hH⟩ := hrel
    obtain ⟨r, rfl⟩ : ∃ r, r = u2 := ⟨_, rfl⟩
    obtain ⟨wa, rfl⟩ : ∃ wa, wa = wr := ⟨_, rfl⟩
    clear hst
    obtain ⟨ra, rc, hre⟩ := own_slice' hH.row
    subst hre
    have hvl := hH.ls.1
    have hol := hH.len
    have hGa := blk_below hG hH.bel
    obtain ⟨c0, c1, _, _⟩ := hGa.two
    by_cases hlt : a < n
    · have hai : (a : Int) < (n : Int) := by omega
      have hcl := cjL_len n zs e a
      have HVL := hide hvl
      have HCL := hide hcl
      clear hvl hcl
      go_wp2
      go_loopw [4, 5] (fun mv i wr => ∃ k : Nat, k ≤ n ∧ i = .int .i64 k ∧ Row wr wa.heap.size mv ((cjL n zs e a).take k) ∧ Below wa.heap.size wa wr) (fun _ i _ => n - (intOf i).toNat)
      case atStart => exact ⟨0, Nat.zero_le _, rfl, World.ownsRow_nil _ _ _ _, Below.refl _ _⟩
      case round =>
        obtain ⟨k, hk, rfl, hown, hB⟩ := hrel
        obtain ⟨mv, rfl⟩ : ∃ mv, mv = u4 := ⟨_, rfl⟩
        have hGk := blk_below hGa hB
        obtain ⟨d0, d1, _, _⟩ := hGk.two
        by_cases hkn : k < n
        · have hki : (k : Int) < (n : Int) := by omega
          have hil : ((cjL n zs e a).take k).length = k := by rw [List.length_take, HCL.out]; omega
          have hsn : (cjL n zs e a).take (k + 1) = (cjL n zs e a).take k ++ [(Fin.cj (tm n zs) (iv n zs e) k a : Int)] := by
            have h9 : k < (cjL n zs e a).length := by rw [HCL.out]; exact hkn
            rw [List.take_succ_eq_append_getElem h9]
            have := cjL_at (zs := zs) (e := e) (a := a) hkn
            rw [List.getElem?_eq_getElem h9, Option.getD_some] at this
            rw [this]
          have HIL := hide hil
          have HSN := hide hsn
          have HC := hide (rcj_ok n e k a (.slice v1 v2 v3) zs wr hg ((hv.below hH.bel).below hB) hkn hlt)
          clear hil hsn
          generalize Fin.cj (tm n zs) (iv n zs e) k a = q at *
          go_wp2_with fail
          clear d0 d1
          refine HC.out.mono ?_
          rintro x w5 ⟨rfl, hb5⟩
          have hown5 := row_below hown hb5
          have hB5 := bcat2 hB hb5
          have hBs := hB5.size
          unfold Row at hown5
          go_wp2_with (first
            | (at_builtin; refine wpList_append_own _ rfl _ _ 22 rfl wa.heap.size 3 i0 (.int .i64 0) 1 8 under22b hi0 hz0 hz1 hz2 rfl (by decide) _ _ _ rfl (World.ownsRow.alloc hown5 _) ⟨w5.heap.size, 0, none⟩ 1 1 [.int .i64 q] rfl rfl ?c1 ?c2 ?c3 ?c4 ?c5 ?_))
          case c1 => exact cell_one_new _ _ _
          case c2 => simp [Value.oneCell']
          case c3 => unfold maxLen; have := HIL.out; omega
          case c4 => have := HIL.out; omega
          case c5 => simp; omega
          intro v' w2 hown' hgrow _
          obtain ⟨g', cap', rfl⟩ := ownsRow_succ hown'
          have hB2 : Below wa.heap.size wa w2 := (hB5.alloc hBs _).grown hgrow (by simp; omega) (fun j e => owns_ge hown5 j e)
          have hown9 : Row w2 wa.heap.size (.slice (some ⟨g', 0, none⟩) (((cjL n zs e a).take k).length + 1) cap') ((cjL n zs e a).take (k + 1)) := by
            unfold Row
            rw [HSN.out]; simpa using hown'
          clear hown' hgrow hown hown5
          go_wp2
          go_roundw
          case rel => exact ⟨k + 1, by omega, by go_num, by rw [← List.length_take]; exact hown9, hB2⟩
          case measure => simp [intOf]; omega
        · have hki : ¬ (k : Int) < (n : Int) := by omega
          rw [List.take_of_length_le (by rw [HCL.out]; omega)] at hown
          obtain ⟨wm, rfl⟩ : ∃ wm, wm = wr := ⟨_, rfl⟩
          have hHm := hH.below hB
          obtain ⟨m1, m3, hme⟩ := own_slice hown
          rw [HCL.out] at hme
          subst hme
          have hmS := row_sl hown (Nat.lt_of_le_of_lt (Nat.zero_le _) hGk.lt)
          have hLS := SlL.of_own hHm.row hHm.ls (Nat.lt_of_le_of_lt (Nat.zero_le _) hGk.lt)
          obtain ⟨oa, oc, opb, opo, hov, hoat, hocell, hop, ho4, ho5⟩ := id hLS
          injection hov with e1 e2 e3
          subst e1 e3
          have HOA := hide hoat
          have HOC := hide hocell
          have HOL := hide e2
          clear hoat hocell ho4 ho5 e2
          go_wp2
          clear d0 d1
          go_loopw [6, 7] (fun bv i wr => ∃ k : Nat, k ≤ vs.length ∧ i = .int .i64 k ∧ bv = .bool (decide (cjL n zs e a ∈ os.take k)) ∧ Below wm.heap.size wm wr) (fun _ i _ => vs.length - (intOf i).toNat)
          case atStart => exact ⟨0, Nat.zero_le _, rfl, by simp, Below.refl _ _⟩
          case round =>
            obtain ⟨j, hj, rfl, hbv, hBj⟩ := hrel
            obtain ⟨bv, rfl⟩ : ∃ bv, bv = u6 := ⟨_, rfl⟩
            subst hbv
            by_cases hjl : j < vs.length
            · have hji : (j : Int) < (vs.length : Int) := by omega
              have hjo : j < os.length := by have := HVL.out; omega
              have htk : os.take (j + 1) = os.take j ++ [os[j]] := List.take_succ_eq_append_getElem hjo
              by_cases hin : cjL n zs e a ∈ os.take j
              · have hin2 : decide (cjL n zs e a ∈ os.take (j + 1)) = true := decide_eq_true (by rw [htk]; exact List.mem_append_left _ hin)
                rw [decide_eq_true hin]
                have HI2 := hide hin2
                clear hin hin2 htk
                go_wp2
                go_roundw
                case rel => exact ⟨j + 1, by omega, by go_num, by rw [HI2.out], hBj⟩
                case measure => simp [intOf]; omega
              · obtain rfl := HOA.out (by omega)
                obtain ⟨x, hx, hxs⟩ := HOC.out j hjo
                rw [List.getElem?_eq_getElem hjo, Option.getD_some] at hxs
                obtain ⟨x1, x2, x3, rfl⟩ := hxs.isSlice
                have hx := below_cell hBj hx
                have HI := hide (ints_any (.slice x1 x2 x3) (.slice m1 n m3) _ _ wr (hxs.below hBj) (hmS.below hBj))
                have HI2 := hide (show decide (cjL n zs e a ∈ os.take (j + 1)) = decide (os[j] = cjL n zs e a) by
                  rw [Bool.eq_iff_iff, decide_eq_true_eq, decide_eq_true_eq, htk, List.mem_append, List.mem_singleton]
                  exact ⟨fun h => by
                    rcases h with h | h
                    · exact absurd h hin
                    · exact h.symm, fun h => .inr h.symm⟩)
                rw [decide_eq_false hin]
                clear hin htk
                generalize decide (os[j] = cjL n zs e a) = bb at *
                go_wp2_with fail
                clear hx
                refine HI.out.mono ?_
                rintro x w6 ⟨rfl, hb6⟩
                have hB6 := bcat2 hBj hb6
                go_wp2
                go_roundw
                case rel => exact ⟨j + 1, by omega, by go_num, by rw [HI2.out], hB6⟩
                case measure => simp [intOf]; omega
            · have hji : ¬ (j : Int) < (vs.length : Int) := by omega
              rw [List.take_of_length_le (by have := HVL.out; omega)]
              by_cases hin : cjL n zs e a ∈ os
              · rw [decide_eq_true hin]
                have hHn : HaS w wr n zs e (a + 1) (.slice ra vs.length rc) vs os := by
                  have h9 := hHm.below hBj
                  exact ⟨h9.row, h9.ls, h9.nd, fun x => by
                    rw [h9.mem]
                    constructor
                    · rintro ⟨b, hb, hx⟩; exact ⟨b, by omega, hx⟩
                    · rintro ⟨b, hb, hx⟩
                      by_cases hba : b = a
                      · rw [hba] at hx
                        rw [hx]
                        exact (h9.mem _).1 hin
                      · exact ⟨b, by omega, hx⟩, by have := h9.len; omega, h9.bel⟩
                have HHN := hide hHn
                clear hHn hin
                go_wp2
                go_roundw
                case rel => exact ⟨a + 1, vs, os, by omega, by go_num, HHN.out⟩
                case measure => simp [intOf]; omega
              · rw [decide_eq_false hin]
                have h9 := hHm.below hBj
                have hr2 := h9.row
                have hr3 := h9.ls
                have hBw := h9.bel
                have hB1 := hBw.size
                have hobA : ∀ t, (Value.slice ra vs.length rc).ownBlock = some t → t < wa.heap.size := fun t ht => by
                  rcases hH.row.2 with ⟨h8, _⟩ | ⟨g9, cap9, cur9, h8, h7, h6, _⟩
                  · rw [h8] at ht; simp [Value.ownBlock] at ht
                  · rw [h8] at ht
                    simp [Value.ownBlock] at ht
                    subst ht
                    exact (Array.getElem?_eq_some_iff.1 h6).1
                have HOB := hide hobA
                have hvs : vs.length ≤ 60 := by have := HVL.out; omega
                have HNI := hide hin
                clear hobA hin
                go_wp2_with (first
                  | (at_builtin; refine wpList_append_own_at _ rfl _ _ 25 rfl w.heap.size 22 i2 (.slice none 0 0) 1 24 under25b hi2 hy0 hy1 hy2 rfl (by decide) _ _ _ rfl (World.ownsRow.alloc hr2 _) ⟨wr.heap.size, 0, none⟩ 1 1 [.slice m1 n m3] rfl rfl ?k1 ?k2 ?k3 ?k4 ?k5 ?_))
                case k2 => simp [Value.oneCell']
                case k3 => unfold maxLen; omega
                case k4 => omega
                case k5 => (first | (rw [World.size_alloc]; omega) | omega | (simp; omega))
                intro v' W2 hown' hgrow hnil hloc
                obtain ⟨ra', rcap', rfl⟩ := own_slice' hown'
                have hge := owns_ge hr2
                have hszw : wr.heap.size + 1 ≤ W2.heap.size := by have := hgrow.size; simpa using this
                have hB2 : Below w.heap.size w W2 := (hBw.alloc hB1 _).grown hgrow (by simp; omega) (fun j e => hge j e)
                have hkeep : ∀ b, b < wr.heap.size → (Value.slice ra vs.length rc).ownBlock ≠ some b → W2.heap[b]? = wr.heap[b]? := fun b h1 h3 => by
                  rw [hgrow.block b (by simp; omega) (fun e => h3 e.symm)]
                  exact Below.heap_alloc _ _ _ h1
                have hlo : (Value.slice ra' (vs.length + 1) rcap').ownBlock = (Value.slice ra vs.length rc).ownBlock ∨ ∀ g, (Value.slice ra' (vs.length + 1) rcap').ownBlock = some g → wr.heap.size ≤ g := by
                  rcases hloc with h | h
                  · exact .inl h
                  · right; intro g hg; rw [h] at hg; simp at hg; omega
                have hrow2 : W2.ownsRow w.heap.size 22 1 (.slice ra' (vs.length + 1) rcap') (vs ++ [Value.slice m1 n m3]).length (vs ++ [Value.slice m1 n m3]) := by simpa using hown'
                have hmR := row_below hown hBj
                have hls2 : Lsts W2 w.heap.size (.slice ra' (vs.length + 1) rcap') (vs ++ [Value.slice m1 n m3]) (os ++ [cjL n zs e a]) := by
                  refine (hr3.keep (by omega) (fun b h1 h2 h3 => hkeep b h2 h3) hlo).snoc ?_
                  rcases hmR.2 with ⟨h8, h7⟩ | ⟨g9, cap9, cur9, h8, h7, h6, h5, h4, _⟩
                  · exfalso
                    have := HCL.out
                    omega
                  · injection h8 with e1 e2 e3
                    subst e1 e3
                    have hg9 : g9 < wr.heap.size := (Array.getElem?_eq_some_iff.1 h6).1
                    have hrd : Reads wr (some ⟨g9, 0, none⟩) g9 0 (cjL n zs e a) := by
                      have hs9 := hmS.below hBj
                      refine ⟨fun _ => rfl, fun t ht => ?_⟩
                      have h3 := hmR.cells (g := g9) rfl t (.int .i64 ((cjL n zs e a)[t]?.getD 0)) (by simp [ht])
                      rw [addr_add g9 t] at h3
                      rw [Nat.zero_add]; exact h3
                    have hne9 : (Value.slice ra vs.length rc).ownBlock ≠ some g9 := fun e => by have := HOB.out g9 e; omega
                    refine ⟨some ⟨g9, 0, none⟩, m3, g9, 0, by rw [HCL.out], hrd.of_eq (hkeep g9 hg9 hne9), by omega, h5, h4, by have := hH.bel.size; omega, fun g hg e => ?_⟩
                    subst e
                    rcases hlo with h | h
                    · exact hne9 (h ▸ hg)
                    · have := h _ hg; omega
                have hHn : HaS w W2 n zs e (a + 1) (.slice ra' (vs.length + 1) rcap') (vs ++ [Value.slice m1 n m3]) (os ++ [cjL n zs e a]) :=
                  ⟨hrow2, hls2, List.nodup_append.2 ⟨h9.nd, by simp, fun x hx y hy hxy => by
                    simp at hy
                    subst hy hxy
                    exact HNI.out hx⟩, fun x => by
                    rw [List.mem_append, List.mem_singleton, h9.mem]
                    constructor
                    · rintro (⟨b, hb, hx⟩ | hx)
                      · exact ⟨b, by omega, hx⟩
                      · exact ⟨a, by omega, hx⟩
                    · rintro ⟨b, hb, hx⟩
                      by_cases hba : b = a
                      · exact .inr (by rw [hx, hba])
                      · exact .inl ⟨b, by omega, hx⟩, by have := h9.len; simp; omega, hB2⟩
                have HHN := hide hHn
                clear hHn hls2 hrow2 hkeep hlo hown' hgrow hnil hloc hmR hge hB2 h9 hr2 hr3 hBw
                go_wp2
                go_roundw
                case rel => exact ⟨a + 1, _, _, by omega, by go_num, HHN.out⟩
                case measure => simp [intOf]; omega
    · have hai : ¬ (a : Int) < (n : Int) := by omega
      have hae : a = n := by omega
      have HMEM := hide (show ∀ x, x ∈ os ↔ ∃ b, b < n ∧ x = cjL n zs e b from by
        intro x
        rw [hH.mem, hae])
      have HRI := hide (rising_ok w.heap.size n (.slice ra vs.length rc) vs os wa hH.row hH.ls (fun l hl => by
        obtain ⟨b, _, rfl⟩ := (hH.mem l).1 hl
        exact cjL_len _ _ _ _) hH.bel.size)
      have HHH := hide hH
      have h0a : 0 < wa.heap.size := Nat.lt_of_le_of_lt (Nat.zero_le _) hGa.lt
      clear hae hH hvl hol hGa
      go_wp2_with fail
      clear c0 c1
      refine HRI.out.mono ?_
      rintro x W9 ⟨rfl, hb9, us, ms, hul, hpm, hsrt, hrow, hls⟩
      go_wp2
      go_ret
      exact ⟨_, os, ms, rfl, SlL.of_own hrow hls (Nat.lt_of_lt_of_le h0a hb9.size), HHH.out.nd, HMEM.out, hpm, hsrt, HHH.out.bel.trans hb9⟩
end Go.Proofs.YtmgengplfebmjaaDoor

namespace Go.Proofs.YtmgengplfebmjaaDoor
open Go Go.RowKit

theorem slL_mk {w : World} {B : Nat} {r : Value} {us : List Value} {ls : List (List Int)} (h : w.ownsRow B 22 1 r us.length us) (hl : us.length = ls.length) (hs : ∀ (t : Nat) x l, us[t]? = some x → ls[t]? = some l → Sl w x l) (h0 : 0 < w.heap.size) : SlL w r ls := by
  rcases h.2 with ⟨rfl, hz⟩ | ⟨g, cap, cur, rfl, _, hh, h1, h2, _⟩
  · have : ls = [] := List.length_eq_zero_iff.1 (by omega)
    subst this
    exact ⟨none, 0, 0, 0, rfl, by simp, fun j hj => by simp at hj, h0, by simp, by unfold maxLen; omega⟩
  · refine ⟨some ⟨g, 0, none⟩, cap, g, 0, by rw [hl], fun _ => rfl, fun j hj => ?_, (Array.getElem?_eq_some_iff.1 hh).1, by omega, h2⟩
    have hj2 : j < us.length := by omega
    refine ⟨us[j], ?_, ?_⟩
    · have h3 := h.cells (g := g) rfl j us[j] (List.getElem?_eq_getElem hj2)
      rw [addr_add] at h3
      rw [Nat.zero_add]; exact h3
    · rw [List.getElem?_eq_getElem hj, Option.getD_some]
      exact hs j us[j] ls[j] (List.getElem?_eq_getElem hj2) (List.getElem?_eq_getElem hj)
set_option maxRecDepth 100000 in
set_option maxHeartbeats 4000000 in
theorem hau_bad (N c i : Int) (v1 : Option Addr) (v2 v3 : Nat) (zs : List Int) (w : World) (hT : Tab w) (hc : c ≠ 0)
    (HO : Hid (∀ W, Below w.heap.size w W → Calls Tryd.prog 10 #[.agg #[.int .i64 N, .slice v1 v2 v3]] W fun x W' => ∃ u1 u2 u3, x = .returned (.agg #[.int .i64 N, .slice u1 u2 u3]) ∧ Sl W' (.slice u1 u2 u3) zs ∧ Below W.heap.size W W'))
    (HAU : Hid (∀ W u, Below w.heap.size w W → Sl W u zs → Calls Tryd.prog 32 #[.agg #[.int .i64 N, u]] W fun x W' => x = .returned (.tuple #[.slice none 0 0, .agg #[.int .i64 c, .int .i64 i]]) ∧ Below W.heap.size W W'))
    (HIN : Hid (∀ W u, Below w.heap.size w W → Sl W u zs → Calls Tryd.prog 33 #[.agg #[.int .i64 N, u]] W fun x W' => x = .returned (.tuple #[.slice none 0 0, .agg #[.int .i64 c, .int .i64 i]]) ∧ Below W.heap.size W W'))
    (HGF : Hid (∀ W, Below w.heap.size w W → Calls Tryd.prog 12 #[.agg #[.int .i64 N, .slice v1 v2 v3]] W fun x W' => x = .returned (.agg #[.int .i64 c, .int .i64 i]) ∧ Below W.heap.size W W')) :
    Calls Tryd.prog 6 #[.agg #[.int .i64 N, .slice v1 v2 v3]] w fun e w' => e = .returned (.bool true) ∧ Below w.heap.size w w' := by
  have hB0 : Below w.heap.size w (w.alloc (.cells #[.int .i64 N, .slice v1 v2 v3] 24)) := balloc w _
  have hX0 : BoxG (w.alloc (.cells #[.int .i64 N, .slice v1 v2 v3] 24)) w.heap.size N (.slice v1 v2 v3) := blk0 (w := w) (T := 24) _ _
  obtain ⟨w0, hw0⟩ : ∃ w0, w0 = w.alloc (.cells #[.int .i64 N, .slice v1 v2 v3] 24) := ⟨_, rfl⟩
  rw [← hw0] at hB0 hX0
  have hcb : (c != 0) = true := by simpa using hc
  have hcz : (c == 0) = false := by simpa using hc
  go_enter Tryd.func6, Tryd.ntmps6
  go_wp2_with fail
  rw [← hw0]
  clear hw0
  refine (HO.out _ hB0).mono ?_
  rintro x w1 ⟨u1, u2, u3, rfl, hu1, hb1⟩
  have hB1 := bcat2 hB0 hb1
  go_wp2_with fail
  refine (HAU.out _ _ hB1 hu1).mono ?_
  rintro x w2 ⟨rfl, hb2⟩
  have hb2 := bcat2 hb2 (balloc w2 (.cells #[.int .i64 c, .int .i64 i] 27))
  have hF2 := blk0 (w := w2) (T := 27) (.int .i64 c) (.int .i64 i)
  have hB2 := bcat2 hB1 hb2
  have hX2 := blk_below hX0 (bcat2 hb1 hb2)
  obtain ⟨c0, c1, _, _⟩ := hX2.two
  go_wp2_with fail
  clear c0 c1
  generalize w2.alloc (.cells #[.int .i64 c, .int .i64 i] 27) = w3 at *
  refine (HO.out _ hB2).mono ?_
  rintro x w4 ⟨t1, t2, t3, rfl, hu4, hb4⟩
  have hB4 := bcat2 hB2 hb4
  go_wp2_with fail
  refine (HIN.out _ _ hB4 hu4).mono ?_
  rintro x w5 ⟨rfl, hb5⟩
  have hb5 := bcat2 hb5 (balloc w5 (.cells #[.int .i64 c, .int .i64 i] 27))
  have hG5 := blk0 (w := w5) (T := 27) (.int .i64 c) (.int .i64 i)
  have hB5 := bcat2 hB4 hb5
  have hX5 := blk_below hX2 (bcat2 hb4 hb5)
  have hF5 := blk_below hF2 (bcat2 hb4 hb5)
  obtain ⟨c0, c1, _, _⟩ := hX5.two
  go_wp2_with fail
  clear c0 c1
  generalize w5.alloc (.cells #[.int .i64 c, .int .i64 i] 27) = w6 at *
  refine (HGF.out _ hB5).mono ?_
  rintro x w7 ⟨rfl, hb7⟩
  have hb7 := bcat2 hb7 (balloc w7 (.cells #[.int .i64 c, .int .i64 i] 27))
  have hW7 := blk0 (w := w7) (T := 27) (.int .i64 c) (.int .i64 i)
  have hB7 := bcat2 hB5 hb7
  have hF7 := blk_below hF5 hb7
  have hG7 := blk_below hG5 hb7
  go_wp2_with fail
  generalize w7.alloc (.cells #[.int .i64 c, .int .i64 i] 27) = w8 at *
  refine (homBegun_any _ (hT.below hB7)).mono ?_
  rintro x w9 ⟨rfl, hb9⟩
  obtain ⟨f0, f1, _, _⟩ := (blk_below hF7 hb9).two
  obtain ⟨g0, g1, _, _⟩ := (blk_below hG7 hb9).two
  obtain ⟨h0, h1, _, _⟩ := (blk_below hW7 hb9).two
  have hn9 : SlL w9 (.slice none 0 0) [] := ⟨none, 0, 0, 0, rfl, fun h => by simp at h, fun j hj => by simp at hj, Nat.lt_of_le_of_lt (Nat.zero_le _) (blk_below hW7 hb9).lt, Nat.le_refl _, by unfold maxLen; omega⟩
  have HLA := hide (fun k caps => lsas_nil k caps c i (.slice none 0 0) w9 (Nat.lt_of_le_of_lt (Nat.zero_le _) (blk_below hW7 hb9).lt) hn9 hc)
  go_wp2_with fail
  clear f0 f1 g0 g1 h0 h1
  refine (HLA.out _ _).mono ?_
  rintro x wA ⟨rfl, hbA⟩
  have hbA := bcat2 hb9 hbA
  obtain ⟨f0, f1, _, _⟩ := (blk_below hF7 hbA).two
  obtain ⟨h0, h1, _, _⟩ := (blk_below hW7 hbA).two
  go_wp2
  go_ret
  exact ⟨rfl, bcat2 hB7 hbA⟩
end Go.Proofs.YtmgengplfebmjaaDoor

namespace Go.Proofs.YtmgengplfebmjaaDoor
open Go Go.RowKit

set_option maxRecDepth 100000 in
set_option maxHeartbeats 16000000 in
theorem hau_good (n e : Nat) (c : Int) (LS AL : List (List Int)) (v1 : Option Addr) (v2 v3 : Nat) (zs : List Int) (w : World) (hT : Tab w) (hg : IsGrp n zs e) (hv : Sl w (.slice v1 v2 v3) zs)
    (HO : Hid (∀ W, Below w.heap.size w W → Calls Tryd.prog 10 #[.agg #[.int .i64 n, .slice v1 v2 v3]] W fun x W' => ∃ u1 u2 u3, x = .returned (.agg #[.int .i64 n, .slice u1 u2 u3]) ∧ Sl W' (.slice u1 u2 u3) zs ∧ Below W.heap.size W W'))
    (HAU : Hid (∀ W u, Below w.heap.size w W → Sl W u zs → Calls Tryd.prog 32 #[.agg #[.int .i64 n, u]] W fun x W' => ∃ (r1 : Option Addr) (r3 : Nat), x = .returned (.tuple #[.slice r1 LS.length r3, .agg #[.int .i64 c, .int .i64 0]]) ∧ SlL W' (.slice r1 LS.length r3) LS ∧ Below W.heap.size W W'))
    (HIN : Hid (∀ W u, Below w.heap.size w W → Sl W u zs → Calls Tryd.prog 33 #[.agg #[.int .i64 n, u]] W fun x W' => ∃ (r1 : Option Addr) (r3 : Nat) (ms : List (List Int)), x = .returned (.tuple #[.slice r1 (dd ms).length r3, .agg #[.int .i64 0, .int .i64 0]]) ∧ ms.Perm (innL n zs e) ∧ srt ms ∧ SlL W' (.slice r1 (dd ms).length r3) (dd ms) ∧ Below W.heap.size W W'))
    (HGF : Hid (∀ W, Below w.heap.size w W → Calls Tryd.prog 12 #[.agg #[.int .i64 n, .slice v1 v2 v3]] W fun x W' => x = .returned (.agg #[.int .i64 0, .int .i64 0]) ∧ Below W.heap.size W W'))
    (hway : (24 < n ∧ c = 2 ∧ LS = []) ∨
      (¬ 24 < n ∧ Hid (∀ W, Below w.heap.size w W → Calls Tryd.prog 29 #[.agg #[.int .i64 n, .slice v1 v2 v3], .agg #[.int .i64 n, .slice v1 v2 v3], .int .i64 5000] W fun x W' => x = .returned (.tuple #[.slice none 0 0, .bool false]) ∧ Below W.heap.size W W') ∧
        ((c = 0 ∧ LS.length ≤ 1000 ∧ (∀ L, L ∈ LS → ∃ φ, IsAut n zs e φ ∧ L = li ((List.range n).map φ)) ∧ LS.Pairwise (fun a b => cmpL a b < 0)) ∨ (c = 9 ∧ LS = []))) ∨
      (¬ 24 < n ∧ Hid (∀ W, Below w.heap.size w W → Calls Tryd.prog 29 #[.agg #[.int .i64 n, .slice v1 v2 v3], .agg #[.int .i64 n, .slice v1 v2 v3], .int .i64 5000] W fun x W' => ∃ (r1 : Option Addr) (r3 : Nat) (ms : List (List Int)), x = .returned (.tuple #[.slice r1 ms.length r3, .bool true]) ∧ (∀ l, l ∈ ms → l.length = n) ∧ ms.length ≤ 5000 ∧ ms.filter (o1 n) = AL ∧ SlL W' (.slice r1 ms.length r3) ms ∧ Below W.heap.size W W') ∧
        ((c = 0 ∧ LS = AL ∧ ¬ 1000 < AL.length) ∨ (c = 9 ∧ LS = [] ∧ 1000 < AL.length)))) :
    Calls Tryd.prog 6 #[.agg #[.int .i64 n, .slice v1 v2 v3]] w fun e w' => e = .returned (.bool true) ∧ Below w.heap.size w w' := by
  have hn60 := hg.tab.le
  have hB0 : Below w.heap.size w (w.alloc (.cells #[.int .i64 n, .slice v1 v2 v3] 24)) := balloc w _
  have hX0 : BoxG (w.alloc (.cells #[.int .i64 n, .slice v1 v2 v3] 24)) w.heap.size n (.slice v1 v2 v3) := blk0 (w := w) (T := 24) _ _
  obtain ⟨w0, hw0⟩ : ∃ w0, w0 = w.alloc (.cells #[.int .i64 n, .slice v1 v2 v3] 24) := ⟨_, rfl⟩
  rw [← hw0] at hB0 hX0
  have hcall := call34
  go_enter Tryd.func6, Tryd.ntmps6
  go_wp2_with fail
  rw [← hw0]
  clear hw0
  refine (HO.out _ hB0).mono ?_
  rintro x w1 ⟨u1, u2, u3, rfl, hu1, hb1⟩
  have hB1 := bcat2 hB0 hb1
  go_wp2_with fail
  refine (HAU.out _ _ hB1 hu1).mono ?_
  rintro x w2 ⟨l1, l3, rfl, hsl2, hb2⟩
  have hb2 := bcat2 hb2 (balloc w2 (.cells #[.int .i64 c, .int .i64 0] 27))
  have hsl3 := hsl2.below (balloc w2 (.cells #[.int .i64 c, .int .i64 0] 27))
  have hF2 := blk0 (w := w2) (T := 27) (.int .i64 c) (.int .i64 0)
  have hB2 := bcat2 hB1 hb2
  have hX2 := blk_below hX0 (bcat2 hb1 hb2)
  obtain ⟨c0, c1, _, _⟩ := hX2.two
  go_wp2_with fail
  clear c0 c1 hsl2
  generalize w2.alloc (.cells #[.int .i64 c, .int .i64 0] 27) = w3 at *
  refine (HO.out _ hB2).mono ?_
  rintro x w4 ⟨t1, t2, t3, rfl, hu4, hb4⟩
  have hB4 := bcat2 hB2 hb4
  go_wp2_with fail
  refine (HIN.out _ _ hB4 hu4).mono ?_
  rintro x w5 ⟨q1, q3, ms, rfl, hip, his, hisl, hb5⟩
  have hb5 := bcat2 hb5 (balloc w5 (.cells #[.int .i64 0, .int .i64 0] 27))
  have hisl := hisl.below (balloc w5 (.cells #[.int .i64 0, .int .i64 0] 27))
  have hG5 := blk0 (w := w5) (T := 27) (.int .i64 0) (.int .i64 0)
  have hB5 := bcat2 hB4 hb5
  have hX5 := blk_below hX2 (bcat2 hb4 hb5)
  have hF5 := blk_below hF2 (bcat2 hb4 hb5)
  have hsl5 := hsl3.below (bcat2 hb4 hb5)
  obtain ⟨c0, c1, _, _⟩ := hX5.two
  go_wp2_with fail
  clear c0 c1
  generalize w5.alloc (.cells #[.int .i64 0, .int .i64 0] 27) = w6 at *
  refine (HGF.out _ hB5).mono ?_
  rintro x w7 ⟨rfl, hb7⟩
  have HS7 := hide hb7.size
  have hb7 := bcat2 hb7 (balloc w7 (.cells #[.int .i64 0, .int .i64 0] 27))
  have hW7 := blk0 (w := w7) (T := 27) (.int .i64 0) (.int .i64 0)
  have hB7 := bcat2 hB5 hb7
  have hF7 := blk_below hF5 hb7
  have hG7 := blk_below hG5 hb7
  have hX7 := blk_below hX5 hb7
  have hsl7 := hsl5.below hb7
  have hisl7 := hisl.below hb7
  go_wp2_with fail
  have hwn : w.heap.size ≤ w7.heap.size := Nat.le_trans hB5.size HS7.out
  have HNE := hide (show w2.heap.size ≠ w7.heap.size by
    have h1 := hF5.lt
    have h2 : w6.heap.size ≤ w7.heap.size := HS7.out
    omega)
  generalize w7.alloc (.cells #[.int .i64 0, .int .i64 0] 27) = w8 at *
  refine (homBegun_any _ (hT.below hB7)).mono ?_
  rintro x w9 ⟨rfl, hb9⟩
  obtain ⟨f0, f1, _, _⟩ := (blk_below hF7 hb9).two
  obtain ⟨g0, g1, _, _⟩ := (blk_below hG7 hb9).two
  obtain ⟨h0, h1, _, _⟩ := (blk_below hW7 hb9).two
  have hX9 := blk_below hX7 hb9
  have hB9 := bcat2 hB7 hb9
  have HLA := hide (lsas_good 34 #[.pointer (some ⟨w.heap.size, 0, none⟩)] (.slice q1 (dd ms).length q3) (dd ms) (dd ms) w9 (hisl7.below hb9) (fun W => call34 _ W) (fun W hW => (hau1_ok n e w.heap.size v1 v2 v3 zs W (blk_below hX9 hW) ((hv.below hB9).below hW) hg).mono (fun x w' h => by
    obtain ⟨r, os, rs, h1, h2, h3, h4, h5, h6, h7⟩ := h
    rw [inn_same hip his h3 h4 h5 h6] at h2
    exact ⟨r, h1, h2, h7⟩)))
  go_wp2_with fail
  clear f0 f1 g0 g1 h0 h1
  refine HLA.out.mono ?_
  rintro x wA ⟨rfl, hbA⟩
  have hbA := bcat2 hb9 hbA
  have hBA := bcat2 hB7 hbA
  have hXA := blk_below hX7 hbA
  have hFA := blk_below hF7 hbA
  have hWA := blk_below hW7 hbA
  have hslA := hsl7.below hbA
  clear HO HAU HIN HGF HLA hb1 hb2 hb4 hb5 hb7 hb9 hbA hB0 hB1 hB2 hB4 hB5 hB7 hB9 hX0 hX2 hX5 hX7 hX9 hF2 hF5 hF7 hG5 hG7 hW7 hsl3 hsl5 hsl7 hisl hisl7 hu1 hu4 hip his
  obtain ⟨g0, g1, _, _⟩ := hXA.two
  obtain ⟨h0, h1, fh0, fh1⟩ := hWA.two
  obtain ⟨f0, f1, _, _⟩ := hFA.two
  rcases hway with ⟨hn, rfl, rfl⟩ | ⟨hn, HHM, hway⟩ | ⟨hn, HHM, hway⟩
  · have hni : (24 : Int) < (n : Int) := by omega
    go_wp2_with fail
    clear g0 g1 h0 h1 f0 f1 fh0 fh1
    refine (f_any 2 0 _).mono ?_
    rintro x wB ⟨rfl, hbB⟩
    have hWB := blk_below hWA hbB
    obtain ⟨hR, hB2⟩ := put2 hWB (bcat2 hBA hbB) hwn 2 0
    obtain ⟨h0, h1, fh0, fh1⟩ := hWB.two
    obtain ⟨z0, z1, _, _⟩ := hR.two
    have hne : w2.heap.size ≠ w7.heap.size := HNE.out
    have hFB : Blk ((wB.setCell ⟨w7.heap.size, 0, none⟩ (.int .i64 2)).setCell ⟨w7.heap.size, 1, none⟩ (.int .i64 0)) w2.heap.size 27 [.int .i64 2, .int .i64 0] := ((blk_below hFA hbB).other (p := ⟨w7.heap.size, 0, none⟩) hne _).other (p := ⟨w7.heap.size, 1, none⟩) hne _
    obtain ⟨f0, f1, _, _⟩ := hFB.two
    go_wp2
    go_ret
    exact ⟨rfl, hB2⟩
  · have hni : ¬ (24 : Int) < (n : Int) := by omega
    go_wp2_with fail
    clear g0 g1 h0 h1 f0 f1 fh0 fh1
    refine (HHM.out _ hBA).mono ?_
    rintro x wB ⟨rfl, hbB⟩
    have hBB := bcat2 hBA hbB
    have hXB := blk_below hXA hbB
    have hFB := blk_below hFA hbB
    have hslB := hslA.below hbB
    clear HHM hXA hFA hWA hslA hbB hBA
    rcases hway with ⟨rfl, hl1000, hauts, hsort⟩ | ⟨rfl, rfl⟩
    · obtain ⟨la, lcap, lpb, lpo, hlv, hlat, hlc, hlp, hl4, hl5⟩ := hslB
      injection hlv with e1 e2 e3
      subst e1 e3
      have HLA := hide hlat
      have HL := hide (show ∀ j (hj : j < LS.length), ∃ (φ : Nat → Nat) (x1 : Option Addr) (x3 : Nat), IsAut n zs e φ ∧ LS[j] = li ((List.range n).map φ) ∧ wB.cell? ⟨lpb, lpo + j, none⟩ = some (.slice x1 n x3) ∧ Sl wB (.slice x1 n x3) LS[j] from fun j hj => by
        obtain ⟨x, hx1, hx2⟩ := hlc j hj
        rw [List.getElem?_eq_getElem hj, Option.getD_some] at hx2
        obtain ⟨φ, hφ, hφe⟩ := hauts _ (List.getElem_mem hj)
        obtain ⟨xa, xc, _, _, rfl, _⟩ := id hx2
        have hln : LS[j].length = n := by rw [hφe]; exact hom_list_len
        rw [hln] at hx1 hx2
        exact ⟨φ, xa, xc, hφ, hφe, hx1, hx2⟩)
      have HSO := hide (fun i j (hij : i < j) (hj : j < LS.length) => List.pairwise_iff_getElem.1 hsort i j (by omega) hj hij)
      have hfd : ∀ W, (Instr.field 27 (.agg #[.int .i64 0, .int .i64 0]) 0).run Tryd.prog W = .ok (.int .i64 0) W := fun W => field27 0 0 W
      clear hlat hlc hl4 hl5 e2 hauts hsort
      go_wp2
      go_loopw [10] (fun i wr => ∃ k : Nat, k ≤ LS.length ∧ i = .int .i64 k ∧ Below wB.heap.size wB wr) (fun i _ => LS.length - (intOf i).toNat)
      case atStart => exact ⟨0, Nat.zero_le _, rfl, Below.refl _ _⟩
      case round =>
        obtain ⟨k, hk, rfl, hBk⟩ := hrel
        by_cases hlt : k < LS.length
        · have hki : (k : Int) < (LS.length : Int) := by omega
          obtain rfl := HLA.out (by omega)
          obtain ⟨φ, x1, x3, hA, hLe, hxc, hxs⟩ := HL.out k hlt
          have hln : LS[k].length = n := by rw [hLe]; exact hom_list_len
          have HHF := hide (show ∀ W, Below wr.heap.size wr W → Calls Tryd.prog 37 #[.agg #[.int .i64 n, .slice v1 v2 v3], .agg #[.int .i64 n, .slice v1 v2 v3], .slice x1 n x3] W fun x w' => x = .returned (.agg #[.int .i64 0, .int .i64 0]) ∧ Below W.heap.size W w' from fun W h => by
            have hvW := (hv.below hBB).below (bcat2 hBk h)
            have h9 := rhom_any n n (.slice v1 v2 v3) (.slice v1 v2 v3) (.slice x1 n x3) zs zs LS[k] W hvW hvW (hxs.below (bcat2 hBk h))
            rw [of_hom hg hg hA.hom hln (fun a ha => by rw [hLe]; exact hom_list_at ha)] at h9
            exact h9)
          have HOO := hide (show ∀ W, Below wr.heap.size wr W → Calls Tryd.prog 38 #[.slice x1 n x3, .int .i64 n] W fun x w' => x = .returned (.bool true) ∧ Below W.heap.size W w' from fun W h => by
            have h9 := one_ok n (.slice x1 n x3) LS[k] W (hxs.below (bcat2 hBk h)) hln (by omega)
            rw [hLe, (o1_aut (e := e) hA.hom).2 hA] at h9
            exact h9)
          obtain ⟨g0, g1, _, _⟩ := (blk_below hXB hBk).two
          have cx := below_cell hBk hxc
          by_cases hk0 : k = 0
          · have hkz : ¬ ((0 : Int) < (k : Int)) := by omega
            have hkd : decide (0 < k) = false := decide_eq_false (by omega)
            have hkn : ¬ 0 < k := by omega
            have hS : ∀ W, Below wr.heap.size wr W → ((fun W => Below wr.heap.size wr W ∧ W.cell? ⟨w.heap.size, 0, none⟩ = some (.int .i64 n) ∧ W.cell? ⟨w.heap.size, 1, none⟩ = some (.slice v1 v2 v3) ∧ W.cell? ⟨lpb, lpo + k, none⟩ = some (.slice x1 n x3)) W) := fun W h => ⟨h, below_cell h g0, below_cell h g1, below_cell h cx⟩
            have hS0 := hS _ (bdrew (Below.refl _ wr))
            clear hLe hxs hxc hln hk0
            go_wp2_with fail
            clear g0 g1 cx
            refine wp_region_held_drew (S := (fun W => Below wr.heap.size wr W ∧ W.cell? ⟨w.heap.size, 0, none⟩ = some (.int .i64 n) ∧ W.cell? ⟨w.heap.size, 1, none⟩ = some (.slice v1 v2 v3) ∧ W.cell? ⟨lpb, lpo + k, none⟩ = some (.slice x1 n x3))) (by kernel_rfl) hS0 (fun hHeld => ?_)
            refine wpAnyH_take (i := 0) (oi := ({ dst := some 71, op := Go.Op.load 24 (Go.Operand.tmp 1), type := 24, pos := _, after := #[], guard := none } : Oper)) (v := ?_) rfl (by kernel_rfl) (by kernel_rfl) (by kernel_rfl) (fun _ _ _ h => h) (Or.inl ⟨by rfl, ?_⟩) (by assumption) ?_
            rotate_left
            · (intro w hSw; (try dsimp only at hSw); go_simp; try with_reducible rfl)
            simp only [Act.put, List.setIfInBounds_toArray, List.set_cons_zero, List.set_cons_succ]
            refine wpAnyH_take (i := 1) (oi := ({ dst := some 72, op := Go.Op.load 24 (Go.Operand.tmp 1), type := 24, pos := _, after := #[], guard := none } : Oper)) (v := ?_) rfl (by kernel_rfl) (by kernel_rfl) (by kernel_rfl) (fun _ _ _ h => h) (Or.inl ⟨by rfl, ?_⟩) (by assumption) ?_
            rotate_left
            · (intro w hSw; (try dsimp only at hSw); go_simp; try with_reducible rfl)
            simp only [Act.put, List.setIfInBounds_toArray, List.set_cons_zero, List.set_cons_succ]
            refine wpAnyH_take (i := 2) (oi := ({ dst := some 73, op := Go.Op.move (Go.Operand.tmp 3), type := 25, pos := _, after := #[], guard := none } : Oper)) (v := ?_) rfl (by kernel_rfl) (by kernel_rfl) (by kernel_rfl) (fun _ _ _ h => h) (Or.inl ⟨by rfl, ?_⟩) (by assumption) ?_
            rotate_left
            · (intro w hSw; (try dsimp only at hSw); go_simp; try with_reducible rfl)
            simp only [Act.put, List.setIfInBounds_toArray, List.set_cons_zero, List.set_cons_succ]
            refine wpAnyH_take (i := 3) (oi := ({ dst := some 74, op := Go.Op.move (Go.Operand.tmp 10), type := 3, pos := _, after := #[], guard := none } : Oper)) (v := ?_) rfl (by kernel_rfl) (by kernel_rfl) (by kernel_rfl) (fun _ _ _ h => h) (Or.inl ⟨by rfl, ?_⟩) (by assumption) ?_
            rotate_left
            · (intro w hSw; (try dsimp only at hSw); go_simp; try with_reducible rfl)
            simp only [Act.put, List.setIfInBounds_toArray, List.set_cons_zero, List.set_cons_succ]
            refine wpAnyH_take (i := 4) (oi := ({ dst := some 75, op := Go.Op.indexAddr 25 (Go.Operand.tmp 73) (Go.Operand.tmp 74), type := 0, pos := _, after := #[{ on := 2, ground := Go.Ground.data }, { on := 3, ground := Go.Ground.data }], guard := none } : Oper)) (v := ?_) rfl (by kernel_rfl) (by kernel_rfl) (by kernel_rfl) (fun _ _ _ h => h) (Or.inl ⟨by rfl, ?_⟩) (by assumption) ?_
            rotate_left
            · (intro w hSw; (try dsimp only at hSw); go_simp; try with_reducible rfl)
            simp only [Act.put, List.setIfInBounds_toArray, List.set_cons_zero, List.set_cons_succ]
            refine wpAnyH_take (i := 5) (oi := ({ dst := some 76, op := Go.Op.load 22 (Go.Operand.tmp 75), type := 22, pos := _, after := #[{ on := 4, ground := Go.Ground.data }], guard := none } : Oper)) (v := ?_) rfl (by kernel_rfl) (by kernel_rfl) (by kernel_rfl) (fun _ _ _ h => h) (Or.inl ⟨by rfl, ?_⟩) (by assumption) ?_
            rotate_left
            · (intro w hSw; (try dsimp only at hSw); go_simp; try with_reducible rfl)
            simp only [Act.put, List.setIfInBounds_toArray, List.set_cons_zero, List.set_cons_succ]
            refine wpAnyH_ready (rs := [6]) (by kernel_rfl) (by simp) (AllReadyH.cons (o := ({ dst := some 77, op := Go.Op.call { callee := Go.Callee.value (Go.Operand.func 37), args := #[Go.Operand.tmp 71, Go.Operand.tmp 72, Go.Operand.tmp 76], argTypes := #[24, 24, 22] }, type := 27, pos := _, after := #[{ on := 0, ground := Go.Ground.data }, { on := 1, ground := Go.Ground.data }, { on := 5, ground := Go.Ground.data }], guard := none } : Oper)) rfl (fun KK hK => ?_) AllReadyH.nil)
            go_simp
            refine (HHF.out _ (And.left hHeld)).mono ?_
            rintro e1 U1 ⟨rfl, hq1⟩
            try go_wp2_with fail
            refine hK.out _ _ (hS _ (bcat2 (And.left hHeld) hq1)) (fun hHeld => ?_)
            clear hK
            try simp only [Act.put, List.setIfInBounds_toArray, List.set_cons_zero, List.set_cons_succ]
            refine wpAnyH_take (i := 7) (oi := ({ dst := some 78, op := Go.Op.field 27 (Go.Operand.tmp 77) 0, type := 3, pos := _, after := #[{ on := 6, ground := Go.Ground.data }], guard := none } : Oper)) (v := ?_) rfl (by kernel_rfl) (by kernel_rfl) (by kernel_rfl) (fun _ _ _ h => h) (Or.inl ⟨by rfl, ?_⟩) (by assumption) ?_
            rotate_left
            · (intro w hSw; (try dsimp only at hSw); go_simp; try with_reducible rfl)
            simp only [Act.put, List.setIfInBounds_toArray, List.set_cons_zero, List.set_cons_succ]
            refine wpAnyH_take (i := 8) (oi := ({ dst := some 79, op := Go.Op.binOp Go.BinOp.neq 3 (Go.Operand.tmp 78) (Go.Operand.const (Go.Value.int Go.IntKind.i64 0)) 3, type := 4, pos := _, after := #[{ on := 7, ground := Go.Ground.data }], guard := none } : Oper)) (v := ?_) rfl (by kernel_rfl) (by kernel_rfl) (by kernel_rfl) (fun _ _ _ h => h) (Or.inl ⟨by rfl, ?_⟩) (by assumption) ?_
            rotate_left
            · (intro w hSw; (try dsimp only at hSw); go_simp; try with_reducible rfl)
            simp only [Act.put, List.setIfInBounds_toArray, List.set_cons_zero, List.set_cons_succ]
            refine wpAnyH_take (i := 9) (oi := ({ dst := some 80, op := Go.Op.move (Go.Operand.tmp 79), type := 4, pos := _, after := #[{ on := 8, ground := Go.Ground.data }, { on := 6, ground := Go.Ground.chain }], guard := none } : Oper)) (v := ?_) rfl (by kernel_rfl) (by kernel_rfl) (by kernel_rfl) (fun _ _ _ h => h) (Or.inl ⟨by rfl, ?_⟩) (by assumption) ?_
            rotate_left
            · (intro w hSw; (try dsimp only at hSw); go_simp; try with_reducible rfl)
            simp only [Act.put, List.setIfInBounds_toArray, List.set_cons_zero, List.set_cons_succ]
            refine wpAnyH_take (i := 10) (oi := ({ dst := some 81, op := Go.Op.move (Go.Operand.tmp 3), type := 25, pos := _, after := #[{ on := 9, ground := Go.Ground.guard }], guard := some (9, false) } : Oper)) (v := ?_) rfl (by kernel_rfl) (by kernel_rfl) (by kernel_rfl) (fun _ _ _ h => h) (Or.inl ⟨by rfl, ?_⟩) (by assumption) ?_
            rotate_left
            · (intro w hSw; (try dsimp only at hSw); go_simp; try with_reducible rfl)
            simp only [Act.put, List.setIfInBounds_toArray, List.set_cons_zero, List.set_cons_succ]
            refine wpAnyH_take (i := 11) (oi := ({ dst := some 82, op := Go.Op.move (Go.Operand.tmp 10), type := 3, pos := _, after := #[{ on := 9, ground := Go.Ground.guard }], guard := some (9, false) } : Oper)) (v := ?_) rfl (by kernel_rfl) (by kernel_rfl) (by kernel_rfl) (fun _ _ _ h => h) (Or.inl ⟨by rfl, ?_⟩) (by assumption) ?_
            rotate_left
            · (intro w hSw; (try dsimp only at hSw); go_simp; try with_reducible rfl)
            simp only [Act.put, List.setIfInBounds_toArray, List.set_cons_zero, List.set_cons_succ]
            refine wpAnyH_take (i := 12) (oi := ({ dst := some 83, op := Go.Op.indexAddr 25 (Go.Operand.tmp 81) (Go.Operand.tmp 82), type := 0, pos := _, after := #[{ on := 10, ground := Go.Ground.data }, { on := 11, ground := Go.Ground.data }, { on := 9, ground := Go.Ground.guard }], guard := some (9, false) } : Oper)) (v := ?_) rfl (by kernel_rfl) (by kernel_rfl) (by kernel_rfl) (fun _ _ _ h => h) (Or.inl ⟨by rfl, ?_⟩) (by assumption) ?_
            rotate_left
            · (intro w hSw; (try dsimp only at hSw); go_simp; try with_reducible rfl)
            simp only [Act.put, List.setIfInBounds_toArray, List.set_cons_zero, List.set_cons_succ]
            refine wpAnyH_take (i := 13) (oi := ({ dst := some 84, op := Go.Op.load 22 (Go.Operand.tmp 83), type := 22, pos := _, after := #[{ on := 12, ground := Go.Ground.data }, { on := 9, ground := Go.Ground.guard }], guard := some (9, false) } : Oper)) (v := ?_) rfl (by kernel_rfl) (by kernel_rfl) (by kernel_rfl) (fun _ _ _ h => h) (Or.inl ⟨by rfl, ?_⟩) (by assumption) ?_
            rotate_left
            · (intro w hSw; (try dsimp only at hSw); go_simp; try with_reducible rfl)
            simp only [Act.put, List.setIfInBounds_toArray, List.set_cons_zero, List.set_cons_succ]
            refine wpAnyH_take (i := 14) (oi := ({ dst := some 85, op := Go.Op.fieldAddr 24 (Go.Operand.tmp 1) 0, type := 0, pos := _, after := #[{ on := 9, ground := Go.Ground.guard }], guard := some (9, false) } : Oper)) (v := ?_) rfl (by kernel_rfl) (by kernel_rfl) (by kernel_rfl) (fun _ _ _ h => h) (Or.inl ⟨by rfl, ?_⟩) (by assumption) ?_
            rotate_left
            · (intro w hSw; (try dsimp only at hSw); go_simp; try with_reducible rfl)
            simp only [Act.put, List.setIfInBounds_toArray, List.set_cons_zero, List.set_cons_succ]
            refine wpAnyH_take (i := 15) (oi := ({ dst := some 86, op := Go.Op.load 3 (Go.Operand.tmp 85), type := 3, pos := _, after := #[{ on := 14, ground := Go.Ground.data }, { on := 9, ground := Go.Ground.guard }], guard := some (9, false) } : Oper)) (v := ?_) rfl (by kernel_rfl) (by kernel_rfl) (by kernel_rfl) (fun _ _ _ h => h) (Or.inl ⟨by rfl, ?_⟩) (by assumption) ?_
            rotate_left
            · (intro w hSw; (try dsimp only at hSw); go_simp; try with_reducible rfl)
            simp only [Act.put, List.setIfInBounds_toArray, List.set_cons_zero, List.set_cons_succ]
            refine wpAnyH_ready (rs := [16]) (by kernel_rfl) (by simp) (AllReadyH.cons (o := ({ dst := some 87, op := Go.Op.call { callee := Go.Callee.value (Go.Operand.func 38), args := #[Go.Operand.tmp 84, Go.Operand.tmp 86], argTypes := #[22, 3] }, type := 4, pos := _, after := #[{ on := 13, ground := Go.Ground.data }, { on := 15, ground := Go.Ground.data }, { on := 9, ground := Go.Ground.chain }, { on := 9, ground := Go.Ground.guard }], guard := some (9, false) } : Oper)) rfl (fun KK hK => ?_) AllReadyH.nil)
            go_simp
            refine (HOO.out _ (And.left hHeld)).mono ?_
            rintro e2 U2 ⟨rfl, hq2⟩
            try go_wp2_with fail
            refine hK.out _ _ (hS _ (bcat2 (And.left hHeld) hq2)) (fun hHeld => ?_)
            clear hK
            try simp only [Act.put, List.setIfInBounds_toArray, List.set_cons_zero, List.set_cons_succ]
            refine wpAnyH_take (i := 17) (oi := ({ dst := some 88, op := Go.Op.unOp Go.UnOp.not 4 (Go.Operand.tmp 87), type := 4, pos := _, after := #[{ on := 16, ground := Go.Ground.data }, { on := 9, ground := Go.Ground.guard }], guard := some (9, false) } : Oper)) (v := ?_) rfl (by kernel_rfl) (by kernel_rfl) (by kernel_rfl) (fun _ _ _ h => h) (Or.inl ⟨by rfl, ?_⟩) (by assumption) ?_
            rotate_left
            · (intro w hSw; (try dsimp only at hSw); go_simp; try with_reducible rfl)
            simp only [Act.put, List.setIfInBounds_toArray, List.set_cons_zero, List.set_cons_succ]
            refine wpAnyH_take (i := 18) (oi := ({ dst := some 89, op := Go.Op.pick (Go.Operand.tmp 80) (Go.Operand.const (Go.Value.bool true)) (Go.Operand.tmp 88), type := 4, pos := _, after := #[{ on := 9, ground := Go.Ground.data }, { on := 17, ground := Go.Ground.data }], guard := none } : Oper)) (v := ?_) rfl (by kernel_rfl) (by kernel_rfl) (by kernel_rfl) (fun _ _ _ h => h) (Or.inl ⟨by rfl, ?_⟩) (by assumption) ?_
            rotate_left
            · (intro w hSw; (try dsimp only at hSw); go_simp; try with_reducible rfl)
            simp only [Act.put, List.setIfInBounds_toArray, List.set_cons_zero, List.set_cons_succ]
            refine wpAnyH_take (i := 19) (oi := ({ dst := some 90, op := Go.Op.move (Go.Operand.tmp 89), type := 4, pos := _, after := #[{ on := 18, ground := Go.Ground.data }, { on := 16, ground := Go.Ground.chain }], guard := none } : Oper)) (v := ?_) rfl (by kernel_rfl) (by kernel_rfl) (by kernel_rfl) (fun _ _ _ h => h) (Or.inl ⟨by rfl, ?_⟩) (by assumption) ?_
            rotate_left
            · (intro w hSw; (try dsimp only at hSw); go_simp; try with_reducible rfl)
            simp only [Act.put, List.setIfInBounds_toArray, List.set_cons_zero, List.set_cons_succ]
            refine wpAnyH_take (i := 20) (oi := ({ dst := some 91, op := Go.Op.move (Go.Operand.tmp 10), type := 3, pos := _, after := #[{ on := 19, ground := Go.Ground.guard }], guard := some (19, false) } : Oper)) (v := ?_) rfl (by kernel_rfl) (by kernel_rfl) (by kernel_rfl) (fun _ _ _ h => h) (Or.inl ⟨by rfl, ?_⟩) (by assumption) ?_
            rotate_left
            · (intro w hSw; (try dsimp only at hSw); go_simp; try with_reducible rfl)
            simp only [Act.put, List.setIfInBounds_toArray, List.set_cons_zero, List.set_cons_succ]
            refine wpAnyH_take (i := 21) (oi := ({ dst := some 92, op := Go.Op.binOp Go.BinOp.gtr 3 (Go.Operand.tmp 91) (Go.Operand.const (Go.Value.int Go.IntKind.i64 0)) 3, type := 4, pos := _, after := #[{ on := 20, ground := Go.Ground.data }, { on := 19, ground := Go.Ground.guard }], guard := some (19, false) } : Oper)) (v := ?_) rfl (by kernel_rfl) (by kernel_rfl) (by kernel_rfl) (fun _ _ _ h => h) (Or.inl ⟨by rfl, ?_⟩) (by assumption) ?_
            rotate_left
            · (intro w hSw; (try dsimp only at hSw); go_simp; try with_reducible rfl)
            simp only [Act.put, List.setIfInBounds_toArray, List.set_cons_zero, List.set_cons_succ]
            refine wpAnyH_take (i := 22) (oi := ({ dst := some 93, op := Go.Op.move (Go.Operand.tmp 92), type := 4, pos := _, after := #[{ on := 21, ground := Go.Ground.data }, { on := 19, ground := Go.Ground.chain }, { on := 19, ground := Go.Ground.guard }], guard := some (19, false) } : Oper)) (v := ?_) rfl (by kernel_rfl) (by kernel_rfl) (by kernel_rfl) (fun _ _ _ h => h) (Or.inl ⟨by rfl, ?_⟩) (by assumption) ?_
            rotate_left
            · (intro w hSw; (try dsimp only at hSw); go_simp; try with_reducible rfl)
            simp only [Act.put, List.setIfInBounds_toArray, List.set_cons_zero, List.set_cons_succ]
            refine wpAnyH_take (i := 23) (oi := ({ dst := some 94, op := Go.Op.move (Go.Operand.tmp 3), type := 25, pos := _, after := #[{ on := 22, ground := Go.Ground.guard }], guard := some (22, true) } : Oper)) (v := undef) rfl (by kernel_rfl) (by kernel_rfl) (by kernel_rfl) (fun _ _ _ h => h) (Or.inr ⟨by rfl, rfl⟩) (by assumption) ?_
            simp only [Act.put, List.setIfInBounds_toArray, List.set_cons_zero, List.set_cons_succ]
            refine wpAnyH_take (i := 24) (oi := ({ dst := some 95, op := Go.Op.move (Go.Operand.tmp 10), type := 3, pos := _, after := #[{ on := 22, ground := Go.Ground.guard }], guard := some (22, true) } : Oper)) (v := undef) rfl (by kernel_rfl) (by kernel_rfl) (by kernel_rfl) (fun _ _ _ h => h) (Or.inr ⟨by rfl, rfl⟩) (by assumption) ?_
            simp only [Act.put, List.setIfInBounds_toArray, List.set_cons_zero, List.set_cons_succ]
            refine wpAnyH_take (i := 25) (oi := ({ dst := some 96, op := Go.Op.binOp Go.BinOp.sub 3 (Go.Operand.tmp 95) (Go.Operand.const (Go.Value.int Go.IntKind.i64 1)) 3, type := 3, pos := _, after := #[{ on := 24, ground := Go.Ground.data }, { on := 22, ground := Go.Ground.guard }], guard := some (22, true) } : Oper)) (v := undef) rfl (by kernel_rfl) (by kernel_rfl) (by kernel_rfl) (fun _ _ _ h => h) (Or.inr ⟨by rfl, rfl⟩) (by assumption) ?_
            simp only [Act.put, List.setIfInBounds_toArray, List.set_cons_zero, List.set_cons_succ]
            refine wpAnyH_take (i := 26) (oi := ({ dst := some 97, op := Go.Op.indexAddr 25 (Go.Operand.tmp 94) (Go.Operand.tmp 96), type := 0, pos := _, after := #[{ on := 23, ground := Go.Ground.data }, { on := 25, ground := Go.Ground.data }, { on := 22, ground := Go.Ground.guard }], guard := some (22, true) } : Oper)) (v := undef) rfl (by kernel_rfl) (by kernel_rfl) (by kernel_rfl) (fun _ _ _ h => h) (Or.inr ⟨by rfl, rfl⟩) (by assumption) ?_
            simp only [Act.put, List.setIfInBounds_toArray, List.set_cons_zero, List.set_cons_succ]
            refine wpAnyH_take (i := 27) (oi := ({ dst := some 98, op := Go.Op.load 22 (Go.Operand.tmp 97), type := 22, pos := _, after := #[{ on := 26, ground := Go.Ground.data }, { on := 22, ground := Go.Ground.guard }], guard := some (22, true) } : Oper)) (v := undef) rfl (by kernel_rfl) (by kernel_rfl) (by kernel_rfl) (fun _ _ _ h => h) (Or.inr ⟨by rfl, rfl⟩) (by assumption) ?_
            simp only [Act.put, List.setIfInBounds_toArray, List.set_cons_zero, List.set_cons_succ]
            refine wpAnyH_take (i := 28) (oi := ({ dst := some 99, op := Go.Op.move (Go.Operand.tmp 3), type := 25, pos := _, after := #[{ on := 22, ground := Go.Ground.guard }], guard := some (22, true) } : Oper)) (v := undef) rfl (by kernel_rfl) (by kernel_rfl) (by kernel_rfl) (fun _ _ _ h => h) (Or.inr ⟨by rfl, rfl⟩) (by assumption) ?_
            simp only [Act.put, List.setIfInBounds_toArray, List.set_cons_zero, List.set_cons_succ]
            refine wpAnyH_take (i := 29) (oi := ({ dst := some 100, op := Go.Op.move (Go.Operand.tmp 10), type := 3, pos := _, after := #[{ on := 22, ground := Go.Ground.guard }], guard := some (22, true) } : Oper)) (v := undef) rfl (by kernel_rfl) (by kernel_rfl) (by kernel_rfl) (fun _ _ _ h => h) (Or.inr ⟨by rfl, rfl⟩) (by assumption) ?_
            simp only [Act.put, List.setIfInBounds_toArray, List.set_cons_zero, List.set_cons_succ]
            refine wpAnyH_take (i := 30) (oi := ({ dst := some 101, op := Go.Op.indexAddr 25 (Go.Operand.tmp 99) (Go.Operand.tmp 100), type := 0, pos := _, after := #[{ on := 28, ground := Go.Ground.data }, { on := 29, ground := Go.Ground.data }, { on := 22, ground := Go.Ground.guard }], guard := some (22, true) } : Oper)) (v := undef) rfl (by kernel_rfl) (by kernel_rfl) (by kernel_rfl) (fun _ _ _ h => h) (Or.inr ⟨by rfl, rfl⟩) (by assumption) ?_
            simp only [Act.put, List.setIfInBounds_toArray, List.set_cons_zero, List.set_cons_succ]
            refine wpAnyH_take (i := 31) (oi := ({ dst := some 102, op := Go.Op.load 22 (Go.Operand.tmp 101), type := 22, pos := _, after := #[{ on := 30, ground := Go.Ground.data }, { on := 22, ground := Go.Ground.guard }], guard := some (22, true) } : Oper)) (v := undef) rfl (by kernel_rfl) (by kernel_rfl) (by kernel_rfl) (fun _ _ _ h => h) (Or.inr ⟨by rfl, rfl⟩) (by assumption) ?_
            simp only [Act.put, List.setIfInBounds_toArray, List.set_cons_zero, List.set_cons_succ]
            refine wpAnyH_take (i := 32) (oi := ({ dst := some 103, op := Go.Op.call { callee := Go.Callee.value (Go.Operand.func 39), args := #[Go.Operand.tmp 98, Go.Operand.tmp 102], argTypes := #[22, 22] }, type := 4, pos := _, after := #[{ on := 27, ground := Go.Ground.data }, { on := 31, ground := Go.Ground.data }, { on := 22, ground := Go.Ground.chain }, { on := 22, ground := Go.Ground.guard }], guard := some (22, true) } : Oper)) (v := undef) rfl (by kernel_rfl) (by kernel_rfl) (by kernel_rfl) (fun _ _ _ h => h) (Or.inr ⟨by rfl, rfl⟩) (by assumption) ?_
            simp only [Act.put, List.setIfInBounds_toArray, List.set_cons_zero, List.set_cons_succ]
            refine wpAnyH_take (i := 33) (oi := ({ dst := some 104, op := Go.Op.unOp Go.UnOp.not 4 (Go.Operand.tmp 103), type := 4, pos := _, after := #[{ on := 32, ground := Go.Ground.data }, { on := 22, ground := Go.Ground.guard }], guard := some (22, true) } : Oper)) (v := undef) rfl (by kernel_rfl) (by kernel_rfl) (by kernel_rfl) (fun _ _ _ h => h) (Or.inr ⟨by rfl, rfl⟩) (by assumption) ?_
            simp only [Act.put, List.setIfInBounds_toArray, List.set_cons_zero, List.set_cons_succ]
            refine wpAnyH_take (i := 34) (oi := ({ dst := some 105, op := Go.Op.pick (Go.Operand.tmp 93) (Go.Operand.tmp 104) (Go.Operand.const (Go.Value.bool false)), type := 4, pos := _, after := #[{ on := 22, ground := Go.Ground.data }, { on := 33, ground := Go.Ground.data }, { on := 19, ground := Go.Ground.guard }], guard := some (19, false) } : Oper)) (v := ?_) rfl (by kernel_rfl) (by kernel_rfl) (by kernel_rfl) (fun _ _ _ h => h) (Or.inl ⟨by rfl, ?_⟩) (by assumption) ?_
            rotate_left
            · (intro w hSw; (try dsimp only at hSw); go_simp; try with_reducible rfl)
            simp only [Act.put, List.setIfInBounds_toArray, List.set_cons_zero, List.set_cons_succ]
            refine wpAnyH_take (i := 35) (oi := ({ dst := some 106, op := Go.Op.pick (Go.Operand.tmp 90) (Go.Operand.const (Go.Value.bool true)) (Go.Operand.tmp 105), type := 4, pos := _, after := #[{ on := 19, ground := Go.Ground.data }, { on := 34, ground := Go.Ground.data }], guard := none } : Oper)) (v := ?_) rfl (by kernel_rfl) (by kernel_rfl) (by kernel_rfl) (fun _ _ _ h => h) (Or.inl ⟨by rfl, ?_⟩) (by assumption) ?_
            rotate_left
            · (intro w hSw; (try dsimp only at hSw); go_simp; try with_reducible rfl)
            simp only [Act.put, List.setIfInBounds_toArray, List.set_cons_zero, List.set_cons_succ]
            refine wpAnyH_done (by kernel_rfl) ?_ _
            have hB9 := And.left hHeld
            go_wp2
            go_roundw
            case rel => exact ⟨k + 1, by omega, by go_num, bcat2 hBk hB9⟩
            case measure => simp [intOf]; omega
          · obtain ⟨i, hki1⟩ : ∃ i, k = i + 1 := ⟨k - 1, by omega⟩
            have hil : i < LS.length := by omega
            obtain ⟨ψ, y1, y3, _, hMe, hyc, hys⟩ := HL.out i hil
            have hJi : (k : Int) - 1 = (i : Int) := by omega
            have hJn : 0 < k := by omega
            have hJd : decide (0 < k) = true := decide_eq_true hJn
            have hJ0 : (0 : Int) < (k : Int) := by omega
            have hi3 : (i : Int) < (LS.length : Int) := by omega
            have hwi : IntKind.i64.wrap (i : Int) = (i : Int) := by rw [IntKind.wrap_i64]; omega
            have HLS := hide (show ∀ W, Below wr.heap.size wr W → Calls Tryd.prog 39 #[.slice y1 n y3, .slice x1 n x3] W fun x w' => x = .returned (.bool true) ∧ Below W.heap.size W w' from fun W h => by
              have h9 := less_ok (.slice y1 n y3) (.slice x1 n x3) LS[i] LS[k] W (hys.below (bcat2 hBk h)) (hxs.below (bcat2 hBk h)) (by rw [hLe, hMe, hom_list_len, hom_list_len])
              rw [decide_eq_true (HSO.out i k (by omega) hlt)] at h9
              exact h9)
            have cy := below_cell hBk hyc
            have hS : ∀ W, Below wr.heap.size wr W → ((fun W => Below wr.heap.size wr W ∧ W.cell? ⟨w.heap.size, 0, none⟩ = some (.int .i64 n) ∧ W.cell? ⟨w.heap.size, 1, none⟩ = some (.slice v1 v2 v3) ∧ W.cell? ⟨lpb, lpo + k, none⟩ = some (.slice x1 n x3) ∧ W.cell? ⟨lpb, lpo + i, none⟩ = some (.slice y1 n y3)) W) := fun W h => ⟨h, below_cell h g0, below_cell h g1, below_cell h cx, below_cell h cy⟩
            have hS0 := hS _ (bdrew (Below.refl _ wr))
            clear hLe hMe hxs hys hxc hyc hln hk0 hki1
            go_wp2_with fail
            clear g0 g1 cx cy
            go_region_held3 (fun W => Below wr.heap.size wr W ∧ W.cell? ⟨w.heap.size, 0, none⟩ = some (.int .i64 n) ∧ W.cell? ⟨w.heap.size, 1, none⟩ = some (.slice v1 v2 v3) ∧ W.cell? ⟨lpb, lpo + k, none⟩ = some (.slice x1 n x3) ∧ W.cell? ⟨lpb, lpo + i, none⟩ = some (.slice y1 n y3))
              (first | exact hS0 | assumption | exact hS _ (bcat2 (And.left ‹_›) hq3) | exact hS _ (bcat2 (And.left ‹_›) hq2) | exact hS _ (bcat2 (And.left ‹_›) hq1))
              (first
                | (go_at_call 37; refine (HHF.out _ (And.left ‹_›)).mono ?_; rintro e1 U1 ⟨rfl, hq1⟩)
                | (go_at_call 38; refine (HOO.out _ (And.left ‹_›)).mono ?_; rintro e2 U2 ⟨rfl, hq2⟩)
                | (go_at_call 39; refine (HLS.out _ (And.left ‹_›)).mono ?_; rintro e3 U3 ⟨rfl, hq3⟩))
            all_goals (
              have hB9 := And.left ‹Below wr.heap.size wr U3 ∧ _›
              go_wp2
              go_roundw
              case rel => exact ⟨k + 1, by omega, by go_num, bcat2 hBk hB9⟩
              case measure => simp [intOf]; omega)
        · have hki : ¬ (k : Int) < (LS.length : Int) := by omega
          have hli : ((LS.length : Nat) : Int) ≤ 1000 := by omega
          obtain ⟨f0, f1, _, _⟩ := (blk_below hFB hBk).two
          go_wp2_with fail
          go_quiet (fail)
          have hBq := bdrewN (bcat2 hBB hBk) nq
          generalize wr.drewN nq = wq at hBq ⊢
          go_wp2
          go_ret
          exact ⟨rfl, hBq⟩
    · go_wp2
      go_loopw [10] (fun i wr => i = .int .i64 0 ∧ Below wB.heap.size wB wr) (fun _ _ => 0)
      case atStart => exact ⟨rfl, Below.refl _ _⟩
      case round =>
        obtain ⟨rfl, hBk⟩ := hrel
        obtain ⟨f0, f1, _, _⟩ := (blk_below hFB hBk).two
        have hS : ∀ W, Below wr.heap.size wr W → ((fun W => Below wr.heap.size wr W ∧ W.cell? ⟨w2.heap.size, 0, none⟩ = some (.int .i64 9) ∧ W.cell? ⟨w2.heap.size, 1, none⟩ = some (.int .i64 0)) W) := fun W h => ⟨h, below_cell h f0, below_cell h f1⟩
        have hS0 := hS _ (bdrew (Below.refl _ wr))
        have HF := hide (fun W => f_any 9 0 W)
        go_wp2_with fail
        clear f0 f1
        refine wp_region_held_drew (S := (fun W => Below wr.heap.size wr W ∧ W.cell? ⟨w2.heap.size, 0, none⟩ = some (.int .i64 9) ∧ W.cell? ⟨w2.heap.size, 1, none⟩ = some (.int .i64 0))) (by kernel_rfl) hS0 (fun hHeld => ?_)
        refine wpAnyH_take (i := 0) (oi := ({ dst := some 107, op := Go.Op.fieldAddr 27 (Go.Operand.tmp 4) 0, type := 0, pos := _, after := #[], guard := none } : Oper)) (v := ?_) rfl (by kernel_rfl) (by kernel_rfl) (by kernel_rfl) (fun _ _ _ h => h) (Or.inl ⟨by rfl, ?_⟩) (by assumption) ?_
        rotate_left
        · (intro w hSw; (try dsimp only at hSw); go_simp; try with_reducible rfl)
        simp only [Act.put, List.setIfInBounds_toArray, List.set_cons_zero, List.set_cons_succ]
        refine wpAnyH_take (i := 1) (oi := ({ dst := some 108, op := Go.Op.load 3 (Go.Operand.tmp 107), type := 3, pos := _, after := #[{ on := 0, ground := Go.Ground.data }], guard := none } : Oper)) (v := ?_) rfl (by kernel_rfl) (by kernel_rfl) (by kernel_rfl) (fun _ _ _ h => h) (Or.inl ⟨by rfl, ?_⟩) (by assumption) ?_
        rotate_left
        · (intro w hSw; (try dsimp only at hSw); go_simp; try with_reducible rfl)
        simp only [Act.put, List.setIfInBounds_toArray, List.set_cons_zero, List.set_cons_succ]
        refine wpAnyH_take (i := 2) (oi := ({ dst := some 109, op := Go.Op.binOp Go.BinOp.eql 3 (Go.Operand.tmp 108) (Go.Operand.const (Go.Value.int Go.IntKind.i64 0)) 3, type := 4, pos := _, after := #[{ on := 1, ground := Go.Ground.data }], guard := none } : Oper)) (v := ?_) rfl (by kernel_rfl) (by kernel_rfl) (by kernel_rfl) (fun _ _ _ h => h) (Or.inl ⟨by rfl, ?_⟩) (by assumption) ?_
        rotate_left
        · (intro w hSw; (try dsimp only at hSw); go_simp; try with_reducible rfl)
        simp only [Act.put, List.setIfInBounds_toArray, List.set_cons_zero, List.set_cons_succ]
        refine wpAnyH_take (i := 3) (oi := ({ dst := some 110, op := Go.Op.move (Go.Operand.tmp 109), type := 4, pos := _, after := #[{ on := 2, ground := Go.Ground.data }], guard := none } : Oper)) (v := ?_) rfl (by kernel_rfl) (by kernel_rfl) (by kernel_rfl) (fun _ _ _ h => h) (Or.inl ⟨by rfl, ?_⟩) (by assumption) ?_
        rotate_left
        · (intro w hSw; (try dsimp only at hSw); go_simp; try with_reducible rfl)
        simp only [Act.put, List.setIfInBounds_toArray, List.set_cons_zero, List.set_cons_succ]
        refine wpAnyH_take (i := 4) (oi := ({ dst := some 111, op := Go.Op.move (Go.Operand.tmp 3), type := 25, pos := _, after := #[{ on := 3, ground := Go.Ground.guard }], guard := some (3, true) } : Oper)) (v := undef) rfl (by kernel_rfl) (by kernel_rfl) (by kernel_rfl) (fun _ _ _ h => h) (Or.inr ⟨by rfl, rfl⟩) (by assumption) ?_
        simp only [Act.put, List.setIfInBounds_toArray, List.set_cons_zero, List.set_cons_succ]
        refine wpAnyH_take (i := 5) (oi := ({ dst := some 112, op := Go.Op.call { callee := Go.Callee.builtin Go.Builtin.len, args := #[Go.Operand.tmp 111], argTypes := #[25] }, type := 3, pos := _, after := #[{ on := 4, ground := Go.Ground.data }, { on := 3, ground := Go.Ground.guard }], guard := some (3, true) } : Oper)) (v := undef) rfl (by kernel_rfl) (by kernel_rfl) (by kernel_rfl) (fun _ _ _ h => h) (Or.inr ⟨by rfl, rfl⟩) (by assumption) ?_
        simp only [Act.put, List.setIfInBounds_toArray, List.set_cons_zero, List.set_cons_succ]
        refine wpAnyH_take (i := 6) (oi := ({ dst := some 113, op := Go.Op.binOp Go.BinOp.leq 3 (Go.Operand.tmp 112) (Go.Operand.const (Go.Value.int Go.IntKind.i64 1000)) 3, type := 4, pos := _, after := #[{ on := 5, ground := Go.Ground.data }, { on := 3, ground := Go.Ground.guard }], guard := some (3, true) } : Oper)) (v := undef) rfl (by kernel_rfl) (by kernel_rfl) (by kernel_rfl) (fun _ _ _ h => h) (Or.inr ⟨by rfl, rfl⟩) (by assumption) ?_
        simp only [Act.put, List.setIfInBounds_toArray, List.set_cons_zero, List.set_cons_succ]
        refine wpAnyH_take (i := 7) (oi := ({ dst := some 114, op := Go.Op.pick (Go.Operand.tmp 110) (Go.Operand.tmp 113) (Go.Operand.const (Go.Value.bool false)), type := 4, pos := _, after := #[{ on := 3, ground := Go.Ground.data }, { on := 6, ground := Go.Ground.data }], guard := none } : Oper)) (v := ?_) rfl (by kernel_rfl) (by kernel_rfl) (by kernel_rfl) (fun _ _ _ h => h) (Or.inl ⟨by rfl, ?_⟩) (by assumption) ?_
        rotate_left
        · (intro w hSw; (try dsimp only at hSw); go_simp; try with_reducible rfl)
        simp only [Act.put, List.setIfInBounds_toArray, List.set_cons_zero, List.set_cons_succ]
        refine wpAnyH_take (i := 8) (oi := ({ dst := some 115, op := Go.Op.move (Go.Operand.tmp 114), type := 4, pos := _, after := #[{ on := 7, ground := Go.Ground.data }, { on := 3, ground := Go.Ground.chain }], guard := none } : Oper)) (v := ?_) rfl (by kernel_rfl) (by kernel_rfl) (by kernel_rfl) (fun _ _ _ h => h) (Or.inl ⟨by rfl, ?_⟩) (by assumption) ?_
        rotate_left
        · (intro w hSw; (try dsimp only at hSw); go_simp; try with_reducible rfl)
        simp only [Act.put, List.setIfInBounds_toArray, List.set_cons_zero, List.set_cons_succ]
        refine wpAnyH_take (i := 9) (oi := ({ dst := some 116, op := Go.Op.load 27 (Go.Operand.tmp 4), type := 27, pos := _, after := #[{ on := 8, ground := Go.Ground.guard }], guard := some (8, false) } : Oper)) (v := ?_) rfl (by kernel_rfl) (by kernel_rfl) (by kernel_rfl) (fun _ _ _ h => h) (Or.inl ⟨by rfl, ?_⟩) (by assumption) ?_
        rotate_left
        · (intro w hSw; (try dsimp only at hSw); go_simp; try with_reducible rfl)
        simp only [Act.put, List.setIfInBounds_toArray, List.set_cons_zero, List.set_cons_succ]
        refine wpAnyH_ready (rs := [10]) (by kernel_rfl) (by simp) (AllReadyH.cons (o := ({ dst := some 117, op := Go.Op.call { callee := Go.Callee.value (Go.Operand.func 13), args := #[Go.Operand.const (Go.Value.int Go.IntKind.i64 9), Go.Operand.const (Go.Value.int Go.IntKind.i64 0)], argTypes := #[3, 3] }, type := 27, pos := _, after := #[{ on := 8, ground := Go.Ground.chain }, { on := 8, ground := Go.Ground.guard }], guard := some (8, false) } : Oper)) rfl (fun KK hK => ?_) AllReadyH.nil)
        go_simp
        refine (HF.out _).mono ?_
        rintro e1 U1 ⟨rfl, hq1⟩
        try go_wp2_with fail
        refine hK.out _ _ (hS _ (bcat2 (And.left hHeld) hq1)) (fun hHeld => ?_)
        clear hK
        try simp only [Act.put, List.setIfInBounds_toArray, List.set_cons_zero, List.set_cons_succ]
        refine wpAnyH_take (i := 11) (oi := ({ dst := some 118, op := Go.Op.binOp Go.BinOp.eql 27 (Go.Operand.tmp 116) (Go.Operand.tmp 117) 27, type := 4, pos := _, after := #[{ on := 9, ground := Go.Ground.data }, { on := 10, ground := Go.Ground.data }, { on := 8, ground := Go.Ground.guard }], guard := some (8, false) } : Oper)) (v := ?_) rfl (by kernel_rfl) (by kernel_rfl) (by kernel_rfl) (fun _ _ _ h => h) (Or.inl ⟨by rfl, ?_⟩) (by assumption) ?_
        rotate_left
        · (intro w hSw; (try dsimp only at hSw); go_simp; try with_reducible rfl)
        simp only [Act.put, List.setIfInBounds_toArray, List.set_cons_zero, List.set_cons_succ]
        refine wpAnyH_take (i := 12) (oi := ({ dst := some 119, op := Go.Op.move (Go.Operand.tmp 118), type := 4, pos := _, after := #[{ on := 11, ground := Go.Ground.data }, { on := 10, ground := Go.Ground.chain }, { on := 8, ground := Go.Ground.guard }], guard := some (8, false) } : Oper)) (v := ?_) rfl (by kernel_rfl) (by kernel_rfl) (by kernel_rfl) (fun _ _ _ h => h) (Or.inl ⟨by rfl, ?_⟩) (by assumption) ?_
        rotate_left
        · (intro w hSw; (try dsimp only at hSw); go_simp; try with_reducible rfl)
        simp only [Act.put, List.setIfInBounds_toArray, List.set_cons_zero, List.set_cons_succ]
        refine wpAnyH_take (i := 13) (oi := ({ dst := some 120, op := Go.Op.move (Go.Operand.tmp 3), type := 25, pos := _, after := #[{ on := 12, ground := Go.Ground.guard }], guard := some (12, true) } : Oper)) (v := ?_) rfl (by kernel_rfl) (by kernel_rfl) (by kernel_rfl) (fun _ _ _ h => h) (Or.inl ⟨by rfl, ?_⟩) (by assumption) ?_
        rotate_left
        · (intro w hSw; (try dsimp only at hSw); go_simp; try with_reducible rfl)
        simp only [Act.put, List.setIfInBounds_toArray, List.set_cons_zero, List.set_cons_succ]
        refine wpAnyH_take (i := 14) (oi := ({ dst := some 121, op := Go.Op.call { callee := Go.Callee.builtin Go.Builtin.len, args := #[Go.Operand.tmp 120], argTypes := #[25] }, type := 3, pos := _, after := #[{ on := 13, ground := Go.Ground.data }, { on := 12, ground := Go.Ground.guard }], guard := some (12, true) } : Oper)) (v := ?_) rfl (by kernel_rfl) (by kernel_rfl) (by kernel_rfl) (fun _ _ _ h => h) (Or.inl ⟨by rfl, ?_⟩) (by assumption) ?_
        rotate_left
        · (intro w hSw; (try dsimp only at hSw); go_simp; try with_reducible rfl)
        simp only [Act.put, List.setIfInBounds_toArray, List.set_cons_zero, List.set_cons_succ]
        refine wpAnyH_take (i := 15) (oi := ({ dst := some 122, op := Go.Op.binOp Go.BinOp.eql 3 (Go.Operand.tmp 121) (Go.Operand.const (Go.Value.int Go.IntKind.i64 0)) 3, type := 4, pos := _, after := #[{ on := 14, ground := Go.Ground.data }, { on := 12, ground := Go.Ground.guard }], guard := some (12, true) } : Oper)) (v := ?_) rfl (by kernel_rfl) (by kernel_rfl) (by kernel_rfl) (fun _ _ _ h => h) (Or.inl ⟨by rfl, ?_⟩) (by assumption) ?_
        rotate_left
        · (intro w hSw; (try dsimp only at hSw); go_simp; try with_reducible rfl)
        simp only [Act.put, List.setIfInBounds_toArray, List.set_cons_zero, List.set_cons_succ]
        refine wpAnyH_take (i := 16) (oi := ({ dst := some 123, op := Go.Op.pick (Go.Operand.tmp 119) (Go.Operand.tmp 122) (Go.Operand.const (Go.Value.bool false)), type := 4, pos := _, after := #[{ on := 12, ground := Go.Ground.data }, { on := 15, ground := Go.Ground.data }, { on := 8, ground := Go.Ground.guard }], guard := some (8, false) } : Oper)) (v := ?_) rfl (by kernel_rfl) (by kernel_rfl) (by kernel_rfl) (fun _ _ _ h => h) (Or.inl ⟨by rfl, ?_⟩) (by assumption) ?_
        rotate_left
        · (intro w hSw; (try dsimp only at hSw); go_simp; try with_reducible rfl)
        simp only [Act.put, List.setIfInBounds_toArray, List.set_cons_zero, List.set_cons_succ]
        refine wpAnyH_take (i := 17) (oi := ({ dst := some 124, op := Go.Op.pick (Go.Operand.tmp 115) (Go.Operand.const (Go.Value.bool true)) (Go.Operand.tmp 123), type := 4, pos := _, after := #[{ on := 8, ground := Go.Ground.data }, { on := 16, ground := Go.Ground.data }], guard := none } : Oper)) (v := ?_) rfl (by kernel_rfl) (by kernel_rfl) (by kernel_rfl) (fun _ _ _ h => h) (Or.inl ⟨by rfl, ?_⟩) (by assumption) ?_
        rotate_left
        · (intro w hSw; (try dsimp only at hSw); go_simp; try with_reducible rfl)
        simp only [Act.put, List.setIfInBounds_toArray, List.set_cons_zero, List.set_cons_succ]
        refine wpAnyH_take (i := 18) (oi := ({ dst := some 2, op := Go.Op.assign (Go.Operand.tmp 124), type := 4, pos := _, after := #[{ on := 17, ground := Go.Ground.data }, { on := 12, ground := Go.Ground.chain }, { on := 0, ground := Go.Ground.phase }, { on := 1, ground := Go.Ground.phase }, { on := 2, ground := Go.Ground.phase }, { on := 3, ground := Go.Ground.phase }, { on := 4, ground := Go.Ground.phase }, { on := 5, ground := Go.Ground.phase }, { on := 6, ground := Go.Ground.phase }, { on := 7, ground := Go.Ground.phase }, { on := 8, ground := Go.Ground.phase }, { on := 9, ground := Go.Ground.phase }, { on := 10, ground := Go.Ground.phase }, { on := 11, ground := Go.Ground.phase }, { on := 12, ground := Go.Ground.phase }, { on := 13, ground := Go.Ground.phase }, { on := 14, ground := Go.Ground.phase }, { on := 15, ground := Go.Ground.phase }, { on := 16, ground := Go.Ground.phase }, { on := 17, ground := Go.Ground.phase }], guard := none } : Oper)) (v := ?_) rfl (by kernel_rfl) (by kernel_rfl) (by kernel_rfl) (fun _ _ _ h => h) (Or.inl ⟨by rfl, ?_⟩) (by assumption) ?_
        rotate_left
        · (intro w hSw; (try dsimp only at hSw); go_simp; try with_reducible rfl)
        simp only [Act.put, List.setIfInBounds_toArray, List.set_cons_zero, List.set_cons_succ]
        refine wpAnyH_done (by kernel_rfl) ?_ _
        have hB9 := And.left hHeld
        go_wp2
        go_ret
        exact ⟨rfl, bcat2 (bcat2 hBB hBk) hB9⟩
  · have hni : ¬ (24 : Int) < (n : Int) := by omega
    go_wp2_with fail
    clear g0 g1 h0 h1 f0 f1 fh0 fh1
    refine (HHM.out _ hBA).mono ?_
    rintro x wB ⟨r1, r3, ms, rfl, hml, hm5, hmf, hmsl, hbB⟩
    have hBB := bcat2 hBA hbB
    have hXB := blk_below hXA hbB
    have hFB := blk_below hFA hbB
    have hslB := hslA.below hbB
    obtain ⟨i2, hi2, hy0, hy1, hy2⟩ := info_parts info22b
    obtain ⟨ma, mcap, mpb, mpo, hmv, hmat, hmc, hmp, hm4, hm5'⟩ := hmsl
    injection hmv with e1 e2 e3
    subst e1 e3
    have HMA := hide hmat
    have HMC := hide (show ∀ j (hj : j < ms.length), ∃ (x1 : Option Addr) (x3 : Nat), wB.cell? ⟨mpb, mpo + j, none⟩ = some (.slice x1 n x3) ∧ Sl wB (.slice x1 n x3) ms[j] from fun j hj => by
      obtain ⟨x, hx1, hx2⟩ := hmc j hj
      rw [List.getElem?_eq_getElem hj, Option.getD_some] at hx2
      obtain ⟨xa, xc, _, _, rfl, _⟩ := id hx2
      rw [hml _ (List.getElem_mem hj)] at hx1 hx2
      exact ⟨xa, xc, hx1, hx2⟩)
    have HML := hide hml
    have HMF := hide hmf
    clear hmat hmc hm4 hm5' e2 hml hmf HHM hXA hFA hWA hslA hbB hBA
    go_wp2
    go_loopw [11, 12] (fun r i wr => ∃ (k : Nat) (us : List Value), k ≤ ms.length ∧ i = .int .i64 k ∧ wr.ownsRow wB.heap.size 22 1 r us.length us ∧ us.length = ((ms.take k).filter (o1 n)).length ∧ (∀ (t : Nat) x l, us[t]? = some x → ((ms.take k).filter (o1 n))[t]? = some l → Sl wB x l) ∧ Below wB.heap.size wB wr) (fun _ i _ => ms.length - (intOf i).toNat)
    case atStart => exact ⟨0, [], Nat.zero_le _, rfl, World.ownsRow_nil _ _ _ _, by simp, fun t x l h => by simp at h, Below.refl _ _⟩
    case round =>
      obtain ⟨k, us, hk, rfl, hrow, hul, hus, hBk⟩ := hrel
      obtain ⟨r, rfl⟩ : ∃ r, r = u11 := ⟨_, rfl⟩
      obtain ⟨ra, rc, hre⟩ := own_slice' hrow
      subst hre
      have HR := hide hrow
      have HUL := hide hul
      have HUS := hide hus
      clear hrow hul hus
      by_cases hlt : k < ms.length
      · have hki : (k : Int) < (ms.length : Int) := by omega
        obtain rfl := HMA.out (by omega)
        obtain ⟨x1, x3, hxc, hxs⟩ := HMC.out k hlt
        have htk : ms.take (k + 1) = ms.take k ++ [ms[k]] := List.take_succ_eq_append_getElem hlt
        have HOK := hide (fun W (h : Below wr.heap.size wr W) => one_ok n (.slice x1 n x3) ms[k] W ((hxs.below hBk).below h) (HML.out _ (List.getElem_mem hlt)) (by omega))
        obtain ⟨g0, _, _, _⟩ := (blk_below hXB hBk).two
        have cx := below_cell hBk hxc
        have hS : ∀ W, Below wr.heap.size wr W → (Below wr.heap.size wr W ∧ W.cell? ⟨w.heap.size, 0, none⟩ = some (.int .i64 n) ∧ W.cell? ⟨mpb, mpo + k, none⟩ = some (.slice x1 n x3)) := fun W h => ⟨h, below_cell h g0, below_cell h cx⟩
        have hS0 := hS _ (bdrew (Below.refl _ wr))
        have hul9 : us.length ≤ 5000 := by
          have h1 := List.length_filter_le (o1 n) (ms.take k)
          rw [List.length_take] at h1
          have := HUL.out
          omega
        clear hxc
        cases hob : o1 n ms[k]
        · rw [hob] at HOK
          have hF9 : (ms.take (k + 1)).filter (o1 n) = (ms.take k).filter (o1 n) := by rw [htk, List.filter_append, List.filter_cons, if_neg (by simp [hob]), List.filter_nil, List.append_nil]
          have HF9 := hide hF9
          clear hF9 htk hob
          go_wp2_with fail
          clear g0 cx
          go_region_held3 (fun W => Below wr.heap.size wr W ∧ W.cell? ⟨w.heap.size, 0, none⟩ = some (.int .i64 n) ∧ W.cell? ⟨mpb, mpo + k, none⟩ = some (.slice x1 n x3))
            (first | exact hS0 | assumption | exact hS _ (bcat2 (And.left ‹_›) hq1))
            (first | (go_at_call 38; refine (HOK.out _ (And.left ‹_›)).mono ?_; rintro e1 W1 ⟨rfl, hq1⟩))
          all_goals (
            have hB1 := And.left ‹Below wr.heap.size wr W1 ∧ _›
            go_wp2
            go_roundw
            case rel => exact ⟨k + 1, us, by omega, by go_num, own_keep' HR.out (fun g _ h2 => hB1.block g h2), by rw [HF9.out]; exact HUL.out, by rw [HF9.out]; exact HUS.out, bcat2 hBk hB1⟩
            case measure => simp [intOf]; omega)
        · rw [hob] at HOK
          have hF9 : (ms.take (k + 1)).filter (o1 n) = (ms.take k).filter (o1 n) ++ [ms[k]] := by rw [htk, List.filter_append, List.filter_cons, if_pos hob, List.filter_nil]
          have HF9 := hide hF9
          clear hF9 htk hob
          go_wp2_with fail
          clear g0 cx
          go_region_held3 (fun W => Below wr.heap.size wr W ∧ W.cell? ⟨w.heap.size, 0, none⟩ = some (.int .i64 n) ∧ W.cell? ⟨mpb, mpo + k, none⟩ = some (.slice x1 n x3))
            (first | exact hS0 | assumption | exact hS _ (bcat2 (And.left ‹_›) hq1))
            (first | (go_at_call 38; refine (HOK.out _ (And.left ‹_›)).mono ?_; rintro e1 W1 ⟨rfl, hq1⟩))
          all_goals (
            obtain ⟨hB1, g0, cx⟩ := ‹Below wr.heap.size wr W1 ∧ _›
            have hr2 := own_keep' HR.out (fun g _ h2 => hB1.block g h2)
            have hB2 := bcat2 hBk hB1
            have hs2 := hB2.size
            clear hq1
            go_wp2_with (first
              | (at_builtin; refine wpList_append_own _ rfl _ _ 25 rfl wB.heap.size 22 i2 (.slice none 0 0) 1 24 under25b hi2 hy0 hy1 hy2 rfl (by decide) _ _ _ rfl (World.ownsRow.alloc hr2 _) ⟨W1.heap.size, 0, none⟩ 1 1 [.slice x1 n x3] rfl rfl (cell_one_new _ _ _) ?c2 ?c3 ?c4 ?c5 ?_))
            case c2 => simp [Value.oneCell']
            case c3 => unfold maxLen; omega
            case c4 => omega
            case c5 => (first | (rw [World.size_alloc]; omega) | (simp; omega))
            intro v' W2 hown' hgrow _
            obtain ⟨ra', rcap', rfl⟩ := own_slice' hown'
            have hB3 : Below wB.heap.size wB W2 := (hB2.alloc hs2 _).grown hgrow (by simp; omega) (fun j e => owns_ge hr2 j e)
            have hrow2 : W2.ownsRow wB.heap.size 22 1 (.slice ra' (us.length + 1) rcap') (us ++ [Value.slice x1 n x3]).length (us ++ [Value.slice x1 n x3]) := by simpa using hown'
            clear hown' hgrow hr2 g0 cx
            go_wp2
            go_roundw
            case rel => exact ⟨k + 1, _, by omega, by go_num, hrow2, by rw [HF9.out, List.length_append, List.length_append, HUL.out]; rfl, fun t x l h1 h2 => by
              rw [HF9.out] at h2
              by_cases ht : t < us.length
              · rw [List.getElem?_append_left ht] at h1
                rw [List.getElem?_append_left (by rw [← HUL.out]; exact ht)] at h2
                exact HUS.out t x l h1 h2
              · have hte : t = us.length := by
                  have := (List.getElem?_eq_some_iff.1 h1).1
                  rw [List.length_append, List.length_singleton] at this
                  omega
                subst hte
                rw [List.getElem?_append_right (Nat.le_refl _), Nat.sub_self] at h1
                rw [List.getElem?_append_right (by rw [← HUL.out]; exact Nat.le_refl _), ← HUL.out, Nat.sub_self] at h2
                simp at h1 h2
                rw [← h1, ← h2]
                exact hxs, hB3⟩
            case measure => simp [intOf]; omega)
      · have hki : ¬ (k : Int) < (ms.length : Int) := by omega
        have hfull : ms.take k = ms := List.take_of_length_le (by omega)
        have hul := HUL.out
        have hus := HUS.out
        rw [hfull, HMF.out] at hul hus
        have hwl := slL_mk (ls := AL) HR.out hul (fun t x l h1 h2 => (hus t x l h1 h2).below hBk) (Nat.lt_of_lt_of_le (Nat.lt_of_le_of_lt (Nat.zero_le _) hmp) hBk.size)
        have hBr := bcat2 hBB hBk
        have hslr := hslB.below hBk
        obtain ⟨f0, f1, _, _⟩ := (blk_below hFB hBk).two
        have HUL2 := hide hul
        clear hul hus hfull
        rcases hway with ⟨rfl, rfl, hle⟩ | ⟨rfl, rfl, hgt⟩
        · have hui : ¬ (1000 : Int) < (us.length : Int) := by have := HUL2.out; omega
          have HLS := hide (lists_any (.slice l1 LS.length l3) (.slice ra us.length rc) LS LS wr hslr hwl)
          go_wp2_with fail
          refine HLS.out.mono ?_
          rintro x wC ⟨rfl, hbC⟩
          go_wp2
          go_ret
          exact ⟨rfl, bcat2 hBr hbC⟩
        · have hui : (1000 : Int) < (us.length : Int) := by have := HUL2.out; omega
          have hS : ∀ W, Below wr.heap.size wr W → (Below wr.heap.size wr W ∧ W.cell? ⟨w2.heap.size, 0, none⟩ = some (.int .i64 9) ∧ W.cell? ⟨w2.heap.size, 1, none⟩ = some (.int .i64 0)) := fun W h => ⟨h, below_cell h f0, below_cell h f1⟩
          have hS0 := hS _ (bdrew (Below.refl _ wr))
          have HF := hide (fun W => f_any 9 0 W)
          go_wp2_with fail
          clear f0 f1
          go_region_held3 (fun W => Below wr.heap.size wr W ∧ W.cell? ⟨w2.heap.size, 0, none⟩ = some (.int .i64 9) ∧ W.cell? ⟨w2.heap.size, 1, none⟩ = some (.int .i64 0))
            (first | exact hS0 | assumption | exact hS _ (bcat2 (And.left ‹_›) hq1))
            (first | (go_at_call 13; refine (HF.out _).mono ?_; rintro e1 W1 ⟨rfl, hq1⟩))
          all_goals (
            have hB1 := And.left ‹Below wr.heap.size wr W1 ∧ _›
            go_wp2
            go_ret
            exact ⟨rfl, bcat2 hBr hB1⟩)
end Go.Proofs.YtmgengplfebmjaaDoor

namespace Go.Proofs.YtmgengplfebmjaaDoor
open Go Go.RowKit

theorem least_of2 {P : Nat → Prop} : ∀ c, P c → ∃ d, P d ∧ ∀ x, x < d → ¬ P x := by
  intro c
  induction c using Nat.strongRecOn with
  | ind c ih =>
    intro hc
    by_cases h : ∃ x, x < c ∧ P x
    · obtain ⟨x, h1, h2⟩ := h
      exact ih x h1 h2
    · exact ⟨c, hc, fun x h1 h2 => h ⟨x, h1, h2⟩⟩
/-- There are least makers. -/
theorem lm_exists2 {n e : Nat} {zs : List Int} : ∀ (k : Nat) (ks : List Nat), LM n zs e ks → n ≤ ks.length + k → ∃ ls, LM n zs e ls ∧ ∀ a, a < n → Mkd n zs e (fun x => decide (x ∈ ls)) a
  | k, ks, h, hk => by
    by_cases hall : ∀ a, a < n → Mkd n zs e (fun x => decide (x ∈ ks)) a
    · exact ⟨ks, h, hall⟩
    · have hex : ∃ c, c < n ∧ ¬ Mkd n zs e (fun x => decide (x ∈ ks)) c := Classical.byContradiction fun hno => hall fun a ha => Classical.byContradiction fun h9 => hno ⟨a, ha, h9⟩
      obtain ⟨c0, hc0⟩ := hex
      obtain ⟨c, ⟨hc1, hc2⟩, hc3⟩ := least_of2 (P := fun c => c < n ∧ ¬ Mkd n zs e (fun x => decide (x ∈ ks)) c) c0 hc0
      have hs := h.snoc hc1 hc2 (fun x hx => Classical.byContradiction fun h9 => hc3 x hx ⟨by omega, h9⟩)
      have hf := hs.fits
      rw [List.length_append, List.length_singleton] at hf
      match k, hk with
      | 0, hk => omega
      | k + 1, hk => exact lm_exists2 k (ks ++ [c]) hs (by rw [List.length_append, List.length_singleton]; omega)
theorem slL_none {w : World} (h : 0 < w.heap.size) : SlL w (.slice none 0 0) [] := ⟨none, 0, 0, 0, rfl, fun h => by simp at h, fun j hj => by simp at hj, h, Nat.le_refl _, by unfold maxLen; omega⟩
theorem hau_law (N : Int) (v : Value) (zs : List Int) (w : World) (hv : Sl w v zs) (hT : Tab w) (b1 : zs.length * 8 ≤ 140737488355328) :
    Calls Tryd.prog 6 #[.agg #[.int .i64 N, v]] w fun e w' => e = .returned (.bool true) ∧ Below w.heap.size w w' := by
  obtain ⟨v1, v2, v3, rfl⟩ := hv.isSlice
  have HO : Hid (∀ W, Below w.heap.size w W → Calls Tryd.prog 10 #[.agg #[.int .i64 N, .slice v1 v2 v3]] W fun x W' => ∃ u1 u2 u3, x = .returned (.agg #[.int .i64 N, .slice u1 u2 u3]) ∧ Sl W' (.slice u1 u2 u3) zs ∧ Below W.heap.size W W') := hide fun W h => (ownGroup_any N (.slice v1 v2 v3) zs W (hv.below h) b1).mono (fun x W' h9 => by
    obtain ⟨u, rfl, hu, hb⟩ := h9
    obtain ⟨u1, u2, u3, rfl⟩ := hu.isSlice
    exact ⟨u1, u2, u3, rfl, hu, hb⟩)
  have HGF := hide (fun W (h : Below w.heap.size w W) => groupFault_any N (.slice v1 v2 v3) zs W (hv.below h))
  have h0 : ∀ W W', Below w.heap.size w W → Below W.heap.size W W' → 0 < W'.heap.size := fun W W' h h' => Nat.lt_of_lt_of_le (Nat.lt_of_lt_of_le hT.lt h.size) h'.size
  by_cases hc : (gfault N zs).1 = 0
  · obtain ⟨n, e, rfl, hg, _⟩ := gfault_grp hc
    rw [grp_fault hg] at HGF
    have HIN : Hid (∀ W u, Below w.heap.size w W → Sl W u zs → Calls Tryd.prog 33 #[.agg #[.int .i64 n, u]] W fun x W' => ∃ (r1 : Option Addr) (r3 : Nat) (ms : List (List Int)), x = .returned (.tuple #[.slice r1 (dd ms).length r3, .agg #[.int .i64 0, .int .i64 0]]) ∧ ms.Perm (innL n zs e) ∧ srt ms ∧ SlL W' (.slice r1 (dd ms).length r3) (dd ms) ∧ Below W.heap.size W W') := hide fun W u h hu => (inner_good n e u zs W hu hg).mono (fun x W' h9 => by
      obtain ⟨r1, r2, r3, ms, rfl, hp, hs, hL, hb⟩ := h9
      obtain ⟨a, cap, pb, po, hve, _⟩ := id hL
      injection hve with e1 e2 e3
      subst e1 e2 e3
      exact ⟨r1, r3, ms, rfl, hp, hs, hL, hb⟩)
    by_cases h24 : 24 < n
    · exact hau_good n e 2 [] [] v1 v2 v3 zs w hT hg hv HO (hide fun W u h hu => (autos_many n e u zs W hu hg h24).mono (fun x W' h9 => by
        obtain ⟨rfl, hb⟩ := h9
        exact ⟨none, 0, rfl, slL_none (h0 W W' h hb), hb⟩)) HIN HGF (.inl ⟨h24, rfl, rfl⟩)
    · have hn24 : n ≤ 24 := by omega
      obtain ⟨k0, hk1, hk2⟩ := lm_exists2 n [] (LM.nil n zs e) (by simp)
      have HAG : ¬ 1000 < (autL n zs e k0).length → Hid (∀ W u, Below w.heap.size w W → Sl W u zs → Calls Tryd.prog 32 #[.agg #[.int .i64 n, u]] W fun x W' => ∃ (r1 : Option Addr) (r3 : Nat), x = .returned (.tuple #[.slice r1 (autL n zs e k0).length r3, .agg #[.int .i64 0, .int .i64 0]]) ∧ SlL W' (.slice r1 (autL n zs e k0).length r3) (autL n zs e k0) ∧ Below W.heap.size W W') := fun hle => hide fun W u h hu => (autos_good n e u zs W hu hg (hT.below h) hn24 (fun ks h1 h2 => by rw [lm_unique h1 hk1 h2 hk2]; omega)).mono (fun x W' h9 => by
        obtain ⟨ks, r, vs, rfl, hLM, hgen, hrow, hls, hb⟩ := h9
        rw [lm_unique hLM hk1 hgen hk2] at hls
        have hsl := SlL.of_own hrow hls (h0 W W' h hb)
        obtain ⟨ra, rc, rfl⟩ := own_slice' hrow
        rw [hls.1] at hsl ⊢
        exact ⟨ra, rc, rfl, hsl, hb⟩)
      have HAM : 1000 < (autL n zs e k0).length → Hid (∀ W u, Below w.heap.size w W → Sl W u zs → Calls Tryd.prog 32 #[.agg #[.int .i64 n, u]] W fun x W' => ∃ (r1 : Option Addr) (r3 : Nat), x = .returned (.tuple #[.slice r1 ([] : List (List Int)).length r3, .agg #[.int .i64 9, .int .i64 0]]) ∧ SlL W' (.slice r1 ([] : List (List Int)).length r3) [] ∧ Below W.heap.size W W') := fun hgt => hide fun W u h hu => (autos_much n e u zs W hu hg (hT.below h) hn24 (fun ks h1 h2 => by rw [lm_unique h1 hk1 h2 hk2]; exact hgt)).mono (fun x W' h9 => by
        obtain ⟨rfl, hb⟩ := h9
        exact ⟨none, 0, rfl, slL_none (h0 W W' h hb), hb⟩)
      by_cases hmost : (homF n zs e n zs e k0 (fun _ => true) (k0.length + 1) []).length ≤ 5000
      · have HHM : Hid (∀ W, Below w.heap.size w W → Calls Tryd.prog 29 #[.agg #[.int .i64 n, .slice v1 v2 v3], .agg #[.int .i64 n, .slice v1 v2 v3], .int .i64 5000] W fun x W' => ∃ (r1 : Option Addr) (r3 : Nat) (ms : List (List Int)), x = .returned (.tuple #[.slice r1 ms.length r3, .bool true]) ∧ (∀ l, l ∈ ms → l.length = n) ∧ ms.length ≤ 5000 ∧ ms.filter (o1 n) = autL n zs e k0 ∧ SlL W' (.slice r1 ms.length r3) ms ∧ Below W.heap.size W W') := hide fun W h => (homs_ok n e n e 5000 (.slice v1 v2 v3) (.slice v1 v2 v3) zs zs W (hv.below h) hg (hv.below h) hg (by omega)).mono (fun x W' h9 => by
          obtain ⟨hb, ks, hkn, hkl, hgen, hcase⟩ := h9
          have hpm := homs_same hg hg hk1 hk2 hkn hgen
          rcases hcase with ⟨hle, r, us, ms, rfl, hrow, hls, hpm2, hst⟩ | ⟨hno, _⟩
          · have hsl := SlL.of_own hrow hls (h0 W W' h hb)
            obtain ⟨ra, rc, rfl⟩ := own_slice' hrow
            rw [hls.1] at hsl ⊢
            exact ⟨ra, rc, ms, rfl, fun l hl => dhF_len hg hg hkn ks.length [] (by simp) l (hpm2.mem_iff.1 hl), by rw [hpm2.length_eq]; exact hle, aut_filter hg hk1 hk2 hkn hgen hpm2 hst, hsl, hb⟩
          · exact absurd (by rw [← hpm.length_eq]; exact hmost) hno)
        by_cases hgt : 1000 < (autL n zs e k0).length
        · exact hau_good n e 9 [] (autL n zs e k0) v1 v2 v3 zs w hT hg hv HO (HAM hgt) HIN HGF (.inr (.inr ⟨h24, HHM, .inr ⟨rfl, rfl, hgt⟩⟩))
        · exact hau_good n e 0 (autL n zs e k0) (autL n zs e k0) v1 v2 v3 zs w hT hg hv HO (HAG hgt) HIN HGF (.inr (.inr ⟨h24, HHM, .inl ⟨rfl, rfl, hgt⟩⟩))
      · have HHM : Hid (∀ W, Below w.heap.size w W → Calls Tryd.prog 29 #[.agg #[.int .i64 n, .slice v1 v2 v3], .agg #[.int .i64 n, .slice v1 v2 v3], .int .i64 5000] W fun x W' => x = .returned (.tuple #[.slice none 0 0, .bool false]) ∧ Below W.heap.size W W') := hide fun W h => (homs_ok n e n e 5000 (.slice v1 v2 v3) (.slice v1 v2 v3) zs zs W (hv.below h) hg (hv.below h) hg (by omega)).mono (fun x W' h9 => by
          obtain ⟨hb, ks, hkn, hkl, hgen, hcase⟩ := h9
          have hpm := homs_same hg hg hk1 hk2 hkn hgen
          rcases hcase with ⟨hle, _⟩ | ⟨_, hx⟩
          · exact absurd (by rw [hpm.length_eq]; exact hle) hmost
          · exact ⟨hx, hb⟩)
        by_cases hgt : 1000 < (autL n zs e k0).length
        · exact hau_good n e 9 [] [] v1 v2 v3 zs w hT hg hv HO (HAM hgt) HIN HGF (.inr (.inl ⟨h24, HHM, .inr ⟨rfl, rfl⟩⟩))
        · exact hau_good n e 0 (autL n zs e k0) [] v1 v2 v3 zs w hT hg hv HO (HAG hgt) HIN HGF (.inr (.inl ⟨h24, HHM, .inl ⟨rfl, by omega, fun L hL => (aut_mem hg hk1.lt hk2).1 hL, aut_sorted hg hk1 hk2⟩⟩))
  · exact hau_bad N _ _ v1 v2 v3 zs w hT hc HO (hide fun W u h hu => autos_bad N u zs W hu hc) (hide fun W u h hu => inner_bad N u zs W hu hc) HGF
end Go.Proofs.YtmgengplfebmjaaDoor
