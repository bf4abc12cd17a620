/- What the law HomInner answers: true, at every table; inner automorphisms, least makers, permutations and automorphisms as mathematics; Inner, Autos, Centre and the document's Then, Inverse and PermFault at everything that the law hands them. -/
import Derived.Test.YtmgengplfebmjaaDoorHz
import Derived.Test.YtmgengplfebmjaaDoorHy
import Derived.Test.YtmgengplfebmjaaDoorCsa
namespace Go.Proofs.YtmgengplfebmjaaDoor
open Go Go.RowKit

section
variable {n e m d : Nat} {zs ys : List Int} {S S' : List Int × List Nat} {ps : List (Nat × Nat)} {φ : Nat → Nat}
/-- What stands stays. -/
structure Grow (S S' : List Int × List Nat) : Prop where
  pre : S.2 <+: S'.2
  val : ∀ x, x ∈ S.2 → S'.1[x]?.getD 0 = S.1[x]?.getD 0
theorem Grow.refl (S : List Int × List Nat) : Grow S S := ⟨List.prefix_rfl, fun _ _ => rfl⟩
theorem Grow.mem (h : Grow S S') {x : Nat} (hx : x ∈ S.2) : x ∈ S'.2 := h.pre.subset hx
theorem Grow.trans {T : List Int × List Nat} (h : Grow S S') (k : Grow S' T) : Grow S T := ⟨h.pre.trans k.pre, fun x hx => (k.val x (h.mem hx)).trans (h.val x hx)⟩
theorem pre_get {l k : List Nat} (h : l <+: k) {j a : Nat} (hj : l[j]? = some a) : k[j]? = some a := by
  obtain ⟨t, ht⟩ := h
  rw [← ht, List.getElem?_append_left (List.getElem?_eq_some_iff.1 hj).1]
  exact hj
/-- A product with a maker is found, and stands for the product. -/
def OkP (n : Nat) (zs : List Int) (m : Nat) (ys : List Int) (S : List Int × List Nat) (a : Nat) (p : Nat × Nat) : Prop := tm n zs a p.1 ∈ S.2 ∧ S.1[tm n zs a p.1]?.getD 0 = (tm m ys (S.1[a]?.getD 0).toNat p.2 : Int)
theorem OkP.grow {a : Nat} {p : Nat × Nat} (h : OkP n zs m ys S a p) (hg : Grow S S') (ha : a ∈ S.2) : OkP n zs m ys S' a p :=
  ⟨hg.mem h.1, by rw [hg.val _ h.1, h.2, hg.val _ ha]⟩
/-- Words of makers. -/
inductive Wd (n : Nat) (zs : List Int) (e : Nat) (ps : List (Nat × Nat)) : Nat → Prop
  | one : Wd n zs e ps e
  | mul {x : Nat} {p : Nat × Nat} : Wd n zs e ps x → p ∈ ps → Wd n zs e ps (tm n zs x p.1)
theorem exS_grow (h : XI n m S) (ht : IsTab n zs) {a : Nat} {p : Nat × Nat} (ha : a ∈ S.2) (h1 : p.1 < n) (hs : exS n zs m ys a S p = some S') : Grow S S' ∧ OkP n zs m ys S' a p ∧ ∀ x, x ∈ S'.2 → x ∈ S.2 ∨ x = tm n zs a p.1 := by
  have hc := tm_lt ht (h.lt a ha) h1
  unfold exS at hs
  split at hs
  · rename_i hm
    obtain rfl := Option.some.inj hs
    have hnc : tm n zs a p.1 ∉ S.2 := fun hin => by have := h.ok _ hin; omega
    have hv : ∀ x, x ∈ S.2 → ((S.1.set (tm n zs a p.1) (tm m ys (S.1[a]?.getD 0).toNat p.2 : Int)))[x]?.getD 0 = S.1[x]?.getD 0 := fun x hx => by
      rw [get_set (by rw [h.len]; exact hc), if_neg (fun he : x = tm n zs a p.1 => hnc (he ▸ hx))]
    refine ⟨⟨List.prefix_append _ _, hv⟩, ⟨by simp, ?_⟩, fun x hx => ?_⟩
    · show (S.1.set _ _)[tm n zs a p.1]?.getD 0 = (tm m ys ((S.1.set (tm n zs a p.1) (tm m ys (S.1[a]?.getD 0).toNat p.2 : Int))[a]?.getD 0).toNat p.2 : Int)
      rw [hv a ha, get_set (by rw [h.len]; exact hc), if_pos rfl]
    · rcases List.mem_append.1 hx with hx | hx
      · exact .inl hx
      · exact .inr (by simpa using hx)
  · rename_i hm
    split at hs
    · rename_i hv
      obtain rfl := Option.some.inj hs
      refine ⟨Grow.refl _, ⟨?_, hv⟩, fun x hx => .inl hx⟩
      by_cases hin : tm n zs a p.1 ∈ S.2
      · exact hin
      · exact absurd (h.no _ hc hin) hm
    · cases hs
theorem exI_grow (ht : IsTab n zs) (hu : IsTab m ys) {a : Nat} : ∀ (ps : List (Nat × Nat)) {S S' : List Int × List Nat}, XI n m S → a ∈ S.2 → (∀ p, p ∈ ps → p.1 < n ∧ p.2 < m) → exI n zs m ys a ps S = some S' → XI n m S' ∧ Grow S S' ∧ (∀ p, p ∈ ps → OkP n zs m ys S' a p) ∧ ∀ x, x ∈ S'.2 → x ∈ S.2 ∨ ∃ p, p ∈ ps ∧ x = tm n zs a p.1
  | [], S, S', h, ha, hp, hs => by
    obtain rfl := Option.some.inj hs
    exact ⟨h, Grow.refl _, fun p hp => by simp at hp, fun x hx => .inl hx⟩
  | p :: ps, S, S', h, ha, hp, hs => by
    obtain ⟨h1, h2⟩ := hp p (by simp)
    cases he : exS n zs m ys a S p with
    | none => simp only [exI, he] at hs; cases hs
    | some T =>
      simp only [exI, he] at hs
      obtain ⟨g1, o1, m1⟩ := exS_grow h ht ha h1 he
      have hT := (h.step hu ht ha h1 h2 he).1
      obtain ⟨r1, r2, r3, r4⟩ := exI_grow ht hu ps hT (g1.mem ha) (fun q hq => hp q (by simp [hq])) hs
      refine ⟨r1, g1.trans r2, fun q hq => ?_, fun x hx => ?_⟩
      · rcases List.mem_cons.1 hq with rfl | hq
        · exact o1.grow r2 (g1.mem ha)
        · exact r3 q hq
      · rcases r4 x hx with hx | ⟨q, hq, he⟩
        · rcases m1 x hx with hx | hx
          · exact .inl hx
          · exact .inr ⟨p, by simp, hx⟩
        · exact .inr ⟨q, by simp [hq], he⟩
theorem exO_grow (ht : IsTab n zs) (hu : IsTab m ys) (hp : ∀ p, p ∈ ps → p.1 < n ∧ p.2 < m) : ∀ (f k : Nat) {S S' : List Int × List Nat}, XI n m S → n ≤ f + k → (∀ j a, j < k → S.2[j]? = some a → ∀ p, p ∈ ps → OkP n zs m ys S a p) → (∀ x, x ∈ S.2 → Wd n zs e ps x) → exO n zs m ys ps f k S = some S' →
    XI n m S' ∧ Grow S S' ∧ (∀ a, a ∈ S'.2 → ∀ p, p ∈ ps → OkP n zs m ys S' a p) ∧ ∀ x, x ∈ S'.2 → Wd n zs e ps x
  | 0, k, S, S', h, hf, hok, hw, hs => by
    obtain rfl := Option.some.inj hs
    refine ⟨h, Grow.refl _, fun a ha p hp => ?_, hw⟩
    obtain ⟨j, hj, he⟩ := List.mem_iff_getElem.1 ha
    exact hok j a (by have := h.fits; omega) (by rw [List.getElem?_eq_getElem hj, he]) p hp
  | f + 1, k, S, S', h, hf, hok, hw, hs => by
    cases hk : S.2[k]? with
    | none =>
      simp only [exO, hk] at hs
      obtain rfl := Option.some.inj hs
      refine ⟨h, Grow.refl _, fun a ha p hp => ?_, hw⟩
      obtain ⟨j, hj, he⟩ := List.mem_iff_getElem.1 ha
      exact hok j a (by have := List.getElem?_eq_none_iff.1 hk; omega) (by rw [List.getElem?_eq_getElem hj, he]) p hp
    | some a =>
      simp only [exO, hk] at hs
      cases hi : exI n zs m ys a ps S with
      | none => rw [hi] at hs; cases hs
      | some T =>
        rw [hi] at hs
        have ha : a ∈ S.2 := List.mem_of_getElem? hk
        obtain ⟨r1, r2, r3, r4⟩ := exI_grow ht hu ps h ha hp hi
        obtain ⟨q1, q2, q3, q4⟩ := exO_grow ht hu hp f (k + 1) r1 (by omega) (fun j b hj hb p hp => by
          by_cases hjk : j < k
          · have hjl : j < S.2.length := by have := (List.getElem?_eq_some_iff.1 hk).1; omega
            have hb' : S.2[j]? = some b := by
              have h9 := pre_get r2.pre (List.getElem?_eq_getElem hjl)
              rw [hb] at h9
              rw [List.getElem?_eq_getElem hjl, ← h9]
            exact (hok j b hjk hb' p hp).grow r2 (List.mem_of_getElem? hb')
          · have : j = k := by omega
            subst this
            have hkl := (List.getElem?_eq_some_iff.1 hk).1
            have : T.2[j]? = some a := pre_get r2.pre hk
            have : b = a := by rw [hb] at this; exact Option.some.inj this
            subst this
            exact r3 p hp) (fun x hx => by
          rcases r4 x hx with hx | ⟨p, hp, rfl⟩
          · exact hw x hx
          · exact Wd.mul (hw a ha) hp) hs
        exact ⟨q1, r2.trans q2, q3, q4⟩
theorem ext_grow (g : IsGrp n zs e) (h : IsGrp m ys d) (hp : ∀ p, p ∈ ps → p.1 < n ∧ p.2 < m) (hs : ext n zs e m ys d ps = some S) : XI n m S ∧ e ∈ S.2 ∧ S.1[e]?.getD 0 = (d : Int) ∧ (∀ a, a ∈ S.2 → ∀ p, p ∈ ps → OkP n zs m ys S a p) ∧ ∀ x, x ∈ S.2 → Wd n zs e ps x := by
  have h0 := XI.start g.elt h.elt
  obtain ⟨r1, r2, r3, r4⟩ := exO_grow (e := e) g.tab h.tab hp n 0 h0 (by omega) (fun j a hj => by omega) (fun x hx => by
    have : x = e := by simpa [ex0] using hx
    rw [this]; exact Wd.one) hs
  have he : e ∈ (ex0 n e d).2 := by simp [ex0]
  refine ⟨r1, r2.mem he, ?_, r3, r4⟩
  rw [r2.val e he]
  show ((List.replicate n (-1 : Int)).set e (d : Int))[e]?.getD 0 = (d : Int)
  rw [get_set (by simpa using g.elt), if_pos rfl]
/-- What stands for a thing that is found. -/
def vl (S : List Int × List Nat) (x : Nat) : Nat := (S.1[x]?.getD 0).toNat
theorem XI.vl (h : XI n m S) {x : Nat} (hx : x ∈ S.2) : S.1[x]?.getD 0 = (vl S x : Int) ∧ vl S x < m := by
  have := h.ok x hx
  unfold Go.Proofs.YtmgengplfebmjaaDoor.vl
  omega
theorem wd_mul (g : IsGrp n zs e) (h : IsGrp m ys d) (hp : ∀ p, p ∈ ps → p.1 < n ∧ p.2 < m) (hs : ext n zs e m ys d ps = some S) {x y : Nat} (hx : x ∈ S.2) (hy : Wd n zs e ps y) : y ∈ S.2 ∧ tm n zs x y ∈ S.2 ∧ vl S (tm n zs x y) = tm m ys (vl S x) (vl S y) := by
  obtain ⟨r1, r2, r3, r4, _⟩ := ext_grow g h hp hs
  have hve : vl S e = d := by unfold vl; rw [r3]; simp
  induction hy with
  | one => exact ⟨r2, by rw [g.right x (r1.lt x hx)]; exact hx, by rw [g.right x (r1.lt x hx), hve, h.right _ (r1.vl hx).2]⟩
  | mul hw hpm ih =>
    rename_i y p
    obtain ⟨i1, i2, i3⟩ := ih
    obtain ⟨p1, p2⟩ := hp p hpm
    have o1 := r4 y i1 p hpm
    have o2 := r4 _ i2 p hpm
    have ha : tm n zs x (tm n zs y p.1) = tm n zs (tm n zs x y) p.1 := (g.ass x y p.1 (r1.lt x hx) (r1.lt y i1) p1).symm
    refine ⟨o1.1, by rw [ha]; exact o2.1, ?_⟩
    have e1 : vl S (tm n zs y p.1) = tm m ys (vl S y) p.2 := by
      have := o1.2
      unfold vl; rw [this]; simp
    have e2 : vl S (tm n zs (tm n zs x y) p.1) = tm m ys (vl S (tm n zs x y)) p.2 := by
      have := o2.2
      unfold vl; rw [this]; simp
    rw [ha, e2, i3, e1, h.ass _ _ _ (r1.vl hx).2 (r1.vl i1).2 p2]
/-- All that the makers make is found, and products are kept. -/
theorem ext_mul (g : IsGrp n zs e) (h : IsGrp m ys d) (hp : ∀ p, p ∈ ps → p.1 < n ∧ p.2 < m) (hs : ext n zs e m ys d ps = some S) {x y : Nat} (hx : x ∈ S.2) (hy : y ∈ S.2) : tm n zs x y ∈ S.2 ∧ vl S (tm n zs x y) = tm m ys (vl S x) (vl S y) :=
  (wd_mul g h hp hs hx ((ext_grow g h hp hs).2.2.2.2 y hy)).2
theorem ext_made (g : IsGrp n zs e) (h : IsGrp m ys d) (hp : ∀ p, p ∈ ps → p.1 < n ∧ p.2 < m) (hs : ext n zs e m ys d ps = some S) {x : Nat} : x ∈ S.2 ↔ Mkd n zs e (fun x => decide (x ∈ ps.map Prod.fst)) x := by
  obtain ⟨r1, r2, r3, r4, r5⟩ := ext_grow g h hp hs
  constructor
  · intro hx
    have := r5 x hx
    clear hx
    induction this with
    | one => exact (Fin.Gen.sg _).one
    | mul hw hpm ih =>
      rename_i y p
      have hy : y < n := r1.lt y (wd_mul g h hp hs r2 hw).1
      exact (Fin.Gen.sg _).mul _ _ (List.mem_range.2 hy) (List.mem_range.2 (hp p hpm).1) ih (Fin.Gen.base (List.mem_range.2 (hp p hpm).1) (decide_eq_true (List.mem_map.2 ⟨p, hpm, rfl⟩)))
  · intro hx
    refine Fin.Gen.least (P := fun x => x ∈ S.2) ⟨r2, fun a b _ _ ha hb => (ext_mul g h hp hs ha hb).1⟩ (fun y hy hY => ?_) hx
    obtain ⟨p, hpm, rfl⟩ := List.mem_map.1 (of_decide_eq_true hY)
    have := (r4 e r2 p hpm).1
    rwa [g.left p.1 (hp p hpm).1] at this
theorem ext_at (g : IsGrp n zs e) (h : IsGrp m ys d) (hp : ∀ p, p ∈ ps → p.1 < n ∧ p.2 < m) (hs : ext n zs e m ys d ps = some S) {p : Nat × Nat} (hpm : p ∈ ps) : vl S p.1 = p.2 := by
  obtain ⟨r1, r2, r3, r4, _⟩ := ext_grow g h hp hs
  have := (r4 e r2 p hpm).2
  rw [g.left p.1 (hp p hpm).1, r3] at this
  unfold vl
  rw [this, Int.toNat_natCast, Int.toNat_natCast, h.left p.2 (hp p hpm).2]
/-- Where the makers make all, it is a homomorphism. -/
theorem ext_hom (g : IsGrp n zs e) (h : IsGrp m ys d) (hp : ∀ p, p ∈ ps → p.1 < n ∧ p.2 < m) (hs : ext n zs e m ys d ps = some S) (hall : ∀ a, a < n → Mkd n zs e (fun x => decide (x ∈ ps.map Prod.fst)) a) : IsHom n zs m ys (vl S) ∧ S.1 = li ((List.range n).map (vl S)) := by
  obtain ⟨r1, _⟩ := ext_grow g h hp hs
  have hin : ∀ a, a < n → a ∈ S.2 := fun a ha => (ext_made g h hp hs).2 (hall a ha)
  refine ⟨⟨fun a ha => (r1.vl (hin a ha)).2, fun a b ha hb => (ext_mul g h hp hs (hin a ha) (hin b hb)).2⟩, ?_⟩
  apply List.ext_getElem
  · rw [r1.len]; simp [li]
  · intro i h1 h2
    rw [r1.len] at h1
    have := (r1.vl (hin i h1)).1
    rw [List.getElem?_eq_getElem (by rw [r1.len]; exact h1), Option.getD_some] at this
    rw [this]
    simp [li]
/-- Where there is a homomorphism, the search ends well, and finds it. -/
theorem exS_hom (h : XI n m S) (ht : IsTab n zs) (H : IsHom n zs m ys φ) {a : Nat} {p : Nat × Nat} (ha : a ∈ S.2) (h1 : p.1 < n) (hφ : φ p.1 = p.2) (hv : ∀ x, x ∈ S.2 → S.1[x]?.getD 0 = (φ x : Int)) : ∃ S', exS n zs m ys a S p = some S' ∧ ∀ x, x ∈ S'.2 → S'.1[x]?.getD 0 = (φ x : Int) := by
  have hc := tm_lt ht (h.lt a ha) h1
  have hval : (tm m ys (S.1[a]?.getD 0).toNat p.2 : Int) = (φ (tm n zs a p.1) : Int) := by rw [hv a ha, Int.toNat_natCast, H.mul a p.1 (h.lt a ha) h1, hφ]
  by_cases hm : S.1[tm n zs a p.1]?.getD 0 = -1
  · refine ⟨_, if_pos hm, fun x hx => ?_⟩
    show (S.1.set _ _)[x]?.getD 0 = _
    rw [get_set (by rw [h.len]; exact hc)]
    by_cases he : x = tm n zs a p.1
    · rw [if_pos he, hval, he]
    · rw [if_neg he]
      rcases List.mem_append.1 hx with hx | hx
      · exact hv x hx
      · simp at hx; exact absurd hx he
  · have hin : tm n zs a p.1 ∈ S.2 := by
      by_cases hin : tm n zs a p.1 ∈ S.2
      · exact hin
      · exact absurd (h.no _ hc hin) hm
    refine ⟨S, ?_, hv⟩
    unfold exS
    rw [if_neg hm, if_pos (by rw [hval]; exact hv _ hin)]
theorem exI_hom (ht : IsTab n zs) (hu : IsTab m ys) (H : IsHom n zs m ys φ) {a : Nat} : ∀ (ps : List (Nat × Nat)) {S : List Int × List Nat}, XI n m S → a ∈ S.2 → (∀ p, p ∈ ps → p.1 < n ∧ p.2 < m ∧ φ p.1 = p.2) → (∀ x, x ∈ S.2 → S.1[x]?.getD 0 = (φ x : Int)) → ∃ S', exI n zs m ys a ps S = some S' ∧ ∀ x, x ∈ S'.2 → S'.1[x]?.getD 0 = (φ x : Int)
  | [], S, h, ha, hp, hv => ⟨S, rfl, hv⟩
  | p :: ps, S, h, ha, hp, hv => by
    obtain ⟨h1, h2, h3⟩ := hp p (by simp)
    obtain ⟨T, hT, hvT⟩ := exS_hom h ht H ha h1 h3 hv
    obtain ⟨g1, _, _⟩ := exS_grow h ht ha h1 hT
    have hX := (h.step hu ht ha h1 h2 hT).1
    obtain ⟨S', hS', hv'⟩ := exI_hom ht hu H ps hX (g1.mem ha) (fun q hq => hp q (by simp [hq])) hvT
    exact ⟨S', by simp only [exI, hT, hS'], hv'⟩
theorem exO_hom (ht : IsTab n zs) (hu : IsTab m ys) (H : IsHom n zs m ys φ) (hp : ∀ p, p ∈ ps → p.1 < n ∧ p.2 < m ∧ φ p.1 = p.2) : ∀ (f k : Nat) {S : List Int × List Nat}, XI n m S → (∀ x, x ∈ S.2 → S.1[x]?.getD 0 = (φ x : Int)) → ∃ S', exO n zs m ys ps f k S = some S' ∧ ∀ x, x ∈ S'.2 → S'.1[x]?.getD 0 = (φ x : Int)
  | 0, k, S, h, hv => ⟨S, rfl, hv⟩
  | f + 1, k, S, h, hv => by
    cases hk : S.2[k]? with
    | none => exact ⟨S, by simp only [exO, hk], hv⟩
    | some a =>
      have ha : a ∈ S.2 := List.mem_of_getElem? hk
      obtain ⟨T, hT, hvT⟩ := exI_hom ht hu H ps h ha hp hv
      obtain ⟨r1, _⟩ := exI_grow ht hu ps h ha (fun p hq => ⟨(hp p hq).1, (hp p hq).2.1⟩) hT
      obtain ⟨S', hS', hv'⟩ := exO_hom ht hu H hp f (k + 1) r1 hvT
      exact ⟨S', by simp only [exO, hk, hT, hS'], hv'⟩
theorem ext_of_hom (g : IsGrp n zs e) (h : IsGrp m ys d) (H : IsHom n zs m ys φ) (hp : ∀ p, p ∈ ps → p.1 < n ∧ φ p.1 = p.2) : ∃ S, ext n zs e m ys d ps = some S ∧ ∀ x, x ∈ S.2 → S.1[x]?.getD 0 = (φ x : Int) :=
  exO_hom g.tab h.tab H (fun p hq => ⟨(hp p hq).1, by rw [← (hp p hq).2]; exact H.lt _ (hp p hq).1, (hp p hq).2⟩) n 0 (XI.start g.elt h.elt) (fun x hx => by
    have : x = e := by simpa [ex0] using hx
    subst this
    show ((List.replicate n (-1 : Int)).set x (d : Int))[x]?.getD 0 = _
    rw [get_set (by simpa using g.elt), if_pos rfl, IsHom.one g h H])
end
end Go.Proofs.YtmgengplfebmjaaDoor

namespace Go.Proofs.YtmgengplfebmjaaDoor
open Go Go.RowKit

section
variable {n e m d : Nat} {zs ys : List Int} {ks : List Nat} {fit : List Int → Bool} {FP : (Nat → Nat) → Prop}
theorem li_map_inj {φ ψ : Nat → Nat} (h : li ((List.range n).map φ) = li ((List.range n).map ψ)) {a : Nat} (ha : a < n) : φ a = ψ a := by
  have := congrArg (fun l : List Int => l[a]?.getD 0) h
  simp [li, ha] at this
  omega
theorem zip_mem {ks js : List Nat} (hl : js.length ≤ ks.length) {p : Nat × Nat} (hp : p ∈ (ks.take js.length).zip js) : ∃ i, ∃ h : i < js.length, p = (ks[i]'(by omega), js[i]) := by
  obtain ⟨i, hi, he⟩ := List.mem_iff_getElem.1 hp
  have hi2 : i < js.length := by rw [List.length_zip] at hi; omega
  refine ⟨i, hi2, ?_⟩
  rw [← he]
  simp
theorem zip_fst {ks js : List Nat} (hl : js.length ≤ ks.length) : ((ks.take js.length).zip js).map Prod.fst = ks.take js.length := List.map_fst_zip (by rw [List.length_take]; omega)
/-- Which lists all yields: the homomorphisms that fit, and in which the images stand for the makers. -/
theorem homF_mem (g : IsGrp n zs e) (h : IsGrp m ys d) (hk : ∀ k, k ∈ ks → k < n) (hall : ∀ a, a < n → Mkd n zs e (fun x => decide (x ∈ ks)) a)
    (h1 : ∀ φ S (ps : List (Nat × Nat)), IsHom n zs m ys φ → FP φ → (∀ p, p ∈ ps → p.1 < n ∧ φ p.1 = p.2) → ext n zs e m ys d ps = some S → fit S.1 = true)
    (h2 : ∀ φ, IsHom n zs m ys φ → fit (li ((List.range n).map φ)) = true → FP φ) :
    ∀ (f : Nat) (js : List Nat) (L : List Int), js.length ≤ ks.length → ks.length + 1 ≤ f + js.length → (∀ j, j ∈ js → j < m) →
      (L ∈ homF n zs e m ys d ks fit f js ↔ ∃ φ, IsHom n zs m ys φ ∧ FP φ ∧ L = li ((List.range n).map φ) ∧ ∀ i (hi : i < js.length) (hi2 : i < ks.length), φ ks[i] = js[i])
  | 0, js, L, hl, hf, hj => by omega
  | f + 1, js, L, hl, hf, hj => by
    have hp : ∀ p, p ∈ (ks.take js.length).zip js → p.1 < n ∧ p.2 < m := fun p hp => by
      obtain ⟨i, hi, rfl⟩ := zip_mem hl hp
      exact ⟨hk _ (List.getElem_mem _), hj _ (List.getElem_mem _)⟩
    constructor
    · intro hL
      cases hR : ext n zs e m ys d ((ks.take js.length).zip js) with
      | none => rw [homF_none hR] at hL; cases hL
      | some S =>
        cases hfit : fit S.1 with
        | false => rw [homF_unfit hR hfit] at hL; cases hL
        | true =>
          by_cases hle : js.length = ks.length
          · rw [homF_full hR hfit hle] at hL
            have hL : L = S.1 := by simpa using hL
            obtain ⟨H, hS⟩ := ext_hom g h hp hR (by rw [zip_fst hl, hle, List.take_length]; exact hall)
            refine ⟨vl S, H, h2 _ H (by rw [← hS]; exact hfit), by rw [hL]; exact hS, fun i hi hi2 => ?_⟩
            have hm : (ks[i], js[i]) ∈ (ks.take js.length).zip js := by
              rw [hle, List.take_length]
              exact List.mem_iff_getElem.2 ⟨i, by rw [List.length_zip]; omega, by simp⟩
            exact ext_at g h hp hR hm
          · rw [homF_on hR hfit hle] at hL
            obtain ⟨b, hb, hL⟩ := List.mem_flatMap.1 hL
            obtain ⟨φ, H, hF, hLe, hag⟩ := (homF_mem g h hk hall h1 h2 f (js ++ [b]) L (by simp; omega) (by simp; omega) (fun j hjm => by
              rcases List.mem_append.1 hjm with hjm | hjm
              · exact hj j hjm
              · simp at hjm; rw [hjm]; exact List.mem_range.1 hb)).1 hL
            refine ⟨φ, H, hF, hLe, fun i hi hi2 => ?_⟩
            have := hag i (by simp; omega) hi2
            rwa [List.getElem_append_left hi] at this
    · rintro ⟨φ, H, hF, rfl, hag⟩
      have hpφ : ∀ p, p ∈ (ks.take js.length).zip js → p.1 < n ∧ φ p.1 = p.2 := fun p hp => by
        obtain ⟨i, hi, rfl⟩ := zip_mem hl hp
        exact ⟨hk _ (List.getElem_mem _), hag i hi (by omega)⟩
      obtain ⟨S, hR, hv⟩ := ext_of_hom g h H hpφ
      have hfit := h1 φ S _ H hF hpφ hR
      by_cases hle : js.length = ks.length
      · rw [homF_full hR hfit hle]
        obtain ⟨_, hS⟩ := ext_hom g h hp hR (by rw [zip_fst hl, hle, List.take_length]; exact hall)
        obtain ⟨r1, _⟩ := ext_grow g h hp hR
        have hin : ∀ a, a < n → a ∈ S.2 := fun a ha => (ext_made g h hp hR).2 (by rw [zip_fst hl, hle, List.take_length]; exact hall a ha)
        have : li ((List.range n).map φ) = S.1 := by
          rw [hS]
          unfold li
          rw [List.map_map, List.map_map]
          refine List.map_congr_left fun a ha => ?_
          have ha := List.mem_range.1 ha
          have h9 := hv a (hin a ha)
          show (φ a : Int) = (vl S a : Int)
          unfold vl
          omega
        rw [this]
        simp
      · rw [homF_on hR hfit hle]
        have hkl : js.length < ks.length := by omega
        refine List.mem_flatMap.2 ⟨φ ks[js.length], List.mem_range.2 (H.lt _ (hk _ (List.getElem_mem _))), ?_⟩
        refine (homF_mem g h hk hall h1 h2 f (js ++ [φ ks[js.length]]) _ (by simp; omega) (by simp; omega) (fun j hjm => by
          rcases List.mem_append.1 hjm with hjm | hjm
          · exact hj j hjm
          · simp at hjm; rw [hjm]; exact H.lt _ (hk _ (List.getElem_mem _)))).2 ⟨φ, H, hF, rfl, fun i hi hi2 => ?_⟩
        by_cases hij : i < js.length
        · rw [List.getElem_append_left hij]; exact hag i hij hi2
        · have : i = js.length := by simp at hi; omega
          subst this
          simp
theorem nodup_flat {F : Nat → List (List Int)} : ∀ k, (∀ b, b < k → (F b).Nodup) → (∀ b c L, b < k → c < k → L ∈ F b → L ∈ F c → b = c) → ((List.range k).flatMap F).Nodup
  | 0, _, _ => by simp
  | k + 1, h1, h2 => by
    rw [List.range_succ, List.flatMap_append]
    refine List.nodup_append.2 ⟨nodup_flat k (fun b hb => h1 b (by omega)) (fun b c L hb hc => h2 b c L (by omega) (by omega)), by simpa using h1 k (by omega), fun x hx y hy he => ?_⟩
    subst he
    obtain ⟨b, hb, hx⟩ := List.mem_flatMap.1 hx
    have hy : x ∈ F k := by simpa using hy
    have hb := List.mem_range.1 hb
    have := h2 b k x (by omega) (by omega) hx hy
    omega
/-- Each once. -/
theorem homF_nodup (g : IsGrp n zs e) (h : IsGrp m ys d) (hk : ∀ k, k ∈ ks → k < n) (hall : ∀ a, a < n → Mkd n zs e (fun x => decide (x ∈ ks)) a)
    (h1 : ∀ φ S (ps : List (Nat × Nat)), IsHom n zs m ys φ → FP φ → (∀ p, p ∈ ps → p.1 < n ∧ φ p.1 = p.2) → ext n zs e m ys d ps = some S → fit S.1 = true)
    (h2 : ∀ φ, IsHom n zs m ys φ → fit (li ((List.range n).map φ)) = true → FP φ) :
    ∀ (f : Nat) (js : List Nat), js.length ≤ ks.length → ks.length + 1 ≤ f + js.length → (∀ j, j ∈ js → j < m) → (homF n zs e m ys d ks fit f js).Nodup
  | 0, js, hl, hf, hj => by omega
  | f + 1, js, hl, hf, hj => by
    cases hR : ext n zs e m ys d ((ks.take js.length).zip js) with
    | none => rw [homF_none hR]; simp
    | some S =>
      cases hfit : fit S.1 with
      | false => rw [homF_unfit hR hfit]; simp
      | true =>
        by_cases hle : js.length = ks.length
        · rw [homF_full hR hfit hle]; simp
        · rw [homF_on hR hfit hle]
          have hkl : js.length < ks.length := by omega
          have hjb : ∀ b, b < m → ∀ j, j ∈ js ++ [b] → j < m := fun b hb j hjm => by
            rcases List.mem_append.1 hjm with hjm | hjm
            · exact hj j hjm
            · simp at hjm; rw [hjm]; exact hb
          refine nodup_flat m (fun b hb => homF_nodup g h hk hall h1 h2 f (js ++ [b]) (by simp; omega) (by simp; omega) (hjb b hb)) (fun b c L hb hc hLb hLc => ?_)
          obtain ⟨φ, _, _, e1, a1⟩ := (homF_mem g h hk hall h1 h2 f (js ++ [b]) L (by simp; omega) (by simp; omega) (hjb b hb)).1 hLb
          obtain ⟨ψ, _, _, e2, a2⟩ := (homF_mem g h hk hall h1 h2 f (js ++ [c]) L (by simp; omega) (by simp; omega) (hjb c hc)).1 hLc
          have h9 := a1 js.length (by simp) hkl
          have h8 := a2 js.length (by simp) hkl
          have h7 := li_map_inj (e1.symm.trans e2) (hk _ (List.getElem_mem hkl))
          simp at h9 h8
          omega
end
end Go.Proofs.YtmgengplfebmjaaDoor

namespace Go.Proofs.YtmgengplfebmjaaDoor
open Go Go.RowKit

theorem dd_mem {ls : List (List Int)} {x : List Int} : x ∈ dd ls ↔ x ∈ ls := by
  unfold dd kpt
  constructor
  · intro h
    obtain ⟨j, hj, rfl⟩ := List.mem_map.1 h
    have hj := List.mem_range.1 (List.mem_filter.1 hj).1
    rw [List.getElem?_eq_getElem hj, Option.getD_some]
    exact List.getElem_mem hj
  · intro h
    obtain ⟨i, hi, he⟩ := List.mem_iff_getElem.1 h
    have key : ∀ i, ∀ hi : i < ls.length, ∃ j, j < ls.length ∧ nw ls j = true ∧ ls[j]?.getD [] = ls[i] := by
      intro i
      induction i with
      | zero => exact fun hi => ⟨0, hi, by simp [nw], by rw [List.getElem?_eq_getElem hi]; rfl⟩
      | succ i ih =>
        intro hi
        by_cases hn : nw ls (i + 1) = true
        · exact ⟨i + 1, hi, hn, by rw [List.getElem?_eq_getElem hi]; rfl⟩
        · obtain ⟨j, h1, h2, h3⟩ := ih (by omega)
          refine ⟨j, h1, h2, ?_⟩
          have : ls[i + 1]?.getD [] = ls[i]?.getD [] := by
            simp only [nw, Nat.add_sub_cancel, Bool.or_eq_true, decide_eq_true_eq, not_or, Bool.not_eq_true', decide_eq_false_iff_not, Decidable.not_not] at hn
            exact hn.2
          rw [List.getElem?_eq_getElem hi, List.getElem?_eq_getElem (show i < ls.length by omega), Option.getD_some, Option.getD_some] at this
          rw [h3, this]
    obtain ⟨j, h1, h2, h3⟩ := key i hi
    exact List.mem_map.2 ⟨j, List.mem_filter.2 ⟨List.mem_range.2 h1, h2⟩, by rw [h3, he]⟩
theorem dd_nodup {ls : List (List Int)} (hs : srt ls) : (dd ls).Nodup := by
  unfold dd
  refine List.pairwise_map.2 ?_
  have h1 : (kpt ls ls.length).Pairwise (· < ·) := List.pairwise_lt_range.sublist List.filter_sublist
  refine h1.imp_of_mem ?_
  intro i j hi hj hij heq
  obtain ⟨_, hn⟩ := List.mem_filter.1 hj
  have hjl := List.mem_range.1 (List.mem_filter.1 hj).1
  have hne : ¬ ls[j]?.getD [] = ls[j - 1]?.getD [] := by
    simp only [nw, Bool.or_eq_true, decide_eq_true_eq, Bool.not_eq_true', decide_eq_false_iff_not] at hn
    rcases hn with hn | hn
    · omega
    · exact hn
  -- i ≤ j - 1 < j, the ends are the same, so the one between is the same
  have a1 : ¬ cmpL (ls[j]?.getD []) (ls[j - 1]?.getD []) < 0 := hs (j - 1) j (by omega) hjl
  by_cases hij1 : i = j - 1
  · exact hne (by rw [← heq, hij1])
  · have a2 : ¬ cmpL (ls[j - 1]?.getD []) (ls[i]?.getD []) < 0 := hs i (j - 1) (by omega) (by omega)
    rw [heq] at a2
    have a3 := cmpL_neg (ls[j - 1]?.getD []) (ls[j]?.getD [])
    exact hne ((cmpL_zero _ _).1 (by omega))
section
variable {n e : Nat} {zs : List Int}
theorem cjL_at {a x : Nat} (hx : x < n) : (cjL n zs e a)[x]?.getD 0 = (Fin.cj (tm n zs) (iv n zs e) x a : Int) := by simp [cjL, li, hx]
theorem cjL_iff {a b : Nat} : cjL n zs e a = cjL n zs e b ↔ ∀ x, x < n → Fin.cj (tm n zs) (iv n zs e) x a = Fin.cj (tm n zs) (iv n zs e) x b := by
  constructor
  · intro h x hx
    have := congrArg (fun l : List Int => l[x]?.getD 0) h
    simp only [cjL_at hx] at this
    omega
  · intro h
    unfold cjL li
    rw [List.map_map, List.map_map]
    exact List.map_congr_left fun x hx => by
      show ((Fin.cj (tm n zs) (iv n zs e) x a : Nat) : Int) = _
      rw [h x (List.mem_range.1 hx)]
      rfl
/-- Two things conjugate alike just where they differ by a central one. -/
theorem cj_same (g : IsGrp n zs e) {a b : Nat} (ha : a < n) (hb : b < n) : cjL n zs e a = cjL n zs e b ↔ ∃ c, c < n ∧ cenq n zs (fun _ => true) c = true ∧ tm n zs c a = b := by
  have F := grp_fg g
  have V := grp_iv g
  obtain ⟨i1, i2, i3, _⟩ := iv_spec g ha
  rw [cjL_iff]
  constructor
  · intro h
    refine ⟨tm n zs b (iv n zs e a), tm_lt g.tab hb i1, (cen_iff _).2 fun y hy => ?_, by rw [g.ass b _ a hb i1 ha, i3, g.right b hb]⟩
    have hy' := List.mem_range.1 hy
    have h1 := Fin.cj_eq F V hy (List.mem_range.2 hb)
    rw [← h y hy'] at h1
    -- b (a⁻¹ (y a)) = y b
    have h2 : tm n zs b (tm n zs (iv n zs e a) (tm n zs y a)) = tm n zs y b := h1
    have hya := tm_lt g.tab hy' ha
    have hiy := tm_lt g.tab i1 hy'
    have h3 : tm n zs (tm n zs b (iv n zs e a)) (tm n zs y a) = tm n zs y b := by rw [g.ass b _ _ hb i1 hya]; exact h2
    have h4 : tm n zs (tm n zs (tm n zs b (iv n zs e a)) (tm n zs y a)) (iv n zs e a) = tm n zs (tm n zs y b) (iv n zs e a) := congrArg (fun t => tm n zs t (iv n zs e a)) h3
    have hba := tm_lt g.tab hb i1
    rw [g.ass _ _ _ hba hya i1, g.ass y a _ hy' ha i1, i2, g.right y hy', g.ass y b _ hy' hb i1] at h4
    exact h4
  · rintro ⟨c, hc, hcen, rfl⟩ x hx
    have hcen := (cen_iff _).1 hcen
    have h1 := Fin.cj_cj F V (List.mem_range.2 hx) (List.mem_range.2 hc) (List.mem_range.2 ha)
    have h2 : Fin.cj (tm n zs) (iv n zs e) x c = x := Fin.cj_unique F V (List.mem_range.2 hx) (List.mem_range.2 hx) (List.mem_range.2 hc) (hcen x (List.mem_range.2 hx))
    rw [h2] at h1
    exact h1
theorem inn_mem {x : List Int} : x ∈ innL n zs e ↔ ∃ a, a < n ∧ x = cjL n zs e a := by
  constructor
  · intro h
    obtain ⟨a, ha, rfl⟩ := List.mem_map.1 h
    exact ⟨a, List.mem_range.1 ha, rfl⟩
  · rintro ⟨a, ha, rfl⟩
    exact List.mem_map.2 ⟨a, List.mem_range.2 ha, rfl⟩
/-- As many inner automorphisms as the centre has cosets. -/
theorem inn_many (g : IsGrp n zs e) {ms : List (List Int)} (hp : ms.Perm (innL n zs e)) (hs : srt ms) : n = (dd ms).length * (lst n (cenq n zs (fun _ => true))).length := by
  have hmem : ∀ x, x ∈ dd ms ↔ ∃ a, a < n ∧ x = cjL n zs e a := fun x => by rw [dd_mem, hp.mem_iff, inn_mem]
  have hnd := dd_nodup hs
  have h0 := Fin.fib_len (fun b => (dd ms).idxOf (cjL n zs e b)) (lst n (cenq n zs (fun _ => true))).length (List.range (dd ms).length) (List.range n) List.nodup_range (fun b hb => by
    have hb := List.mem_range.1 hb
    exact List.mem_range.2 (List.idxOf_lt_length_iff.2 ((hmem _).2 ⟨b, hb, rfl⟩))) (fun k hk => by
    have hk := List.mem_range.1 hk
    obtain ⟨a, ha, hka⟩ := (hmem _).1 (List.getElem_mem hk)
    have hfa : ∀ b, b < n → ((dd ms).idxOf (cjL n zs e b) = k ↔ cjL n zs e a = cjL n zs e b) := fun b hb => by
      constructor
      · intro h9
        have hin := (hmem _).2 ⟨b, hb, rfl⟩
        have := List.getElem_idxOf (List.idxOf_lt_length_iff.2 hin)
        rw [← hka, ← this]
        congr 1
        exact h9.symm
      · intro h9
        rw [← h9, ← hka]
        exact hnd.idxOf_getElem k hk
    symm
    refine Fin.bij_len (fun c => tm n zs c a) (List.nodup_range.sublist List.filter_sublist) (List.nodup_range.sublist List.filter_sublist) (fun c hc => ?_) (fun c c' hc hc' h9 => ?_) (fun b hb => ?_)
    · obtain ⟨hc1, hc2⟩ := mem_lst.1 hc
      have hca := tm_lt g.tab hc1 ha
      exact List.mem_filter.2 ⟨List.mem_range.2 hca, decide_eq_true ((hfa _ hca).2 ((cj_same g ha hca).2 ⟨c, hc1, hc2, rfl⟩))⟩
    · exact grp_cancel_right g ha (mem_lst.1 hc).1 (mem_lst.1 hc').1 h9
    · obtain ⟨hb1, hb2⟩ := List.mem_filter.1 hb
      have hb1 := List.mem_range.1 hb1
      obtain ⟨c, h1, h2, h3⟩ := (cj_same g ha hb1).1 ((hfa b hb1).1 (of_decide_eq_true hb2))
      exact ⟨c, mem_lst.2 ⟨h1, h2⟩, h3⟩)
  rw [List.length_range, List.length_range] at h0
  exact h0
end
end Go.Proofs.YtmgengplfebmjaaDoor

namespace Go.Proofs.YtmgengplfebmjaaDoor
open Go Go.RowKit

set_option maxRecDepth 100000 in
set_option maxHeartbeats 4000000 in
theorem inner_bad (N : Int) (v : Value) (zs : List Int) (w : World) (hv : Sl w v zs) (hc : (gfault N zs).1 ≠ 0) :
    Calls Tryd.prog 33 #[.agg #[.int .i64 N, v]] w fun x w' => x = .returned (.tuple #[.slice none 0 0, .agg #[.int .i64 (gfault N zs).1, .int .i64 (gfault N zs).2]]) ∧ Below w.heap.size w w' := by
  obtain ⟨w0, BG⟩ := Beg.new w N v
  have HCK := hide (opened_bad N v zs w0 (hv.below BG.bel) hc)
  obtain ⟨c, i, hci⟩ : ∃ c i, gfault N zs = (c, i) := ⟨_, _, rfl⟩
  rw [hci] at HCK hc ⊢
  simp only at HCK hc ⊢
  clear hci
  have hcb : (c != 0) = true := by simpa using hc
  obtain ⟨e0, e1, _, _⟩ := BG.box.two
  rw [BG.eq] at e0 e1
  go_enter Tryd.func33, Tryd.ntmps33
  go_wp2_with fail
  rw [← BG.eq]
  clear e0 e1
  refine HCK.out.mono ?_
  rintro x w1 ⟨rfl, hb1⟩
  obtain ⟨w2, hw2⟩ : ∃ w2, w2 = (w1.alloc (.cells #[.int .i64 0, .slice none 0 0, .int .i64 0, .slice none 0 0] 67)).alloc (.cells #[.int .i64 c, .int .i64 i] 27) := ⟨_, rfl⟩
  have hB1 : Below w0.heap.size w0 w2 := by rw [hw2]; exact bcat2 hb1 ((balloc w1 _).alloc (by simp) _)
  have hF1 : Blk w2 (w1.heap.size + 1) 27 [.int .i64 c, .int .i64 i] := by
    rw [hw2]
    have := blk0 (w := w1.alloc (.cells #[.int .i64 0, .slice none 0 0, .int .i64 0, .slice none 0 0] 67)) (T := 27) (.int .i64 c) (.int .i64 i)
    rwa [World.size_alloc] at this
  have hR1 := blk_below BG.res hB1
  have hBw := bcat BG.bel hB1 BG.bel.size
  subst hw2
  obtain ⟨y0, y1, fy0, fy1⟩ := hR1.two
  obtain ⟨t0, t1, _, _⟩ := hF1.two
  obtain ⟨hR6, hB6⟩ := put2 hR1 hBw (by omega) c i
  obtain ⟨z0, z1, _, _⟩ := hR6.two
  go_wp2
  go_region
  go_wp2
  exact bodyPost_ret (v := .tuple #[.slice none 0 0, .agg #[.int .i64 c, .int .i64 i]]) (by simp [results, Tryd.results33, go_sem, z0, z1]) rfl ⟨rfl, bdrew hB6⟩
set_option maxRecDepth 100000 in
set_option maxHeartbeats 4000000 in
theorem autos_bad (N : Int) (v : Value) (zs : List Int) (w : World) (hv : Sl w v zs) (hc : (gfault N zs).1 ≠ 0) :
    Calls Tryd.prog 32 #[.agg #[.int .i64 N, v]] w fun x w' => x = .returned (.tuple #[.slice none 0 0, .agg #[.int .i64 (gfault N zs).1, .int .i64 (gfault N zs).2]]) ∧ Below w.heap.size w w' := by
  obtain ⟨w0, BG⟩ := Beg.new w N v
  have HCK := hide (opened_bad N v zs w0 (hv.below BG.bel) hc)
  obtain ⟨c, i, hci⟩ : ∃ c i, gfault N zs = (c, i) := ⟨_, _, rfl⟩
  rw [hci] at HCK hc ⊢
  simp only at HCK hc ⊢
  clear hci
  have hcb : (c != 0) = true := by simpa using hc
  obtain ⟨e0, e1, _, _⟩ := BG.box.two
  rw [BG.eq] at e0 e1
  go_enter Tryd.func32, Tryd.ntmps32
  go_wp2_with fail
  rw [← BG.eq]
  clear e0 e1
  refine HCK.out.mono ?_
  rintro x w1 ⟨rfl, hb1⟩
  obtain ⟨w2, hw2⟩ : ∃ w2, w2 = (w1.alloc (.cells #[.int .i64 0, .slice none 0 0, .int .i64 0, .slice none 0 0] 67)).alloc (.cells #[.int .i64 c, .int .i64 i] 27) := ⟨_, rfl⟩
  have hB1 : Below w0.heap.size w0 w2 := by rw [hw2]; exact bcat2 hb1 ((balloc w1 _).alloc (by simp) _)
  have hF1 : Blk w2 (w1.heap.size + 1) 27 [.int .i64 c, .int .i64 i] := by
    rw [hw2]
    have := blk0 (w := w1.alloc (.cells #[.int .i64 0, .slice none 0 0, .int .i64 0, .slice none 0 0] 67)) (T := 27) (.int .i64 c) (.int .i64 i)
    rwa [World.size_alloc] at this
  have hR1 := blk_below BG.res hB1
  have hBw := bcat BG.bel hB1 BG.bel.size
  subst hw2
  obtain ⟨y0, y1, fy0, fy1⟩ := hR1.two
  obtain ⟨t0, t1, _, _⟩ := hF1.two
  obtain ⟨hR6, hB6⟩ := put2 hR1 hBw (by omega) c i
  obtain ⟨z0, z1, _, _⟩ := hR6.two
  go_wp2
  go_region
  go_wp2
  exact bodyPost_ret (v := .tuple #[.slice none 0 0, .agg #[.int .i64 c, .int .i64 i]]) (by simp [results, Tryd.results32, go_sem, z0, z1]) rfl ⟨rfl, bdrew hB6⟩
set_option maxRecDepth 100000 in
set_option maxHeartbeats 4000000 in
theorem autos_many (n e : Nat) (v : Value) (zs : List Int) (w : World) (hv : Sl w v zs) (hg : IsGrp n zs e) (h24 : 24 < n) :
    Calls Tryd.prog 32 #[.agg #[.int .i64 n, v]] w fun x w' => x = .returned (.tuple #[.slice none 0 0, .agg #[.int .i64 2, .int .i64 0]]) ∧ Below w.heap.size w w' := by
  obtain ⟨va, vn, vc, rfl⟩ := hv.isSlice
  have h24i : (24 : Int) < (n : Int) := by omega
  obtain ⟨w0, BG⟩ := Beg.new w n (.slice va vn vc)
  have HCK := hide (opened_good n e (.slice va vn vc) zs w0 (hv.below BG.bel) hg)
  obtain ⟨c0, c1, _, _⟩ := BG.box.two
  rw [BG.eq] at c0 c1
  go_enter Tryd.func32, Tryd.ntmps32
  go_wp2_with fail
  rw [← BG.eq]
  clear c0 c1
  refine HCK.out.mono ?_
  rintro x w1 ⟨iv9, rfl, hSI, hb1⟩
  obtain ⟨ia, il, ic, rfl⟩ := hSI.sl.isSlice
  obtain ⟨w2, hw2⟩ : ∃ w2, w2 = (w1.alloc (.cells #[.int .i64 n, .slice va vn vc, .int .i64 e, .slice ia il ic] 67)).alloc (.cells #[.int .i64 0, .int .i64 0] 27) := ⟨_, rfl⟩
  have hB1 : Below w0.heap.size w0 w2 := by rw [hw2]; exact bcat2 hb1 ((balloc w1 _).alloc (by simp) _)
  have hF1 : Blk w2 (w1.heap.size + 1) 27 [.int .i64 0, .int .i64 0] := by
    rw [hw2]
    have := blk0 (w := w1.alloc (.cells #[.int .i64 n, .slice va vn vc, .int .i64 e, .slice ia il ic] 67)) (T := 27) (.int .i64 0) (.int .i64 0)
    rwa [World.size_alloc] at this
  have hR1 := blk_below BG.res hB1
  have hX1 := blk_below BG.box hB1
  have hBw := bcat BG.bel hB1 BG.bel.size
  subst hw2
  obtain ⟨y0, y1, fy0, fy1⟩ := hR1.two
  obtain ⟨t0, t1, _, _⟩ := hF1.two
  obtain ⟨g0, g1, _, _⟩ := hX1.two
  obtain ⟨hR6, hB6⟩ := put2 hR1 hBw (by omega) 2 0
  obtain ⟨z0, z1, _, _⟩ := hR6.two
  go_wp2
  exact bodyPost_ret (v := .tuple #[.slice none 0 0, .agg #[.int .i64 2, .int .i64 0]]) (by simp [results, Tryd.results32, go_sem, z0, z1]) rfl ⟨rfl, hB6⟩
end Go.Proofs.YtmgengplfebmjaaDoor

namespace Go.Proofs.YtmgengplfebmjaaDoor
open Go Go.RowKit

theorem lm_take {n e : Nat} {zs : List Int} {ks js : List Nat} (h : LM n zs e ks) (k : LM n zs e js) (g2 : ∀ a, a < n → Mkd n zs e (fun x => decide (x ∈ js)) a) : ∀ i, i ≤ ks.length → i ≤ js.length ∧ ks.take i = js.take i
  | 0, _ => ⟨Nat.zero_le _, by simp⟩
  | i + 1, hi => by
    obtain ⟨h1, h2⟩ := lm_take h k g2 i (by omega)
    have hk : ks[i]? = some ks[i] := List.getElem?_eq_getElem (by omega)
    obtain ⟨a1, a2⟩ := h.step i _ hk
    by_cases hl : i < js.length
    · have hj : js[i]? = some js[i] := List.getElem?_eq_getElem hl
      obtain ⟨b1, b2⟩ := k.step i _ hj
      rw [← h2] at b1 b2
      have he : ks[i] = js[i] := by
        rcases Nat.lt_trichotomy ks[i] js[i] with h9 | h9 | h9
        · exact absurd (b2 _ h9) a1
        · exact h9
        · exact absurd (a2 _ h9) b1
      refine ⟨hl, ?_⟩
      rw [List.take_succ_eq_append_getElem (by omega), List.take_succ_eq_append_getElem hl, h2, he]
    · have hil : js.take i = js := List.take_of_length_le (by omega)
      rw [h2, hil] at a1
      exact absurd (g2 _ (h.lt _ (List.getElem_mem (by omega)))) a1
theorem lm_unique {n e : Nat} {zs : List Int} {ks js : List Nat} (h : LM n zs e ks) (k : LM n zs e js) (g1 : ∀ a, a < n → Mkd n zs e (fun x => decide (x ∈ ks)) a) (g2 : ∀ a, a < n → Mkd n zs e (fun x => decide (x ∈ js)) a) : ks = js := by
  obtain ⟨h1, h2⟩ := lm_take h k g2 ks.length (Nat.le_refl _)
  obtain ⟨h3, _⟩ := lm_take k h g1 js.length (Nat.le_refl _)
  have : ks.length = js.length := by omega
  rw [List.take_length, this, List.take_length] at h2
  exact h2
end Go.Proofs.YtmgengplfebmjaaDoor

namespace Go.Proofs.YtmgengplfebmjaaDoor
open Go Go.RowKit

set_option maxRecDepth 100000 in
set_option maxHeartbeats 8000000 in
theorem autos_much (n e : Nat) (v : Value) (zs : List Int) (w : World) (hv : Sl w v zs) (hg : IsGrp n zs e) (hT : Tab w) (h24 : n ≤ 24) (hmuch : ∀ ks, LM n zs e ks → (∀ a, a < n → Mkd n zs e (fun x => decide (x ∈ ks)) a) → 1000 < (autL n zs e ks).length) :
    Calls Tryd.prog 32 #[.agg #[.int .i64 n, v]] w fun x w' => x = .returned (.tuple #[.slice none 0 0, .agg #[.int .i64 9, .int .i64 0]]) ∧ Below w.heap.size w w' := by
  obtain ⟨va, vl, vc, rfl⟩ := hv.isSlice
  have hn := hg.tab.le
  have h24i : ¬ ((24 : Int) < (n : Int)) := by omega
  obtain ⟨w0, BG⟩ := Beg.new w n (.slice va vl vc)
  have HCK := hide (opened_good n e (.slice va vl vc) zs w0 (hv.below BG.bel) hg)
  have hen := hg.elt
  obtain ⟨c0, c1, _, _⟩ := BG.box.two
  rw [BG.eq] at c0 c1
  go_enter Tryd.func32, Tryd.ntmps32
  go_wp2_with fail
  rw [← BG.eq]
  clear c0 c1
  refine HCK.out.mono ?_
  rintro x w1 ⟨iv9, rfl, hSI, hb1⟩
  obtain ⟨ia, il, ic, rfl⟩ := hSI.sl.isSlice
  obtain ⟨w2, hw2⟩ : ∃ w2, w2 = (w1.alloc (.cells #[.int .i64 n, (.slice va vl vc), .int .i64 e, (.slice ia il ic)] 67)).alloc (.cells #[.int .i64 0, .int .i64 0] 27) := ⟨_, rfl⟩
  have hb2 : Below w1.heap.size w1 w2 := by rw [hw2]; exact (balloc w1 _).alloc (by simp) _
  have hB1 : Below w0.heap.size w0 w2 := bcat2 hb1 hb2
  have hF1 : Blk w2 (w1.heap.size + 1) 27 [.int .i64 0, .int .i64 0] := by
    rw [hw2]
    have := blk0 (w := w1.alloc (.cells #[.int .i64 n, (.slice va vl vc), .int .i64 e, (.slice ia il ic)] 67)) (T := 27) (.int .i64 0) (.int .i64 0)
    rwa [World.size_alloc] at this
  have hH2 : Blk w2 w1.heap.size 67 [.int .i64 n, (.slice va vl vc), .int .i64 e, (.slice ia il ic)] := by
    rw [hw2]; exact (blk4 _ _ _ _).alloc _
  have hBw2 := bcat BG.bel hB1 BG.bel.size
  have hR2 := blk_below BG.res hB1
  have hX2 := blk_below BG.box hB1
  have hGA : GA w2 n (.slice va vl vc) e (.slice ia il ic) zs := ⟨hg, hv.below hBw2, hSI.sl.below hb2⟩
  have HLM := hide (fun W (h : Below w2.heap.size w2 W) => lm_ok' n e (.slice va vl vc) (.slice ia il ic) zs W (hGA.below h) ((hT.below hBw2).below h))
  have HSG := hide (fun W k1 k2 k3 => single_ok n e n e (.slice va vl vc) (.slice ia il ic) (.slice va vl vc) (.slice ia il ic) k1 k2 k3 W hn hen)
  have HLI := hide (fun (W : World) (ks : List Nat) (k1 : Option Addr) (k3 kb pb fb pc ab A : Nat) (h : Below w2.heap.size w2 W) (hk : Sl W (.slice k1 ks.length k3) (li ks)) (hLM : LM n zs e ks) (hgen : ∀ a, a < n → Mkd n zs e (fun x => decide (x ∈ ks)) a)
      (hA : Alls A W [.int .i64 n, (.slice va vl vc), .int .i64 e, (.slice ia il ic), .int .i64 n, (.slice va vl vc), .int .i64 e, (.slice ia il ic)] (.slice k1 ks.length k3) (.func (.func 104) #[] #[.pointer (some ⟨pc, 0, none⟩), .pointer (some ⟨ab, 0, none⟩)]) kb pb fb)
      (hpc : Blk W pc 83 [.int .i64 n, (.slice va vl vc), .int .i64 e, (.slice ia il ic), .int .i64 n, (.slice va vl vc), .int .i64 e, (.slice ia il ic)]) (hab : Boxed W ab 73 (.int .u64 (bs (fun a => decide (a = e)) n))) =>
    show Calls Tryd.prog 70 #[.func (.func 101) #[] #[.pointer (some ⟨kb, 0, none⟩), .pointer (some ⟨pb, 0, none⟩), .pointer (some ⟨fb, 0, none⟩)]] W (fun x w' => x = .returned (.tuple #[.slice none 0 0, .agg #[.int .i64 9, .int .i64 0]]) ∧ Below W.heap.size W w') from
      (listed_ok (f0 := 104) hg hg (hGA.below h).mul (hGA.below h).mul hk hLM.lt hLM.fits hA (fun a W => call113 a _ _ W) (fun W9 g ms hW9 hb9 hl9 =>
        sng1_ok n e n e pc ab (.slice va vl vc) (.slice ia il ic) (.slice va vl vc) (.slice ia il ic) (.slice (some ⟨g, 0, none⟩) n n) ms W9 hn (Sl.of_blk hb9 hl9.symm (by omega)) hl9 (blk_below hpc hW9) (Boxed.below hab hW9))).mono (fun x w' hp => by
        exact ⟨hp.much (hmuch ks hLM hgen), hp.bel⟩))
  obtain ⟨t0, t1, _, _⟩ := hF1.two
  obtain ⟨g0, g1, _, _⟩ := hX2.two
  rw [hw2] at t0 t1 g0 g1
  clear hmuch
  go_wp2_with fail
  rw [← hw2]
  clear hw2 t0 t1 g0 g1
  have hw1s : w.heap.size + 1 < w1.heap.size := by have := BG.res.lt; have := hb1.size; omega
  have hS : ∀ W9, Below w2.heap.size w2 W9 → ((fun W9 => Below w.heap.size w W9 ∧ W9.cell? ⟨w1.heap.size, 0, none⟩ = some (.int .i64 n) ∧ W9.cell? ⟨w1.heap.size, 1, none⟩ = some (.slice va vl vc) ∧ W9.cell? ⟨w1.heap.size, 2, none⟩ = some (.int .i64 e) ∧ W9.cell? ⟨w1.heap.size, 3, none⟩ = some (.slice ia il ic)) W9) := fun W9 h => by
    obtain ⟨_, h0, h1, h2, h3, _⟩ := Four.mk' hH2
    exact ⟨bcat2 hBw2 h, below_cell h h0, below_cell h h1, below_cell h h2, below_cell h h3⟩
  have hS3 : ∀ W8, Below w2.heap.size w2 W8 → ((fun W9 => Below w.heap.size w W9 ∧ W9.cell? ⟨w1.heap.size, 0, none⟩ = some (.int .i64 n) ∧ W9.cell? ⟨w1.heap.size, 1, none⟩ = some (.slice va vl vc) ∧ W9.cell? ⟨w1.heap.size, 2, none⟩ = some (.int .i64 e) ∧ W9.cell? ⟨w1.heap.size, 3, none⟩ = some (.slice ia il ic)) ((W8.setCell ⟨w.heap.size + 1, 0, none⟩ (.int .i64 9)).setCell ⟨w.heap.size + 1, 1, none⟩ (.int .i64 0))) := fun W8 h => by
    have hH9 : Blk ((W8.setCell ⟨w.heap.size + 1, 0, none⟩ (.int .i64 9)).setCell ⟨w.heap.size + 1, 1, none⟩ (.int .i64 0)) w1.heap.size 67 [.int .i64 n, .slice va vl vc, .int .i64 e, .slice ia il ic] := ((blk_below hH2 h).other (p := ⟨w.heap.size + 1, 0, none⟩) (show w1.heap.size ≠ w.heap.size + 1 by omega) _).other (p := ⟨w.heap.size + 1, 1, none⟩) (show w1.heap.size ≠ w.heap.size + 1 by omega) _
    obtain ⟨_, h0, h1, h2, h3, _⟩ := Four.mk' hH9
    exact ⟨bSet (bSet (bcat2 hBw2 h) (by omega)) (by omega), h0, h1, h2, h3⟩
  have hS0 := hS _ (bdrew (Below.refl _ w2))
  go_region_held3 (fun W9 => Below w.heap.size w W9 ∧ W9.cell? ⟨w1.heap.size, 0, none⟩ = some (.int .i64 n) ∧ W9.cell? ⟨w1.heap.size, 1, none⟩ = some (.slice va vl vc) ∧ W9.cell? ⟨w1.heap.size, 2, none⟩ = some (.int .i64 e) ∧ W9.cell? ⟨w1.heap.size, 3, none⟩ = some (.slice ia il ic))
    (first | exact hS0 | assumption | exact hS3 _ hx5 | exact hS _ hx5 | exact hS _ hx4 | exact hS _ hx3)
    (first
      | (go_at_call 72; refine (HLM.out _ (bdrew (Below.refl _ w2))).mono ?_; rintro e3 w3 ⟨ks, k1, k3, rfl, hK3, hLM, hgen, hl3⟩; have hx3 := undrew' hl3)
      | (go_at_call 77; refine (HSG.out _ _ _ _).mono ?_; rintro e4 w4 ⟨kb, pb, fb, pc, ab, rfl, hA4, hpc4, hab4, _, _, _, hl4⟩; have hx4 := bcat2 hx3 hl4)
      | (go_at_call 70; refine (HLI.out _ ks _ _ _ _ _ _ _ _ hx4 (hK3.below hl4) hLM hgen hA4 hpc4 hab4).mono ?_; rintro e5 w5 ⟨rfl, hl5⟩; have hx5 := bcat2 hx4 hl5; obtain ⟨y0, y1, fy0, fy1⟩ := (blk_below hR2 hx5).two))
  all_goals (
    obtain ⟨hR6, hB6⟩ := put2 (blk_below hR2 hx5) (bcat2 hBw2 hx5) (by omega) 9 0
    obtain ⟨z0, z1, _, _⟩ := hR6.two
    go_wp2
    exact bodyPost_ret (v := .tuple #[.slice none 0 0, .agg #[.int .i64 9, .int .i64 0]]) (by simp [results, Tryd.results32, go_sem, z0, z1]) rfl ⟨rfl, hB6⟩)
end Go.Proofs.YtmgengplfebmjaaDoor

namespace Go.Proofs.YtmgengplfebmjaaDoor
open Go Go.RowKit

set_option maxRecDepth 100000 in
set_option maxHeartbeats 2000000 in
theorem then_ok (u v : Value) (xs ys : List Int) (w : World) (hu : Sl w u xs) (hv : Sl w v ys) (hx : ∀ k, k < xs.length → ∃ x : Nat, xs[k]?.getD 0 = (x : Int) ∧ x < ys.length) (h1000 : xs.length ≤ 1000) :
    Calls Tryd.prog 44 #[u, v] w fun e w' => ∃ r, e = .returned r ∧ Row w' w.heap.size r (xs.map fun x => ys[x.toNat]?.getD 0) ∧ Below w.heap.size w w' := by
  obtain ⟨i0, hi, hz0, hz1, hz2⟩ := info_parts info3b
  obtain ⟨a, cap, pb, po, rfl, hr, hp, hq3, hq4⟩ := hu
  obtain ⟨b, cap', qb, qo, rfl, hs, hq, hq7, hq8⟩ := hv
  have hyl : ys.length ≤ 9223372036854775807 := by unfold maxLen at hq8; omega
  have HX := hide hx
  obtain ⟨M, hM⟩ : ∃ M, M = xs.map fun x => ys[x.toNat]?.getD 0 := ⟨_, rfl⟩
  have HML := hide (show M.length = xs.length by rw [hM, List.length_map])
  have HMG := hide (fun k (hk : k < xs.length) (x : Nat) (h : xs[k]?.getD 0 = (x : Int)) => show M[k]?.getD 0 = ys[x]?.getD 0 by
    rw [List.getElem?_eq_getElem hk, Option.getD_some] at h
    rw [hM, List.getElem?_map, List.getElem?_eq_getElem hk]
    simp [h])
  rw [← hM]
  clear hM hx
  go_enter Tryd.func44, Tryd.ntmps44
  go_wp2
  go_loopw [5, 6] (fun v i wr => ∃ k : Nat, k ≤ xs.length ∧ i = .int .i64 k ∧ Row wr w.heap.size v (M.take k) ∧ Below w.heap.size w wr)
    (fun _ i _ => xs.length - (intOf i).toNat)
  case atStart => exact ⟨0, Nat.zero_le _, rfl, World.ownsRow_nil _ _ _ _, Below.refl _ _⟩
  case round =>
    obtain ⟨k, hk, rfl, hown, hB⟩ := hrel
    obtain ⟨v, rfl⟩ : ∃ v, v = u5 := ⟨_, rfl⟩
    have hBs := hB.size
    by_cases hlt : k < xs.length
    · have hil : (M.take k).length = k := by rw [List.length_take, HML.out]; omega
      obtain ⟨x, hxe, hxl⟩ := HX.out k hlt
      have hcx := (hr.below hB hp).cell k hlt
      have hcy := (hs.below hB hq).cell x hxl
      rw [hxe] at hcx
      obtain rfl := hr.at_ (by omega)
      obtain rfl := hs.at_ (by omega)
      have hsn : M.take (k + 1) = M.take k ++ [ys[x]?.getD 0] := by
        have h9 : k < M.length := by rw [HML.out]; exact hlt
        rw [List.take_succ_eq_append_getElem h9, ← HMG.out k hlt x hxe, List.getElem?_eq_getElem h9, Option.getD_some]
      have HIL := hide hil
      have HSN := hide hsn
      clear hil hsn hxe
      generalize ys[x]?.getD 0 = y at hcy HSN
      have hx1 : (x : Int) < (ys.length : Int) := by omega
      go_wp2_with (first
        | (at_builtin; refine wpList_append_own _ rfl _ _ 22 rfl w.heap.size 3 i0 (.int .i64 0) 1 8 under22b hi hz0 hz1 hz2 rfl (by decide) _ _ _ rfl (World.ownsRow.alloc hown _) ⟨wr.heap.size, 0, none⟩ 1 1 [.int .i64 y] rfl rfl ?c1 ?c2 ?c3 ?c4 ?c5 ?_))
      case c1 => exact cell_one_new _ _ _
      case c2 => simp [Value.oneCell']
      case c3 => unfold maxLen; have := HIL.out; omega
      case c4 => have := HIL.out; omega
      case c5 => simp; omega
      intro v' w2 hown' hgrow _
      obtain ⟨g', cap', rfl⟩ := ownsRow_succ hown'
      have hB2 : Below w.heap.size w w2 := (hB.alloc hBs _).grown hgrow (by simp; omega) (fun j e => owns_ge hown j e)
      have hown5 : Row w2 w.heap.size (.slice (some ⟨g', 0, none⟩) ((M.take k).length + 1) cap') (M.take (k + 1)) := by
        unfold Row
        rw [HSN.out]; simpa using hown'
      clear hown' hgrow hown
      go_wp2
      go_roundw
      case rel => exact ⟨k + 1, by omega, by go_num, by rw [← List.length_take]; exact hown5, hB2⟩
      case measure => simp [intOf]; omega
    · have hli : ¬ (k : Int) < (xs.length : Int) := by omega
      rw [List.take_of_length_le (by rw [HML.out]; omega)] at hown
      go_wp2
      go_ret
      exact ⟨_, rfl, hown, hB⟩
end Go.Proofs.YtmgengplfebmjaaDoor

namespace Go.Proofs.YtmgengplfebmjaaDoor
open Go Go.RowKit

theorem call113c (a : Int) (x y : Value) (W : World) : Sem.run Tryd.prog (callFunc 106 (#[.int .i64 a] ++ #[x, y])) W = .ok (.enter 106 (#[.int .i64 a] ++ #[x, y])) W := by kernel_rfl
set_option maxRecDepth 100000 in
set_option maxHeartbeats 2000000 in
theorem cen1_ok (n : Nat) (v u lv : Value) (zs : List Int) (e a lb gb : Nat) (xs : List Nat) (w : World) (hG : GA w n v e u zs) (ha : a < n) (hl : Boxed w lb 22 lv) (hs : Sl w lv (li xs)) (hx : ∀ x, x ∈ xs → x < n) (hb : Box4 w gb n e v u) :
    Calls Tryd.prog 106 (#[.int .i64 a] ++ #[.pointer (some ⟨lb, 0, none⟩), .pointer (some ⟨gb, 0, none⟩)]) w fun y w' => y = .returned (.bool (xs.all fun x => decide (tm n zs a x = tm n zs x a))) ∧ Below w.heap.size w w' := by
  show Calls Tryd.prog 106 #[.int .i64 a, .pointer (some ⟨lb, 0, none⟩), .pointer (some ⟨gb, 0, none⟩)] w _
  obtain ⟨la, cap, pb, po, rfl, hr, hp, hq3, hq4⟩ := hs
  have hml : xs.length ≤ 9223372036854775807 := by rw [li_len] at hq3; unfold maxLen at hq4; omega
  have hlc := hl.cell
  rw [li_len] at *
  have HX := hide hx
  have HR := hide hr
  have HLL := hide (li_len xs)
  clear hq3 hq4 hx hr
  go_enter Tryd.func106, Tryd.ntmps106
  go_wp2
  clear hlc
  go_loopw [9] (fun i wr => ∃ k : Nat, k ≤ xs.length ∧ i = .int .i64 k ∧ (∀ t, (ht : t < xs.length) → t < k → tm n zs a xs[t] = tm n zs xs[t] a) ∧ Below w.heap.size w wr) (fun i _ => xs.length - (intOf i).toNat)
  case atStart => exact ⟨0, Nat.zero_le _, rfl, fun t _ ht => by omega, Below.refl _ _⟩
  case round =>
    obtain ⟨k, hk, rfl, hno, hB⟩ := hrel
    have HNO := hide hno
    clear hno
    by_cases hlt : k < xs.length
    · have hck := (HR.out.below hB hp).cell k (by rw [HLL.out]; exact hlt)
      rw [li_get hlt] at hck
      obtain rfl := HR.out.at_ (by rw [HLL.out]; omega)
      obtain ⟨x, hxe⟩ : ∃ x, xs[k] = x := ⟨_, rfl⟩
      have hxn : x < n := by rw [← hxe]; exact HX.out _ (List.getElem_mem hlt)
      rw [hxe] at hck
      have HXE := hide hxe
      clear hxe
      have hGr := hG.below hB
      have hbr := hb.below hB
      have HP := hide (fun W y z (h : Below wr.heap.size wr W) (hy : y < n) (hz : z < n) => prd_ok n v u zs e y z W hG.grp.tab (hGr.mul.below h) hy hz)
      have hS : ∀ W, Below wr.heap.size wr W → (Below wr.heap.size wr W ∧ W.cell? ⟨gb, 0, none⟩ = some (.int .i64 n) ∧ W.cell? ⟨gb, 1, none⟩ = some v ∧ W.cell? ⟨gb, 2, none⟩ = some (.int .i64 e) ∧ W.cell? ⟨gb, 3, none⟩ = some u) := fun W h => ⟨h, (hbr.below h).cells⟩
      have hS0 := hS _ (bdrew (Below.refl _ wr))
      by_cases heq : tm n zs a x = tm n zs x a
      · have heqi : ((tm n zs a x : Nat) : Int) = ((tm n zs x a : Nat) : Int) := by rw [heq]
        go_wp2_with fail
        go_region_held3 (fun W => Below wr.heap.size wr W ∧ W.cell? ⟨gb, 0, none⟩ = some (.int .i64 n) ∧ W.cell? ⟨gb, 1, none⟩ = some v ∧ W.cell? ⟨gb, 2, none⟩ = some (.int .i64 e) ∧ W.cell? ⟨gb, 3, none⟩ = some u)
          (first | exact hS0 | assumption | exact hS _ (bcat2 (And.left ‹_›) hl1))
          (first | (go_at_call 99; refine (HP.out _ _ _ (And.left ‹_›) (by assumption) (by assumption)).mono ?_; rintro e1 W1 ⟨rfl, hl1⟩))
        all_goals (
          have hB9 := And.left ‹Below wr.heap.size wr W1 ∧ _›
          go_wp2
          go_roundw
          case rel => exact ⟨k + 1, by omega, by go_num, fun t h1 h2 => by
            by_cases e9 : t = k
            · subst e9; rw [HXE.out]; exact heq
            · exact HNO.out t h1 (by omega), bcat hB hB9 hB.size⟩
          case measure => simp [intOf]; omega)
      · have heqi : ¬ ((tm n zs a x : Nat) : Int) = ((tm n zs x a : Nat) : Int) := by omega
        have HD := hide (show (xs.all fun x => decide (tm n zs a x = tm n zs x a)) = false by
          rw [List.all_eq_false]
          exact ⟨xs[k], List.getElem_mem hlt, by rw [HXE.out]; simpa using heq⟩)
        go_wp2_with fail
        go_region_held3 (fun W => Below wr.heap.size wr W ∧ W.cell? ⟨gb, 0, none⟩ = some (.int .i64 n) ∧ W.cell? ⟨gb, 1, none⟩ = some v ∧ W.cell? ⟨gb, 2, none⟩ = some (.int .i64 e) ∧ W.cell? ⟨gb, 3, none⟩ = some u)
          (first | exact hS0 | assumption | exact hS _ (bcat2 (And.left ‹_›) hl1))
          (first | (go_at_call 99; refine (HP.out _ _ _ (And.left ‹_›) (by assumption) (by assumption)).mono ?_; rintro e1 W1 ⟨rfl, hl1⟩))
        all_goals (
          have hB9 := And.left ‹Below wr.heap.size wr W1 ∧ _›
          go_wp2
          go_ret
          exact ⟨by rw [HD.out]; rfl, bcat hB hB9 hB.size⟩)
    · have HD := hide (show (xs.all fun x => decide (tm n zs a x = tm n zs x a)) = true by
        rw [List.all_eq_true]
        intro z hz
        obtain ⟨t, ht, rfl⟩ := List.mem_iff_getElem.1 hz
        simpa using HNO.out t ht (by omega))
      go_wp2
      go_ret
      exact ⟨by rw [HD.out]; rfl, hB⟩

set_option maxRecDepth 100000 in
set_option maxHeartbeats 2000000 in
theorem central_ok (n : Nat) (v u : Value) (zs : List Int) (e : Nat) (q : Nat → Bool) (w : World) (hG : GA w n v e u zs) (hT : Tab w) :
    Calls Tryd.prog 82 #[.agg #[.int .i64 n, v, .int .i64 e, u], .int .u64 (bs q n)] w fun x w' => x = .returned (.int .u64 (bs (cenq n zs q) n)) ∧ Below w.heap.size w w' := by
  have hB0 : Below w.heap.size w (w.alloc (.cells #[.int .i64 n, v, .int .i64 e, u] 67)) := balloc w _
  have hX0 := Box4.new w n e v u
  obtain ⟨w0, hw0⟩ : ∃ w0, w0 = w.alloc (.cells #[.int .i64 n, v, .int .i64 e, u] 67) := ⟨_, rfl⟩
  rw [← hw0] at hB0 hX0
  go_enter Tryd.func82, Tryd.ntmps82
  go_wp2_with fail
  rw [← hw0]
  clear hw0
  refine (list_ok n q w0 hG.le (hT.below hB0)).mono ?_
  rintro x w1 ⟨r, rfl, hr, hb1⟩
  obtain ⟨ra, rl, rc, rfl⟩ : ∃ a l c, r = .slice a l c := by
    obtain ⟨a, cap, _, _, rfl, _⟩ := hr
    exact ⟨a, _, cap, rfl⟩
  have hb2 := bcat2 hb1 (balloc w1 (.cells #[.slice ra rl rc] 22))
  have hL2 := Boxed.new w1 22 (.slice ra rl rc)
  have hX2 := hX0.below hb2
  have hG2 := hG.below (bcat2 hB0 hb2)
  have hr2 := (hr.below (balloc w1 (.cells #[.slice ra rl rc] 22))).sl
  have hB2 := bcat2 hB0 hb2
  obtain ⟨c0, c1, c2, c3⟩ := hX2.cells
  go_wp2_with fail
  generalize w1.alloc (.cells #[.slice ra rl rc] 22) = w2 at *
  clear c0 c1 c2 c3
  refine (those_ok n 106 v u e #[.pointer (some ⟨w1.heap.size, 0, none⟩), .pointer (some ⟨w.heap.size, 0, none⟩)] (cenq n zs q) w2 hG.le (fun a W => call113c a _ _ W) (fun W a hW ha => cen1_ok n v u (.slice ra rl rc) zs e a w1.heap.size w.heap.size (lst n q) W (hG2.below hW) ha (Boxed.below hL2 hW) (hr2.below hW) (fun x hx => (mem_lst.1 hx).1) (hX2.below hW))).mono ?_
  rintro x w3 ⟨rfl, hb3⟩
  go_wp2
  go_ret
  exact ⟨rfl, bcat2 hB2 hb3⟩

set_option maxRecDepth 100000 in
set_option maxHeartbeats 4000000 in
theorem centre_bad (N : Int) (v : Value) (zs : List Int) (w : World) (hv : Sl w v zs) (hc : (gfault N zs).1 ≠ 0) :
    Calls Tryd.prog 40 #[.agg #[.int .i64 N, v]] w fun x w' => x = .returned (.tuple #[.slice none 0 0, .agg #[.int .i64 (gfault N zs).1, .int .i64 (gfault N zs).2]]) ∧ Below w.heap.size w w' := by
  obtain ⟨w0, BG⟩ := Beg.new w N v
  have hv0 := hv.below BG.bel
  obtain ⟨c0, c1, _, _⟩ := BG.box.two
  have hck := opened_bad N v zs w0 hv0 hc
  obtain ⟨c, i, hci⟩ : ∃ c i, gfault N zs = (c, i) := ⟨_, _, rfl⟩
  rw [hci] at hck hc ⊢
  simp only at hc hck
  have HCK := hide hck
  clear hck hci
  have hcb : (c != 0) = true := by simpa using hc
  rw [BG.eq] at c0 c1
  go_enter Tryd.func40, Tryd.ntmps40
  go_wp2_with fail
  rw [← BG.eq]
  refine HCK.out.mono ?_
  rintro x w1 ⟨rfl, hb1⟩
  clear c0 c1
  obtain ⟨w2, hw2⟩ : ∃ w2, w2 = (w1.alloc (.cells #[.int .i64 0, .slice none 0 0, .int .i64 0, .slice none 0 0] 67)).alloc (.cells #[.int .i64 c, .int .i64 i] 27) := ⟨_, rfl⟩
  have hB1 : Below w0.heap.size w0 w2 := by rw [hw2]; exact bcat2 hb1 ((balloc w1 _).alloc (by simp) _)
  have hF1 : Blk w2 (w1.heap.size + 1) 27 [.int .i64 c, .int .i64 i] := by
    rw [hw2]
    have := blk0 (w := w1.alloc (.cells #[.int .i64 0, .slice none 0 0, .int .i64 0, .slice none 0 0] 67)) (T := 27) (.int .i64 c) (.int .i64 i)
    rwa [World.size_alloc] at this
  have hR1 := blk_below BG.res hB1
  have hBw := bcat BG.bel hB1 BG.bel.size
  obtain ⟨y0, y1, fy0, fy1⟩ := hR1.two
  obtain ⟨t0, t1, _, _⟩ := hF1.two
  rw [hw2] at t0 t1
  go_wp2_with fail
  rw [← hw2]
  rw [← hw2] at t0 t1
  clear hw2
  go_region
  all_goals (
    go_wp2
    obtain ⟨hR6, hB6⟩ := put2 hR1 hBw (by omega) c i
    have hB7 := bdrew hB6
    have hR7 : Blk ((w2.setCell ⟨w.heap.size + 1, 0, none⟩ (.int .i64 c)).setCell ⟨w.heap.size + 1, 1, none⟩ (.int .i64 i)).drew (w.heap.size + 1) 27 [.int .i64 c, .int .i64 i] := hR6
    generalize ((w2.setCell ⟨w.heap.size + 1, 0, none⟩ (.int .i64 c)).setCell ⟨w.heap.size + 1, 1, none⟩ (.int .i64 i)).drew = W at hR7 hB7 ⊢
    obtain ⟨z0, z1, _, _⟩ := hR7.two
    exact bodyPost_ret (v := .tuple #[.slice none 0 0, .agg #[.int .i64 c, .int .i64 i]]) (by simp [results, Tryd.results40, go_sem, z0, z1]) rfl ⟨rfl, hB7⟩)

set_option maxRecDepth 100000 in
set_option maxHeartbeats 4000000 in
theorem centre_good (n e : Nat) (v : Value) (zs : List Int) (w : World) (hv : Sl w v zs) (hg : IsGrp n zs e) (hT : Tab w) :
    Calls Tryd.prog 40 #[.agg #[.int .i64 n, v]] w fun x w' => ∃ r, x = .returned (.tuple #[r, .agg #[.int .i64 0, .int .i64 0]]) ∧ SlF w.heap.size w' r (li (lst n (cenq n zs (fun _ => true)))) ∧ Below w.heap.size w w' := by
  obtain ⟨va, vl, vc, rfl⟩ := hv.isSlice
  obtain ⟨w0, BG⟩ := Beg.new w n (.slice va vl vc)
  have hv0 := hv.below BG.bel
  obtain ⟨c0, c1, _, _⟩ := BG.box.two
  have HCK := hide (opened_good n e (.slice va vl vc) zs w0 hv0 hg)
  have HZ0 := hide (show w.heap.size + 2 ≤ w0.heap.size by rw [BG.eq]; simp)
  rw [BG.eq] at c0 c1
  go_enter Tryd.func40, Tryd.ntmps40
  go_wp2_with fail
  rw [← BG.eq]
  refine HCK.out.mono ?_
  rintro x w1 ⟨iv9, rfl, hSI, hb1⟩
  obtain ⟨ia, il, ic, rfl⟩ := hSI.sl.isSlice
  clear c0 c1 HCK
  obtain ⟨w2, hw2⟩ : ∃ w2, w2 = (w1.alloc (.cells #[.int .i64 n, (.slice va vl vc), .int .i64 e, (.slice ia il ic)] 67)).alloc (.cells #[.int .i64 0, .int .i64 0] 27) := ⟨_, rfl⟩
  have hb2 : Below w1.heap.size w1 w2 := by rw [hw2]; exact (balloc w1 _).alloc (by simp) _
  have hB1 : Below w0.heap.size w0 w2 := bcat2 hb1 hb2
  have hF1 : Blk w2 (w1.heap.size + 1) 27 [.int .i64 0, .int .i64 0] := by
    rw [hw2]
    have := blk0 (w := w1.alloc (.cells #[.int .i64 n, (.slice va vl vc), .int .i64 e, (.slice ia il ic)] 67)) (T := 27) (.int .i64 0) (.int .i64 0)
    rwa [World.size_alloc] at this
  have hH2 : Blk w2 w1.heap.size 67 [.int .i64 n, (.slice va vl vc), .int .i64 e, (.slice ia il ic)] := by
    rw [hw2]; exact (blk4 _ _ _ _).alloc _
  have hBw2 := bcat BG.bel hB1 BG.bel.size
  have hR2 := blk_below BG.res hB1
  have hT2 := hT.below hBw2
  have hGA2 : GA w2 n (.slice va vl vc) e (.slice ia il ic) zs := ⟨hg, hv.below hBw2, (hSI.below hb2).sl⟩
  obtain ⟨t0, t1, _, _⟩ := hF1.two
  obtain ⟨_, h0, h1, h2, h3, _⟩ := Four.mk' hH2
  have hx2 := blk_below BG.box hB1
  have HZ1 := hide (Nat.le_trans HZ0.out hb1.size)
  have HZ2 := hide hb2.size
  rw [hw2] at t0 t1 h0 h1 h2 h3
  go_wp2_with fail
  rw [← hw2]
  rw [← hw2] at t0 t1 h0 h1 h2 h3
  clear hw2
  have hS : ∀ W, Below w2.heap.size w2 W → (Below w2.heap.size w2 W ∧ W.cell? ⟨w1.heap.size, 0, none⟩ = some (.int .i64 n) ∧ W.cell? ⟨w1.heap.size, 1, none⟩ = some (.slice va vl vc) ∧ W.cell? ⟨w1.heap.size, 2, none⟩ = some (.int .i64 e) ∧ W.cell? ⟨w1.heap.size, 3, none⟩ = some (.slice ia il ic) ∧ W.cell? ⟨w.heap.size + 1, 0, none⟩ = some (.int .i64 0) ∧ W.cell? ⟨w.heap.size + 1, 1, none⟩ = some (.int .i64 0) ∧ W.frozen? ⟨w.heap.size + 1, 0, none⟩ = false ∧ W.frozen? ⟨w.heap.size + 1, 1, none⟩ = false ∧ W.setCell ⟨w.heap.size + 1, 0, none⟩ (.int .i64 0) = W ∧ W.setCell ⟨w.heap.size + 1, 1, none⟩ (.int .i64 0) = W) := fun W h => by
    obtain ⟨_, y0, y1, fy0, fy1, s0, s1⟩ := Two.mk' (blk_below hR2 h)
    exact ⟨h, below_cell h h0, below_cell h h1, below_cell h h2, below_cell h h3, y0, y1, fy0, fy1, s0, s1⟩
  have hS0 := hS _ (bdrew (Below.refl _ w2))
  have HA := hide (fun W => all_ok n (.slice va vl vc) (.slice ia il ic) e W hg.tab.le)
  have HC := hide (fun W (h : Below w2.heap.size w2 W) => central_ok n (.slice va vl vc) (.slice ia il ic) zs e (fun _ => true) W (hGA2.below h) (hT2.below h))
  have HL := hide (fun W (h : Below w2.heap.size w2 W) => list_at n w.heap.size (cenq n zs fun _ => true) W hg.tab.le (hT2.below h) (Nat.le_trans hBw2.size h.size))
  clear h0 h1 h2 h3 t0 t1
  generalize bs (cenq n zs fun _ => true) n = C at *
  generalize bs (fun _ => true) n = A at *
  go_region_held3 (fun W => Below w2.heap.size w2 W ∧ W.cell? ⟨w1.heap.size, 0, none⟩ = some (.int .i64 n) ∧ W.cell? ⟨w1.heap.size, 1, none⟩ = some (.slice va vl vc) ∧ W.cell? ⟨w1.heap.size, 2, none⟩ = some (.int .i64 e) ∧ W.cell? ⟨w1.heap.size, 3, none⟩ = some (.slice ia il ic) ∧ W.cell? ⟨w.heap.size + 1, 0, none⟩ = some (.int .i64 0) ∧ W.cell? ⟨w.heap.size + 1, 1, none⟩ = some (.int .i64 0) ∧ W.frozen? ⟨w.heap.size + 1, 0, none⟩ = false ∧ W.frozen? ⟨w.heap.size + 1, 1, none⟩ = false ∧ W.setCell ⟨w.heap.size + 1, 0, none⟩ (.int .i64 0) = W ∧ W.setCell ⟨w.heap.size + 1, 1, none⟩ (.int .i64 0) = W)
    (first | exact hS0 | assumption | exact hS _ (bcat2 (And.left ‹_›) hl1))
    (first
      | (go_at_call 56; refine (HA.out _).mono ?_; rintro e1 W1 ⟨rfl, hl1⟩)
      | (go_at_call 82; refine (HC.out _ (And.left ‹_›)).mono ?_; rintro e2 W2 ⟨rfl, hl1⟩)
      | (go_at_call 50; refine (HL.out _ (And.left ‹_›)).mono ?_; rintro e3 W3 ⟨r, rfl, hrr, hl1⟩))
  all_goals (
    obtain ⟨hB9, _, _, _, _, y0, y1, _⟩ := ‹Below w2.heap.size w2 W3 ∧ _›
    have hBz := bcat hBw2 hB9 hBw2.size
    clear hS hS0
    go_wp2
    exact bodyPost_ret (v := .tuple #[r, .agg #[.int .i64 0, .int .i64 0]]) (by simp [results, Tryd.results40, go_sem, y0, y1]) rfl ⟨_, rfl, hrr, hBz⟩)

end Go.Proofs.YtmgengplfebmjaaDoor

namespace Go.Proofs.YtmgengplfebmjaaDoor.Pm
open Go Go.RowKit

/-- What is wrong with a list at the places from i on, r of them. -/
def pf (zs : List Int) : Nat → Nat → Int × Int
  | 0, _ => (0, 0)
  | r + 1, i => if zs[i]?.getD 0 < 0 ∨ (zs.length : Int) ≤ zs[i]?.getD 0 then (3, (i : Int)) else if zs[i]?.getD 0 ∈ zs.take i then (10, (i : Int)) else pf zs r (i + 1)
/-- What perm.Check answers: the code and the place. -/
def fault (zs : List Int) : Int × Int := if 1000 < zs.length then (2, 0) else pf zs zs.length 0
theorem pf_range {zs : List Int} {r i : Nat} (h : zs[i]?.getD 0 < 0 ∨ (zs.length : Int) ≤ zs[i]?.getD 0) : pf zs (r + 1) i = (3, (i : Int)) := by
  rw [pf, if_pos h]
theorem pf_twice {zs : List Int} {r i : Nat} (h : ¬ (zs[i]?.getD 0 < 0 ∨ (zs.length : Int) ≤ zs[i]?.getD 0)) (h2 : zs[i]?.getD 0 ∈ zs.take i) : pf zs (r + 1) i = (10, (i : Int)) := by
  rw [pf, if_neg h, if_pos h2]
theorem pf_on {zs : List Int} {r i : Nat} (h : ¬ (zs[i]?.getD 0 < 0 ∨ (zs.length : Int) ≤ zs[i]?.getD 0)) (h2 : ¬ zs[i]?.getD 0 ∈ zs.take i) : pf zs (r + 1) i = pf zs r (i + 1) := by
  rw [pf, if_neg h, if_neg h2]
/-- The numbers 0 to n - 1, each once. -/
def IsPerm (zs : List Int) : Prop := (∀ i, i < zs.length → 0 ≤ zs[i]?.getD 0 ∧ zs[i]?.getD 0 < zs.length) ∧ ∀ i j, i < j → j < zs.length → zs[i]?.getD 0 ≠ zs[j]?.getD 0
theorem mem_take {zs : List Int} {i : Nat} (hi : i ≤ zs.length) (x : Int) : x ∈ zs.take i ↔ ∃ j, j < i ∧ zs[j]?.getD 0 = x := by
  rw [List.mem_iff_getElem?]
  constructor
  · rintro ⟨j, hj⟩
    rw [List.getElem?_take] at hj
    split at hj
    · exact ⟨j, by assumption, by rw [hj]; rfl⟩
    · cases hj
  · rintro ⟨j, hj, rfl⟩
    refine ⟨j, ?_⟩
    rw [List.getElem?_take, if_pos hj, List.getElem?_eq_getElem (by omega)]
    simp
theorem pf_perm {zs : List Int} : ∀ (r i : Nat), i + r = zs.length → (pf zs r i).1 = 0 →
    (∀ k, i ≤ k → k < zs.length → 0 ≤ zs[k]?.getD 0 ∧ zs[k]?.getD 0 < zs.length) ∧ ∀ j k, j < k → i ≤ k → k < zs.length → zs[j]?.getD 0 ≠ zs[k]?.getD 0
  | 0, i, h, _ => ⟨fun k h1 h2 => by omega, fun j k h1 h2 h3 => by omega⟩
  | r + 1, i, h, h0 => by
    by_cases a : zs[i]?.getD 0 < 0 ∨ (zs.length : Int) ≤ zs[i]?.getD 0
    · rw [pf_range a] at h0; simp at h0
    · by_cases b : zs[i]?.getD 0 ∈ zs.take i
      · rw [pf_twice a b] at h0; simp at h0
      · rw [pf_on a b] at h0
        obtain ⟨h1, h2⟩ := pf_perm r (i + 1) (by omega) h0
        rw [mem_take (by omega)] at b
        refine ⟨fun k hk hl => ?_, fun j k hj hk hl => ?_⟩
        · by_cases e : k = i
          · subst e; omega
          · exact h1 k (by omega) hl
        · by_cases e : k = i
          · subst e; exact fun e => b ⟨j, hj, e⟩
          · exact h2 j k hj (by omega) hl
theorem fault_perm {zs : List Int} (h : (fault zs).1 = 0) : IsPerm zs ∧ zs.length ≤ 1000 := by
  unfold fault at h
  split at h
  · simp at h
  · obtain ⟨h1, h2⟩ := pf_perm zs.length 0 (by omega) h
    exact ⟨⟨fun i hi => h1 i (by omega) hi, fun i j hij hj => h2 i j hij (by omega) hj⟩, by omega⟩
theorem pf_zero {zs : List Int} : ∀ (r i : Nat), (pf zs r i).1 = 0 → pf zs r i = (0, 0)
  | 0, i, _ => rfl
  | r + 1, i, h0 => by
    by_cases a : zs[i]?.getD 0 < 0 ∨ (zs.length : Int) ≤ zs[i]?.getD 0
    · rw [pf_range a] at h0; simp at h0
    · by_cases b : zs[i]?.getD 0 ∈ zs.take i
      · rw [pf_twice a b] at h0; simp at h0
      · rw [pf_on a b] at h0 ⊢
        exact pf_zero r (i + 1) h0
theorem fault_zero {zs : List Int} (h : (fault zs).1 = 0) : fault zs = (0, 0) := by
  unfold fault at h ⊢
  split at h
  · simp at h
  · rw [if_neg (by omega)]; exact pf_zero _ _ h
theorem pf_of_perm {zs : List Int} (hp : IsPerm zs) : ∀ (r i : Nat), i + r = zs.length → pf zs r i = (0, 0)
  | 0, i, _ => rfl
  | r + 1, i, h => by
    have h1 := hp.1 i (by omega)
    rw [pf_on (by omega) (fun hm => by
      rw [mem_take (by omega)] at hm
      obtain ⟨j, hj, e⟩ := hm
      exact hp.2 j i hj (by omega) e)]
    exact pf_of_perm hp r (i + 1) (by omega)
theorem fault_of_perm {zs : List Int} (hp : IsPerm zs) (hl : zs.length ≤ 1000) : fault zs = (0, 0) := by
  unfold fault; rw [if_neg (by omega)]; exact pf_of_perm hp _ _ (by omega)
theorem take_snoc {zs : List Int} {i : Nat} (hi : i < zs.length) : zs.take (i + 1) = zs.take i ++ [zs[i]?.getD 0] := by
  rw [List.take_succ_eq_append_getElem hi]; simp [hi]
/-- Where a point is moved. -/
def nx (zs : List Int) (x : Nat) : Nat := (zs[x]?.getD 0).toNat
theorem nx_lt {zs : List Int} (hp : IsPerm zs) {x : Nat} (hx : x < zs.length) : nx zs x < zs.length ∧ zs[x]?.getD 0 = (nx zs x : Int) := by
  have := hp.1 x hx
  unfold nx; omega
/-- The product. -/
def mulL (xs ys : List Int) : List Int := xs.map fun x => ys[x.toNat]?.getD 0
theorem mulL_len (xs ys : List Int) : (mulL xs ys).length = xs.length := by simp [mulL]
theorem mulL_get {xs : List Int} (ys : List Int) {i : Nat} (hi : i < xs.length) : (mulL xs ys)[i]?.getD 0 = ys[(xs[i]?.getD 0).toNat]?.getD 0 := by
  simp [mulL, hi]
/-- The inverse, as far as k numbers tell it. -/
def invTo (xs : List Int) : Nat → List Int
  | 0 => List.replicate xs.length 0
  | k + 1 => (invTo xs k).set (nx xs k) (k : Int)
def invL (xs : List Int) : List Int := invTo xs xs.length
theorem invTo_len (xs : List Int) : ∀ k, (invTo xs k).length = xs.length
  | 0 => by simp [invTo]
  | k + 1 => by simp [invTo, invTo_len xs k]
theorem invL_len (xs : List Int) : (invL xs).length = xs.length := invTo_len xs _
theorem nx_ne {xs : List Int} (hp : IsPerm xs) {i j : Nat} (hi : i < xs.length) (hj : j < xs.length) (h : i ≠ j) : nx xs i ≠ nx xs j := by
  have h1 := nx_lt hp hi
  have h2 := nx_lt hp hj
  intro e
  rcases Nat.lt_or_gt_of_ne h with hlt | hlt
  · exact hp.2 i j hlt hj (by rw [h1.2, h2.2, e])
  · exact hp.2 j i hlt hi (by rw [h1.2, h2.2, e])
theorem invTo_get {xs : List Int} (hp : IsPerm xs) : ∀ (k : Nat), k ≤ xs.length → ∀ i, i < k → (invTo xs k)[nx xs i]?.getD 0 = (i : Int)
  | 0, _, i, hi => by omega
  | k + 1, hk, i, hi => by
    have hn := (nx_lt hp (show i < xs.length by omega)).1
    rw [invTo, List.getElem?_set]
    by_cases e : i = k
    · subst e
      rw [if_pos rfl, invTo_len, if_pos hn]; rfl
    · rw [if_neg (nx_ne hp (by omega) (by omega) (fun h => e h.symm))]
      exact invTo_get hp k (by omega) i (by omega)
theorem invL_get {xs : List Int} (hp : IsPerm xs) {i : Nat} (hi : i < xs.length) : (invL xs)[nx xs i]?.getD 0 = (i : Int) := invTo_get hp _ (Nat.le_refl _) i hi
theorem nodup_len : ∀ (l m : List Nat), l.Nodup → (∀ z, z ∈ l → z ∈ m) → l.length ≤ m.length
  | [], _, _, _ => Nat.zero_le _
  | a :: l, m, hn, hs => by
    rw [List.nodup_cons] at hn
    have ha := hs a (by simp)
    have h1 := nodup_len l (m.erase a) hn.2 (fun z hz => by
      rw [List.mem_erase_of_ne (fun e => hn.1 (by rw [← e]; exact hz))]
      exact hs z (by simp [hz]))
    rw [List.length_erase_of_mem ha] at h1
    have := List.length_pos_of_mem ha
    simp; omega
/-- A permutation hits every point. -/
theorem perm_hits {xs : List Int} (hp : IsPerm xs) {y : Nat} (hy : y < xs.length) : ∃ i, i < xs.length ∧ nx xs i = y := by
  -- the list of what points are moved to has no two the same, and all are below n
  have hnd : ((List.range xs.length).map (nx xs)).Nodup := by
    rw [List.nodup_iff_pairwise_ne, List.pairwise_map]
    refine List.Pairwise.imp_of_mem ?_ List.nodup_range
    intro i j hi hj hij
    rw [List.mem_range] at hi hj
    exact nx_ne hp hi hj hij
  have hsub : ∀ z, z ∈ (List.range xs.length).map (nx xs) → z ∈ List.range xs.length := by
    intro z hz
    rw [List.mem_map] at hz
    obtain ⟨i, hi, rfl⟩ := hz
    rw [List.mem_range] at hi ⊢
    exact (nx_lt hp hi).1
  by_cases hm : y ∈ (List.range xs.length).map (nx xs)
  · rw [List.mem_map] at hm
    obtain ⟨i, hi, e⟩ := hm
    exact ⟨i, by simpa using hi, e⟩
  · exfalso
    have h1 := nodup_len _ ((List.range xs.length).erase y) hnd (fun z hz => by
      rw [List.mem_erase_of_ne (fun e => hm (by rw [← e]; exact hz))]
      exact hsub z hz)
    rw [List.length_erase_of_mem (by simpa using hy)] at h1
    simp at h1
    omega
theorem list_ext {xs ys : List Int} (hl : xs.length = ys.length) (h : ∀ i, i < xs.length → xs[i]?.getD 0 = ys[i]?.getD 0) : xs = ys := by
  apply List.ext_getElem hl
  intro i h1 h2
  have := h i h1
  rw [List.getElem?_eq_getElem h1, List.getElem?_eq_getElem h2] at this
  simpa using this
theorem mulL_perm {xs ys : List Int} (hx : IsPerm xs) (hy : IsPerm ys) (hl : xs.length = ys.length) : IsPerm (mulL xs ys) := by
  refine ⟨fun i hi => ?_, fun i j hij hj => ?_⟩
  · rw [mulL_len] at hi ⊢
    rw [mulL_get ys hi, hl]
    exact hy.1 _ (by rw [← hl]; exact (nx_lt hx hi).1)
  · rw [mulL_len] at hj
    rw [mulL_get ys (by omega), mulL_get ys hj]
    have hi : i < xs.length := by omega
    have h1 := (nx_lt hx hi).1
    have h2 := (nx_lt hx hj).1
    have hne := nx_ne hx hi hj (by omega)
    have h3 := nx_ne hy (i := nx xs i) (j := nx xs j) (by omega) (by omega) hne
    intro e
    exact h3 (congrArg Int.toNat e)
theorem invL_perm {xs : List Int} (hx : IsPerm xs) : IsPerm (invL xs) := by
  have key : ∀ y, y < xs.length → ∃ i, i < xs.length ∧ nx xs i = y ∧ (invL xs)[y]?.getD 0 = (i : Int) := by
    intro y hy
    obtain ⟨i, hi, e⟩ := perm_hits hx hy
    exact ⟨i, hi, e, by rw [← e]; exact invL_get hx hi⟩
  refine ⟨fun y hy => ?_, fun y z hyz hz => ?_⟩
  · rw [invL_len] at hy ⊢
    obtain ⟨i, hi, _, e⟩ := key y hy
    rw [e]; omega
  · rw [invL_len] at hz
    obtain ⟨i, hi, ei, e1⟩ := key y (by omega)
    obtain ⟨j, hj, ej, e2⟩ := key z hz
    rw [e1, e2]
    intro e
    have : i = j := by omega
    subst this
    omega
set_option maxRecDepth 100000 in
set_option maxHeartbeats 1000000 in
theorem has_any (a : Option Addr) (cap pb po n : Nat) (xs : List Int) (x : Int) (w : World) (hn : n = xs.length) (hr : Reads w a pb po xs) (hl : xs.length ≤ maxLen) :
    Calls Tryd.prog 81 #[.slice a n cap, .int .i64 x] w fun e w' => e = .returned (.bool (decide (x ∈ xs))) ∧ w' = w := by
  subst hn
  unfold maxLen at hl
  go_enter Tryd.func81, Tryd.ntmps81
  go_wp2
  go_loop [5] (fun i => ∃ k : Nat, k ≤ xs.length ∧ i = .int .i64 k ∧ ∀ j, j < k → xs[j]?.getD 0 ≠ x) (fun i => xs.length - (intOf i).toNat)
  case atStart => exact ⟨0, Nat.zero_le _, rfl, fun j hj => by omega⟩
  case round =>
    obtain ⟨k, hk, rfl, hno⟩ := hrel
    have HN := hide hno
    clear hno
    by_cases hlt : k < xs.length
    · have hc := hr.cell k hlt
      obtain rfl := hr.at_ (by omega)
      generalize hye : xs[k]?.getD 0 = y at hc
      have HY := hide hye
      clear hye
      by_cases hyx : y = x
      · have hm : decide (x ∈ xs) = true := by
          rw [decide_eq_true_eq, List.mem_iff_getElem?]
          refine ⟨k, ?_⟩
          have := HY.out
          rw [List.getElem?_eq_getElem hlt] at this ⊢
          simp at this
          rw [this, hyx]
        have HM := hide hm
        have hb : (y == x) = true := by simp [hyx]
        have HE := hide hyx
        clear hm hyx
        go_wp2
        go_ret
        exact ⟨by rw [HM.out]; rfl, rfl⟩
      · have hb : (y == x) = false := by simp [hyx]
        have HE := hide hyx
        clear hyx
        go_wp2
        go_round
        case rel => exact ⟨k + 1, by omega, by go_num, fun j hj => by
          by_cases e : j = k
          · rw [e, HY.out]; exact HE.out
          · exact HN.out j (by omega)⟩
        case measure => simp [intOf]; omega
    · have hm : decide (x ∈ xs) = false := by
        rw [decide_eq_false_iff_not, List.mem_iff_getElem?]
        rintro ⟨j, hj⟩
        have hjl : j < xs.length := (List.getElem?_eq_some_iff.1 hj).1
        exact HN.out j (by omega) (by rw [hj]; rfl)
      have HM := hide hm
      clear hm
      go_wp2
      go_ret
      exact ⟨by rw [HM.out]; rfl, rfl⟩
set_option maxRecDepth 100000 in
set_option maxHeartbeats 2000000 in
theorem permFault_any (v : Value) (zs : List Int) (w : World) (hv : Sl w v zs) :
    Calls Tryd.prog 42 #[v] w fun e w' => e = .returned (.agg #[.int .i64 (fault zs).1, .int .i64 (fault zs).2]) ∧ Below w.heap.size w w' := by
  obtain ⟨a, cap, pb, po, rfl, hr, hp, hcap, hcm⟩ := hv
  unfold maxLen at hcm
  have hB0 : Below w.heap.size w (w.alloc (.cells #[.int .i64 0, .int .i64 0] 27)) := (Below.refl _ w).alloc (Nat.le_refl _) _
  by_cases hbig : 1000 < zs.length
  · have hb1 : (1000 : Int) < (zs.length : Int) := by omega
    have hf : fault zs = (2, 0) := by unfold fault; rw [if_pos hbig]
    go_enter Tryd.func42, Tryd.ntmps42
    go_wp2_with fail
    refine (f_any 2 0 _).mono ?_
    rintro e w1 ⟨rfl, hl1⟩
    have hR : Blk w1 w.heap.size 27 [.int .i64 0, .int .i64 0] := (hl1.block w.heap.size (by simp)).trans (World.alloc_heap_new w _)
    have hc0 : w1.cell? ⟨w.heap.size, 0, none⟩ = some (.int .i64 0) := hR.cell 0
    have hc1 : w1.cell? ⟨w.heap.size, 1, none⟩ = some (.int .i64 0) := hR.cell 1
    have hf0 := hR.frozen 0
    have hf1 := hR.frozen 1
    go_wp2
    refine bodyPost_ret (v := .agg #[.int .i64 2, .int .i64 0]) (by simp [results, Tryd.results42, go_sem, hc0, hc1]) rfl ⟨by rw [hf], ?_⟩
    exact ((hB0.trans (hl1.mono (by simp))).setCell (p := ⟨w.heap.size, 0, none⟩) (Nat.le_refl _) _).setCell (p := ⟨w.heap.size, 1, none⟩) (Nat.le_refl _) _
  · have hb1 : (zs.length : Int) ≤ 1000 := by omega
    have hf : fault zs = pf zs zs.length 0 := by unfold fault; rw [if_neg hbig]
    have hR0 : Blk (w.alloc (.cells #[.int .i64 0, .int .i64 0] 27)) w.heap.size 27 [.int .i64 0, .int .i64 0] := World.alloc_heap_new w _
    go_enter Tryd.func42, Tryd.ntmps42
    go_wp2_with fail
    go_loopw [3] (fun i wr => ∃ k : Nat, k ≤ zs.length ∧ i = .int .i64 k ∧ Blk wr w.heap.size 27 [.int .i64 0, .int .i64 0] ∧ Below w.heap.size w wr ∧ pf zs (zs.length - k) k = pf zs zs.length 0)
      (fun i _ => zs.length - (intOf i).toNat)
    case atStart => exact ⟨0, Nat.zero_le _, rfl, hR0, hB0, rfl⟩
    case round =>
      obtain ⟨k, hk, rfl, hR1, hB1, hpf⟩ := hrel
      have HP := hide hpf
      have HF := hide hf
      clear hpf hf hR0 hB0
      have hc0 : wr.cell? ⟨w.heap.size, 0, none⟩ = some (.int .i64 0) := hR1.cell 0
      have hc1 : wr.cell? ⟨w.heap.size, 1, none⟩ = some (.int .i64 0) := hR1.cell 1
      have hf0 := hR1.frozen 0
      have hf1 := hR1.frozen 1
      by_cases hlt : k < zs.length
      · obtain rfl := hr.at_ (by omega)
        have hrr := hr.below hB1 hp
        have hx := hrr.cell k hlt
        generalize hxe : zs[k]?.getD 0 = x at hx
        have HX := hide hxe
        clear hxe
        have HN : Hid (zs.length - k = (zs.length - (k + 1)) + 1) := by unfold Hid; omega
        have hfin : ∀ (c : Int) (w1 : World), Below wr.heap.size wr w1 → Blk w1 w.heap.size 27 [.int .i64 0, .int .i64 0] := fun c w1 h => hR1.of_eq (h.block _ hR1.lt)
        have HFI := hide hfin
        clear hfin
        by_cases hrange : x < 0 ∨ (zs.length : Int) ≤ x
        · have hfl : fault zs = (3, (k : Int)) := by
            rw [HF.out, ← HP.out, HN.out, pf_range (by rw [HX.out]; exact hrange)]
          have HFL := hide hfl
          clear hfl
          rcases hrange with hneg | hbigx
          all_goals
            go_wp2_with fail
            refine (f_any 3 (k : Int) _).mono ?_
            rintro e w1 ⟨rfl, hl1⟩
            have hR := HFI.out 0 w1 hl1
            have hd0 : w1.cell? ⟨w.heap.size, 0, none⟩ = some (.int .i64 0) := hR.cell 0
            have hd1 : w1.cell? ⟨w.heap.size, 1, none⟩ = some (.int .i64 0) := hR.cell 1
            have hg0 := hR.frozen 0
            have hg1 := hR.frozen 1
            go_wp2
            refine bodyPost_ret (v := .agg #[.int .i64 3, .int .i64 k]) (by simp [results, Tryd.results42, go_sem, hd0, hd1]) rfl ⟨by rw [HFL.out], ?_⟩
            exact ((bcat hB1 hl1 hB1.size).setCell (p := ⟨w.heap.size, 0, none⟩) (Nat.le_refl _) _).setCell (p := ⟨w.heap.size, 1, none⟩) (Nat.le_refl _) _
        · have h1 : 0 ≤ x := by omega
          have h2 : x < (zs.length : Int) := by omega
          have HR := hide hrange
          clear hrange
          have hrt : Reads wr (some ⟨pb, po, none⟩) pb po (zs.take k) := ⟨fun _ => rfl, fun j hj => by
            rw [List.length_take] at hj
            rw [hrr.cell j (by omega), List.getElem?_take, if_pos (by omega)]⟩
          have htl : k = (zs.take k).length := by rw [List.length_take]; omega
          have HTL := hide htl
          have h52 : ∀ W, W.heap = wr.heap → Calls Tryd.prog 81 #[.slice (some ⟨pb, po, none⟩) k cap, .int .i64 x] W fun e w' => e = .returned (.bool (decide (x ∈ zs.take k))) ∧ w' = W := fun W hW =>
            has_any _ cap pb po k (zs.take k) x W HTL.out (hrt.of_eq (by rw [hW])) (by rw [← HTL.out]; unfold maxLen; omega)
          generalize hbb : decide (x ∈ zs.take k) = b at h52
          have H52 := hide h52
          clear htl h52 hrt
          have hki : (k : Int) < (zs.length : Int) := by omega
          cases b with
          | true =>
            have h3 : x ∈ zs.take k := of_decide_eq_true hbb
            have hfl : fault zs = (10, (k : Int)) := by
              rw [HF.out, ← HP.out, HN.out, pf_twice (by rw [HX.out]; exact HR.out) (by rw [HX.out]; exact h3)]
            have HFL := hide hfl
            clear hfl h3 hbb
            go_wp2
            go_quiet ((go_at_call 81; exact Calls.quiet_of_same (H52.out _ rfl)))
            go_wp2_with fail
            refine (f_any 10 (k : Int) _).mono ?_
            rintro e w1 ⟨rfl, hl1⟩
            have hR : Blk w1 w.heap.size 27 [.int .i64 0, .int .i64 0] := hR1.of_eq (hl1.block _ hR1.lt)
            have hd0 : w1.cell? ⟨w.heap.size, 0, none⟩ = some (.int .i64 0) := hR.cell 0
            have hd1 : w1.cell? ⟨w.heap.size, 1, none⟩ = some (.int .i64 0) := hR.cell 1
            have hg0 := hR.frozen 0
            have hg1 := hR.frozen 1
            go_wp2
            refine bodyPost_ret (v := .agg #[.int .i64 10, .int .i64 k]) (by simp [results, Tryd.results42, go_sem, hd0, hd1]) rfl ⟨by rw [HFL.out], ?_⟩
            exact ((bcat (bdrewN hB1 _) hl1 hB1.size).setCell (p := ⟨w.heap.size, 0, none⟩) (Nat.le_refl _) _).setCell (p := ⟨w.heap.size, 1, none⟩) (Nat.le_refl _) _
          | false =>
            have h3 : ¬ x ∈ zs.take k := of_decide_eq_false hbb
            have hon : pf zs (zs.length - (k + 1)) (k + 1) = pf zs zs.length 0 := by
              rw [← HP.out, HN.out, pf_on (by rw [HX.out]; exact HR.out) (by rw [HX.out]; exact h3)]
            have HON := hide hon
            clear hon h3 hbb
            go_wp2
            go_quiet ((go_at_call 81; exact Calls.quiet_of_same (H52.out _ rfl)))
            go_wp2
            go_roundw
            case rel => exact ⟨k + 1, by omega, by go_num, hR1, bdrewN hB1 _, HON.out⟩
            case measure => simp [intOf]; omega
      · have hfl : fault zs = (0, 0) := by
          rw [HF.out, ← HP.out, show zs.length - k = 0 by omega]; rfl
        have HFL := hide hfl
        clear hfl
        go_wp2
        refine bodyPost_ret (v := .agg #[.int .i64 0, .int .i64 0]) (by simp [results, Tryd.results42, go_sem, hc0, hc1]) rfl ⟨by rw [HFL.out], ?_⟩
        exact (hB1.setCell (p := ⟨w.heap.size, 0, none⟩) (Nat.le_refl _) _).setCell (p := ⟨w.heap.size, 1, none⟩) (Nat.le_refl _) _
set_option maxRecDepth 100000 in
set_option maxHeartbeats 4000000 in
theorem inverse_ok (u : Value) (xs : List Int) (w : World) (hu : Sl w u xs) (hx : IsPerm xs) (h1000 : xs.length ≤ 1000) :
    Calls Tryd.prog 43 #[u] w fun e w' => ∃ r, e = .returned r ∧ Row w' w.heap.size r (invL xs) ∧ Below w.heap.size w w' := by
  obtain ⟨i0, hi, hz0, hz1, hz2⟩ := info_parts info3b
  obtain ⟨a, cap, pb, po, rfl, hr, hp, hq3, hq4⟩ := hu
  have hml := invL_len xs
  have hmg : ∀ j, j < xs.length → (invL xs)[nx xs j]?.getD 0 = (j : Int) := fun j hj => invL_get hx hj
  generalize invL xs = M at hml hmg
  have HX := hide hx
  have HML := hide hml
  have HMG := hide hmg
  clear hx hml hmg
  go_enter Tryd.func43, Tryd.ntmps43
  go_wp2
  go_loopw [3, 4] (fun v i wr => ∃ k : Nat, k ≤ xs.length ∧ i = .int .i64 k ∧ Row wr w.heap.size v (M.take k) ∧ Below w.heap.size w wr)
    (fun _ i _ => xs.length - (intOf i).toNat)
  case atStart => exact ⟨0, Nat.zero_le _, rfl, World.ownsRow_nil _ _ _ _, Below.refl _ _⟩
  case round =>
    obtain ⟨i, hi9, rfl, hown, hB⟩ := hrel
    obtain ⟨v, rfl⟩ : ∃ v, v = u3 := ⟨_, rfl⟩
    obtain ⟨W0, rfl⟩ : ∃ W0, W0 = wr := ⟨_, rfl⟩
    by_cases hlt : i < xs.length
    · obtain ⟨j0, hj0, hji⟩ := perm_hits HX.out hlt
      have hsn : M.take (i + 1) = M.take i ++ [(j0 : Int)] := by
        rw [take_snoc (zs := M) (by rw [HML.out]; omega)]
        have := HMG.out j0 hj0
        rw [hji] at this; rw [this]
      have HSN := hide hsn
      have HJI := hide hji
      clear hsn hji
      go_wp2
      go_loopw [3, 5] (fun v2 kv wr2 => ∃ k : Nat, k ≤ xs.length ∧ kv = .int .i64 k ∧ Row wr2 w.heap.size v2 (M.take (if j0 < k then i + 1 else i)) ∧ Below w.heap.size w wr2)
        (fun _ k _ => xs.length - (intOf k).toNat)
      case atStart => exact ⟨0, Nat.zero_le _, rfl, by rw [if_neg (by omega)]; exact hown, hB⟩
      case round =>
        obtain ⟨k, hk, rfl, hown2, hB2⟩ := hrel
        obtain ⟨v2, rfl⟩ : ∃ v2, v2 = u3 := ⟨_, rfl⟩
        clear hown hB
        have hBs := hB2.size
        by_cases hkl : k < xs.length
        · have hn := nx_lt HX.out hkl
          have hcx := (hr.below hB2 hp).cell k hkl
          rw [hn.2] at hcx
          obtain rfl := hr.at_ (by omega)
          by_cases e : k = j0
          · subst e
            rw [HJI.out] at hcx
            rw [if_neg (by omega)] at hown2
            have hil : (M.take i).length = i := by rw [List.length_take, HML.out]; omega
            have HIL := hide hil
            have hbe : ((i : Int) == (i : Int)) = true := by simp
            clear hn hil
            go_wp2_with (first
              | (at_builtin; refine wpList_append_own _ rfl _ _ 22 rfl w.heap.size 3 i0 (.int .i64 0) 1 8 under22b hi hz0 hz1 hz2 rfl (by decide) _ _ _ rfl (World.ownsRow.alloc hown2 _) ⟨wr.heap.size, 0, none⟩ 1 1 [.int .i64 (k : Int)] rfl rfl ?c1 ?c2 ?c3 ?c4 ?c5 ?_))
            case c1 => exact cell_one_new _ _ _
            case c2 => simp [Value.oneCell']
            case c3 => unfold maxLen; have := HIL.out; omega
            case c4 => have := HIL.out; omega
            case c5 => simp; omega
            intro v' w2 hown' hgrow _
            obtain ⟨g', cap', rfl⟩ := ownsRow_succ hown'
            have hB3 : Below w.heap.size w w2 := (hB2.alloc hBs _).grown hgrow (by simp; omega) (fun j e => owns_ge hown2 j e)
            have hown5 : Row w2 w.heap.size (.slice (some ⟨g', 0, none⟩) ((M.take i).length + 1) cap') (M.take (if k < k + 1 then i + 1 else i)) := by
              unfold Row
              rw [if_pos (by omega), HSN.out]; simpa using hown'
            clear hown' hgrow hown2
            go_wp2
            go_roundw
            case rel => exact ⟨k + 1, by omega, by go_num, (by rw [List.length_take] at hown5; exact hown5), hB3⟩
            case measure => simp [intOf]; omega
          · have hne : nx xs k ≠ i := fun h => nx_ne HX.out hkl hj0 e (h.trans HJI.out.symm)
            have hown5 : Row wr w.heap.size v2 (M.take (if j0 < k + 1 then i + 1 else i)) := by
              by_cases h : j0 < k
              · rw [if_pos h] at hown2; rw [if_pos (by omega)]; exact hown2
              · rw [if_neg h] at hown2; rw [if_neg (by omega)]; exact hown2
            obtain ⟨hn1, _⟩ := hn
            generalize nx xs k = x at hcx hne hn1
            have hbe : ((x : Int) == (i : Int)) = false := by simp; omega
            clear hne hown2
            go_wp2
            go_roundw
            case rel => exact ⟨k + 1, by omega, by go_num, hown5, hB2⟩
            case measure => simp [intOf]; omega
        · rw [if_pos (by omega)] at hown2
          go_wp2
          go_roundw
          case rel => exact ⟨i + 1, by omega, by go_num, hown2, hB2⟩
          case measure => simp [intOf]; omega
    · have hkk : i = xs.length := by omega
      subst hkk
      rw [← HML.out, List.take_length] at hown
      go_wp2
      go_ret
      exact ⟨_, rfl, hown, hB⟩
end Go.Proofs.YtmgengplfebmjaaDoor.Pm

namespace Go.Proofs.YtmgengplfebmjaaDoor
open Go Go.RowKit

section
variable {n e : Nat} {zs : List Int}
/-- An automorphism. -/
structure IsAut (n : Nat) (zs : List Int) (e : Nat) (φ : Nat → Nat) : Prop where
  hom : IsHom n zs n zs φ
  inj : ∀ a b, a < n → b < n → φ a = φ b → a = b
theorem aut_of_ker (g : IsGrp n zs e) {φ : Nat → Nat} (H : IsHom n zs n zs φ) (hk : ∀ a, a < n → φ a = e → a = e) : IsAut n zs e φ := by
  refine ⟨H, fun a b ha hb hab => ?_⟩
  obtain ⟨i1, i2, i3, _⟩ := iv_spec g hb
  have h1 := H.mul a (iv n zs e b) ha i1
  have h2 := H.mul b (iv n zs e b) hb i1
  rw [i2, IsHom.one g g H] at h2
  rw [hab, ← h2] at h1
  have h3 := hk _ (tm_lt g.tab ha i1) h1
  have h4 : tm n zs (tm n zs a (iv n zs e b)) b = tm n zs e b := congrArg (fun t => tm n zs t b) h3
  rw [g.ass a _ b ha i1 hb, i3, g.right a ha, g.left b hb] at h4
  exact h4
theorem hom_list_at {φ : Nat → Nat} {a : Nat} (ha : a < n) : (li ((List.range n).map φ))[a]?.getD 0 = (φ a : Int) := by simp [li, ha]
theorem hom_list_len {φ : Nat → Nat} : (li ((List.range n).map φ)).length = n := by simp [li]
theorem aut_mem (g : IsGrp n zs e) {ks : List Nat} (hk : ∀ k, k ∈ ks → k < n) (hall : ∀ a, a < n → Mkd n zs e (fun x => decide (x ∈ ks)) a) {L : List Int} : L ∈ autL n zs e ks ↔ ∃ φ, IsAut n zs e φ ∧ L = li ((List.range n).map φ) := by
  have key := homF_mem (FP := fun φ => ∀ a, a < n → φ a = e → a = e) (fit := fun ms => sngq n e ms e) g g hk hall
    (fun φ S ps H hF hps hS => by
      have hp : ∀ p, p ∈ ps → p.1 < n ∧ p.2 < n := fun p hp => ⟨(hps p hp).1, by rw [← (hps p hp).2]; exact H.lt _ (hps p hp).1⟩
      obtain ⟨r1, r2, r3, _⟩ := ext_grow g g hp hS
      obtain ⟨S', hS', hv⟩ := ext_of_hom g g H hps
      rw [hS] at hS'
      injection hS' with hS'
      subst hS'
      unfold sngq
      refine decide_eq_true (bs_ext fun a ha => ?_)
      unfold kerq
      by_cases hin : a ∈ S.2
      · rw [hv a hin]
        by_cases hae : a = e
        · subst hae
          rw [IsHom.one g g H]
          simp
        · rw [decide_eq_false hae]
          refine decide_eq_false fun h9 => hae (hF a ha ?_)
          omega
      · have hae : ¬ a = e := fun h9 => hin (by rw [h9]; exact r2)
        rw [decide_eq_false hae]
        refine decide_eq_false fun h9 => ?_
        have := r1.no a ha hin
        rw [this] at h9
        omega)
    (fun φ H hf a ha hae => by
      have := bs_inj (of_decide_eq_true hf) a ha
      unfold kerq at this
      rw [hom_list_at ha, hae] at this
      simpa using this)
    (ks.length + 1) [] L (by simp) (by simp) (by simp)
  unfold autL
  rw [key]
  constructor
  · rintro ⟨φ, H, hF, hL, _⟩
    exact ⟨φ, aut_of_ker g H hF, hL⟩
  · rintro ⟨φ, A, hL⟩
    exact ⟨φ, A.hom, fun a ha hae => A.inj a e ha g.elt (by rw [hae, IsHom.one g g A.hom]), hL, fun i hi => by simp at hi⟩
theorem inj_perm {φ : Nat → Nat} (hl : ∀ a, a < n → φ a < n) (hi : ∀ a b, a < n → b < n → φ a = φ b → a = b) : Pm.IsPerm (li ((List.range n).map φ)) := by
  refine ⟨fun i h => ?_, fun i j hij hj => ?_⟩
  · rw [hom_list_len] at h ⊢
    rw [hom_list_at h]
    have := hl i h
    omega
  · rw [hom_list_len] at hj
    rw [hom_list_at (by omega), hom_list_at hj]
    intro h9
    have := hi i j (by omega) hj (by omega)
    omega
theorem aut_perm {φ : Nat → Nat} (A : IsAut n zs e φ) : Pm.IsPerm (li ((List.range n).map φ)) := inj_perm A.hom.lt A.inj
theorem cjL_perm (g : IsGrp n zs e) {a : Nat} (ha : a < n) : Pm.IsPerm (cjL n zs e a) := by
  have F := grp_fg g
  have V := grp_iv g
  refine inj_perm (fun x hx => List.mem_range.1 (Fin.cj_mem F V (List.mem_range.2 hx) (List.mem_range.2 ha))) (fun x y hx hy h => ?_)
  have h1 := (Fin.cj_back F V (List.mem_range.2 hx) (List.mem_range.2 ha)).1
  have h2 := (Fin.cj_back F V (List.mem_range.2 hy) (List.mem_range.2 ha)).1
  rw [← h1, ← h2, h]
/-- An automorphism behind an inner one behind its inverse. -/
theorem aut_conj (g : IsGrp n zs e) {φ : Nat → Nat} (A : IsAut n zs e φ) {a : Nat} (ha : a < n) :
    Pm.mulL (Pm.mulL (Pm.invL (li ((List.range n).map φ))) (cjL n zs e a)) (li ((List.range n).map φ)) = cjL n zs e (φ a) := by
  have F := grp_fg g
  have V := grp_iv g
  have hP := aut_perm A
  have hL := hom_list_len (n := n) (φ := φ)
  have hil := Pm.invL_len (li ((List.range n).map φ))
  rw [hL] at hil
  apply Pm.list_ext
  · rw [Pm.mulL_len, Pm.mulL_len, hil, cjL_len]
  · intro y hy
    rw [Pm.mulL_len, Pm.mulL_len, hil] at hy
    obtain ⟨i, hi, hiy⟩ := Pm.perm_hits hP (y := y) (by rw [hL]; exact hy)
    rw [hL] at hi
    have h1 := Pm.invL_get hP (i := i) (by rw [hL]; exact hi)
    rw [hiy] at h1
    have hφ : φ i = y := by
      rw [← hiy]
      unfold Pm.nx
      rw [hom_list_at hi]
      rfl
    have hc := List.mem_range.1 (Fin.cj_mem F V (List.mem_range.2 hi) (List.mem_range.2 ha))
    rw [Pm.mulL_get _ (by rw [Pm.mulL_len, hil]; exact hy), Pm.mulL_get _ (by rw [hil]; exact hy), h1, Int.toNat_natCast, cjL_at hi, Int.toNat_natCast, hom_list_at hc, cjL_at hy]
    have h2 : Fin.cj (tm n zs) (iv n zs e) y (φ a) = φ (Fin.cj (tm n zs) (iv n zs e) i a) := by
      refine Fin.cj_unique F V (List.mem_range.2 hy) (List.mem_range.2 (A.hom.lt _ hc)) (List.mem_range.2 (A.hom.lt a ha)) ?_
      rw [← A.hom.mul _ _ ha hc, Fin.cj_eq F V (List.mem_range.2 hi) (List.mem_range.2 ha), A.hom.mul _ _ hi ha, hφ]
    rw [h2]
end
end Go.Proofs.YtmgengplfebmjaaDoor

namespace Go.Proofs.YtmgengplfebmjaaDoor
open Go Go.RowKit

theorem call41 (a x : Value) (W : World) : Sem.run Tryd.prog (callFunc 41 (#[a] ++ #[x])) W = .ok (.enter 41 (#[a] ++ #[x])) W := by kernel_rfl
set_option maxRecDepth 100000 in
set_option maxHeartbeats 4000000 in
theorem hin1_ok (nb : Nat) (nv mv : Value) (ds : List (List Int)) (xs : List Int) (w : World) (hN : Boxed w nb 25 nv) (hd : SlL w nv ds) (hm : Sl w mv xs) (hin : xs ∈ ds) :
    Calls Tryd.prog 41 (#[mv] ++ #[.pointer (some ⟨nb, 0, none⟩)]) w fun x w' => x = .returned (.bool true) ∧ Below w.heap.size w w' := by
  show Calls Tryd.prog 41 #[mv, .pointer (some ⟨nb, 0, none⟩)] w _
  obtain ⟨a, cap, pb, po, rfl, hat, hcell, hp, h4, h5⟩ := hd
  obtain ⟨m1, m2, m3, rfl⟩ := hm.isSlice
  obtain ⟨j0, hj0, hje⟩ := List.mem_iff_getElem.1 hin
  have h9 : ds.length ≤ 9223372036854775807 := by unfold maxLen at h5; omega
  obtain rfl := hat (by omega)
  have HC := hide hcell
  have HJ := hide (show ds[j0]?.getD [] = xs by rw [List.getElem?_eq_getElem hj0, Option.getD_some, hje])
  have k0 := hN.cell
  clear hat hcell hin hje h4 h5
  go_enter Tryd.func41, Tryd.ntmps41
  go_wp2
  go_loopw [4] (fun i wr => ∃ k : Nat, k ≤ j0 ∧ i = .int .i64 k ∧ Below w.heap.size w wr) (fun i _ => ds.length - (intOf i).toNat)
  case atStart => exact ⟨0, Nat.zero_le _, rfl, Below.refl _ _⟩
  case round =>
    obtain ⟨k, hk, rfl, hB⟩ := hrel
    have hlt : k < ds.length := by omega
    obtain ⟨x, hx, hs⟩ := HC.out k hlt
    obtain ⟨x1, x2, x3, rfl⟩ := hs.isSlice
    have k1 := below_cell hB k0
    have k2 := below_cell hB hx
    have HI := hide (ints_any (.slice x1 x2 x3) (.slice m1 m2 m3) _ _ wr (hs.below hB) (hm.below hB))
    have HK := hide (fun (h : ds[k]?.getD [] ≠ xs) => show k < j0 by
      rcases Nat.lt_or_ge k j0 with h8 | h8
      · exact h8
      · exact absurd (by rw [show k = j0 by omega]; exact HJ.out) h)
    clear hx
    generalize ds[k]?.getD [] = ys at *
    go_wp2_with fail
    refine HI.out.mono ?_
    rintro y w1 ⟨rfl, hb1⟩
    by_cases hxy : ys = xs
    · rw [decide_eq_true hxy]
      go_wp2
      go_ret
      exact ⟨rfl, bcat2 hB hb1⟩
    · rw [decide_eq_false hxy]
      have hk2 := HK.out hxy
      go_wp2
      go_roundw
      case rel => exact ⟨k + 1, by omega, by go_num, bcat2 hB hb1⟩
      case measure => simp [intOf]; omega

set_option maxRecDepth 100000 in
set_option maxHeartbeats 4000000 in
theorem hinn_bad (N c i : Int) (v1 : Option Addr) (v2 v3 : Nat) (w : World) (hT : Tab w) (hc : c ≠ 0)
    (HIN : Hid (∀ W, Below w.heap.size w W → Calls Tryd.prog 33 #[.agg #[.int .i64 N, .slice v1 v2 v3]] W fun x W' => x = .returned (.tuple #[.slice none 0 0, .agg #[.int .i64 c, .int .i64 i]]) ∧ Below W.heap.size W W'))
    (HCE : Hid (∀ W, Below w.heap.size w W → Calls Tryd.prog 40 #[.agg #[.int .i64 N, .slice v1 v2 v3]] W fun x W' => x = .returned (.tuple #[.slice none 0 0, .agg #[.int .i64 c, .int .i64 i]]) ∧ Below W.heap.size W W'))
    (HGF : Hid (∀ W, Below w.heap.size w W → Calls Tryd.prog 12 #[.agg #[.int .i64 N, .slice v1 v2 v3]] W fun x W' => x = .returned (.agg #[.int .i64 c, .int .i64 i]) ∧ Below W.heap.size W W')) :
    Calls Tryd.prog 7 #[.agg #[.int .i64 N, .slice v1 v2 v3]] w fun e w' => e = .returned (.bool true) ∧ Below w.heap.size w w' := by
  have hB0 : Below w.heap.size w (w.alloc (.cells #[.int .i64 N, .slice v1 v2 v3] 24)) := balloc w _
  have hX0 : BoxG (w.alloc (.cells #[.int .i64 N, .slice v1 v2 v3] 24)) w.heap.size N (.slice v1 v2 v3) := blk0 (w := w) (T := 24) _ _
  obtain ⟨w0, hw0⟩ : ∃ w0, w0 = w.alloc (.cells #[.int .i64 N, .slice v1 v2 v3] 24) := ⟨_, rfl⟩
  rw [← hw0] at hB0 hX0
  go_enter Tryd.func7, Tryd.ntmps7
  go_wp2_with fail
  rw [← hw0]
  clear hw0
  refine (homBegun_any _ (hT.below hB0)).mono ?_
  rintro x w1 ⟨rfl, hb1⟩
  have hB := bcat2 hB0 hb1
  have hX := blk_below hX0 hb1
  clear hB0 hX0 hb1
  obtain ⟨c0, c1, _, _⟩ := hX.two
  go_wp2_with fail
  clear c0 c1
  refine (HIN.out _ hB).mono ?_
  rintro x w2 ⟨rfl, hb2⟩
  have hB := bcat2 hB hb2
  have hX := blk_below hX hb2
  obtain ⟨w3, hw3⟩ : ∃ w3, w3 = (w2.alloc (.cells #[.slice none 0 0] 25)).alloc (.cells #[.int .i64 c, .int .i64 i] 27) := ⟨_, rfl⟩
  have hb3 : Below w2.heap.size w2 w3 := by rw [hw3]; exact (balloc w2 _).alloc (by simp) _
  have hF3 : Blk w3 (w2.heap.size + 1) 27 [.int .i64 c, .int .i64 i] := by
    rw [hw3]
    have := blk0 (w := w2.alloc (.cells #[.slice none 0 0] 25)) (T := 27) (.int .i64 c) (.int .i64 i)
    rwa [World.size_alloc] at this
  have hcb : (c != 0) = true := by simpa using hc
  have hB := bcat2 hB hb3
  have hX := blk_below hX hb3
  obtain ⟨c0, c1, _, _⟩ := hX.two
  rw [hw3] at c0 c1
  go_wp2_with fail
  rw [← hw3]
  clear hw3 c0 c1
  refine (HCE.out _ hB).mono ?_
  rintro x w4 ⟨rfl, hb4⟩
  have hB := bcat2 hB hb4
  have hX := blk_below hX hb4
  have hF4 := blk_below hF3 hb4
  have hF5 : Blk (w4.alloc (.cells #[.int .i64 c, .int .i64 i] 27)) (w2.heap.size + 1) 27 [.int .i64 c, .int .i64 i] := hF4.alloc _
  have hX5 : BoxG (w4.alloc (.cells #[.int .i64 c, .int .i64 i] 27)) w.heap.size N (.slice v1 v2 v3) := hX.alloc _
  have hB5 := bcat2 hB (balloc w4 (.cells #[.int .i64 c, .int .i64 i] 27))
  obtain ⟨c0, c1, _, _⟩ := hX5.two
  obtain ⟨f0, f1, _, _⟩ := hF5.two
  go_wp2_with fail
  clear c0 c1 f0 f1
  generalize w4.alloc (.cells #[.int .i64 c, .int .i64 i] 27) = w5 at *
  refine (HGF.out _ hB5).mono ?_
  rintro x w6 ⟨rfl, hb6⟩
  have hfd := field27 c i w6
  go_wp2
  go_ret
  exact ⟨rfl, bcat2 hB5 hb6⟩
set_option maxRecDepth 100000 in
set_option maxHeartbeats 8000000 in
theorem hinn_good (n e z : Nat) (zs : List Int) (v1 : Option Addr) (v2 v3 : Nat) (w : World) (hT : Tab w) (hg : IsGrp n zs e)
    (HIN : Hid (∀ W, Below w.heap.size w W → Calls Tryd.prog 33 #[.agg #[.int .i64 n, .slice v1 v2 v3]] W fun x W' => ∃ (r1 : Option Addr) (r3 : Nat) (ds : List (List Int)), x = .returned (.tuple #[.slice r1 ds.length r3, .agg #[.int .i64 0, .int .i64 0]]) ∧ ds.length * z = n ∧ (∀ x, x ∈ ds ↔ ∃ a, a < n ∧ x = cjL n zs e a) ∧ SlL W' (.slice r1 ds.length r3) ds ∧ Below W.heap.size W W'))
    (HCE : Hid (∀ W, Below w.heap.size w W → Calls Tryd.prog 40 #[.agg #[.int .i64 n, .slice v1 v2 v3]] W fun x W' => ∃ (r1 : Option Addr) (r3 : Nat), x = .returned (.tuple #[.slice r1 z r3, .agg #[.int .i64 0, .int .i64 0]]) ∧ Below W.heap.size W W'))
    (HAU : Hid (∀ W, Below w.heap.size w W → Calls Tryd.prog 32 #[.agg #[.int .i64 n, .slice v1 v2 v3]] W fun x W' => ∃ c : Int, (c = 2 ∨ c = 9) ∧ x = .returned (.tuple #[.slice none 0 0, .agg #[.int .i64 c, .int .i64 0]]) ∧ Below W.heap.size W W') ∨
      Hid (∀ W, Below w.heap.size w W → Calls Tryd.prog 32 #[.agg #[.int .i64 n, .slice v1 v2 v3]] W fun x W' => ∃ (r1 : Option Addr) (r3 : Nat) (ls : List (List Int)), x = .returned (.tuple #[.slice r1 ls.length r3, .agg #[.int .i64 0, .int .i64 0]]) ∧ (∀ L, L ∈ ls → ∃ φ, IsAut n zs e φ ∧ L = li ((List.range n).map φ)) ∧ ls.length ≤ 1000 ∧ SlL W' (.slice r1 ls.length r3) ls ∧ Below W.heap.size W W')) :
    Calls Tryd.prog 7 #[.agg #[.int .i64 n, .slice v1 v2 v3]] w fun e w' => e = .returned (.bool true) ∧ Below w.heap.size w w' := by
  have hn60 := hg.tab.le
  have hn0 : 0 < n := Nat.lt_of_le_of_lt (Nat.zero_le _) hg.elt
  have hB0 : Below w.heap.size w (w.alloc (.cells #[.int .i64 n, .slice v1 v2 v3] 24)) := balloc w _
  have hX0 : BoxG (w.alloc (.cells #[.int .i64 n, .slice v1 v2 v3] 24)) w.heap.size n (.slice v1 v2 v3) := blk0 (w := w) (T := 24) _ _
  obtain ⟨w0, hw0⟩ : ∃ w0, w0 = w.alloc (.cells #[.int .i64 n, .slice v1 v2 v3] 24) := ⟨_, rfl⟩
  rw [← hw0] at hB0 hX0
  go_enter Tryd.func7, Tryd.ntmps7
  go_wp2_with fail
  rw [← hw0]
  clear hw0
  refine (homBegun_any _ (hT.below hB0)).mono ?_
  rintro x w1 ⟨rfl, hb1⟩
  have hB := bcat2 hB0 hb1
  have hX := blk_below hX0 hb1
  clear hB0 hX0 hb1
  obtain ⟨c0, c1, _, _⟩ := hX.two
  go_wp2_with fail
  clear c0 c1
  refine (HIN.out _ hB).mono ?_
  rintro x w2 ⟨r1, r3, ds, rfl, hdz, hdm, hds, hb2⟩
  have hB := bcat2 hB hb2
  have hX := blk_below hX hb2
  obtain ⟨w3, hw3⟩ : ∃ w3, w3 = (w2.alloc (.cells #[.slice r1 ds.length r3] 25)).alloc (.cells #[.int .i64 0, .int .i64 0] 27) := ⟨_, rfl⟩
  have hb3 : Below w2.heap.size w2 w3 := by rw [hw3]; exact (balloc w2 _).alloc (by simp) _
  have hF3 : Blk w3 (w2.heap.size + 1) 27 [.int .i64 0, .int .i64 0] := by
    rw [hw3]
    have := blk0 (w := w2.alloc (.cells #[.slice r1 ds.length r3] 25)) (T := 27) (.int .i64 0) (.int .i64 0)
    rwa [World.size_alloc] at this
  have hN3 : Boxed w3 w2.heap.size 25 (.slice r1 ds.length r3) := by rw [hw3]; exact (Boxed.new w2 25 _).alloc _
  have hB := bcat2 hB hb3
  have hX := blk_below hX hb3
  have hds := hds.below hb3
  obtain ⟨c0, c1, _, _⟩ := hX.two
  rw [hw3] at c0 c1
  go_wp2_with fail
  rw [← hw3]
  clear hw3 c0 c1
  refine (HCE.out _ hB).mono ?_
  rintro x w4 ⟨z1, z3, rfl, hb4⟩
  have hb5 := bcat2 hb4 (balloc w4 (.cells #[.int .i64 0, .int .i64 0] 27))
  have hB := bcat2 hB hb5
  have hX := blk_below hX hb5
  have hF5 := blk_below hF3 hb5
  have hN5 := Boxed.below hN3 hb5
  have hds := hds.below hb5
  obtain ⟨c0, c1, _, _⟩ := hX.two
  obtain ⟨f0, f1, _, _⟩ := hF5.two
  have k0 := hN5.cell
  have hd60 : ds.length ≤ 60 := by
    have hz0 : 0 < z := by
      rcases Nat.eq_zero_or_pos z with h9 | h9
      · rw [h9, Nat.mul_zero] at hdz; omega
      · exact h9
    have := Nat.le_mul_of_pos_right ds.length hz0
    omega
  have hd0 : 0 < ds.length := by
    rcases Nat.eq_zero_or_pos ds.length with h9 | h9
    · rw [h9, Nat.zero_mul] at hdz; omega
    · exact h9
  have hmul : ((ds.length : Nat) : Int) * (z : Int) = (n : Int) := by rw [← Int.natCast_mul, hdz]
  have hwn : IntKind.i64.wrap (n : Int) = (n : Int) := by rw [IntKind.wrap_i64]; omega
  clear hdz
  go_wp2_with fail
  clear c0 c1 f0 f1 k0 hmul hwn
  generalize w4.alloc (.cells #[.int .i64 0, .int .i64 0] 27) = w5 at *
  rcases HAU with HAU | HAU
  · refine (HAU.out _ hB).mono ?_
    rintro x w6 ⟨c, hc, rfl, hb6⟩
    have hF6 := blk0 (w := w6) (T := 27) (.int .i64 c) (.int .i64 0)
    obtain ⟨f0, f1, _, _⟩ := hF6.two
    have hB6 := bcat2 hB (bcat2 hb6 (balloc w6 (.cells #[.int .i64 c, .int .i64 0] 27)))
    rcases hc with rfl | rfl
    · go_wp2
      go_ret
      exact ⟨rfl, hB6⟩
    · go_wp2
      go_ret
      exact ⟨rfl, hB6⟩
  · refine (HAU.out _ hB).mono ?_
    rintro x w6 ⟨l1, l3, ls, rfl, hla, hl1000, hls, hb6⟩
    have hF7 := blk0 (w := w6) (T := 27) (.int .i64 0) (.int .i64 0)
    have hb7 := bcat2 hb6 (balloc w6 (.cells #[.int .i64 0, .int .i64 0] 27))
    have hB := bcat2 hB hb7
    have hX := blk_below hX hb7
    have hN := Boxed.below hN5 hb7
    have hds := hds.below hb7
    have hls := hls.below (balloc w6 (.cells #[.int .i64 0, .int .i64 0] 27))
    obtain ⟨f0, f1, _, _⟩ := hF7.two
    have k0 := hN.cell
    obtain ⟨q, hq⟩ : ∃ q, ls.length * ds.length = q := ⟨_, rfl⟩
    have hqi : ((ls.length : Nat) : Int) * ((ds.length : Nat) : Int) = (q : Int) := by rw [← Int.natCast_mul, hq]
    have hqb : q ≤ 60000 := by rw [← hq]; exact Nat.le_trans (Nat.mul_le_mul hl1000 hd60) (by omega)
    have hwq : IntKind.i64.wrap (q : Int) = (q : Int) := by rw [IntKind.wrap_i64]; omega
    clear hq
    by_cases hbig : 2000 < q
    · have hbi : (2000 : Int) < (q : Int) := by omega
      go_wp2
      go_ret
      exact ⟨rfl, hB⟩
    · have hbi : ¬ (2000 : Int) < (q : Int) := by omega
      go_wp2
      clear f0 f1 k0 hqi hwq hF7 hF5 hF3 hN3 hN5 hb3 hb5
      obtain ⟨w7, hw7⟩ : ∃ w7, w7 = w6.alloc (.cells #[.int .i64 0, .int .i64 0] 27) := ⟨_, rfl⟩
      rw [← hw7] at hB hX hN hds hls ⊢
      clear hw7
      obtain ⟨da, dcap, dpb, dpo, hdv, hdat, hdc, hdp, hd4, hd5⟩ := hds
      injection hdv with e1 e2 e3
      subst e1 e3
      obtain rfl := hdat hd0
      obtain ⟨la, lcap, lpb, lpo, hlv, hlat, hlc, hlp, hl4, hl5⟩ := hls
      injection hlv with e1 e2 e3
      subst e1 e3
      have HD := hide (show ∀ j, j < ds.length → ∃ (a : Nat) (x1 : Option Addr) (x3 : Nat), a < n ∧ w7.cell? ⟨dpb, dpo + j, none⟩ = some (.slice x1 n x3) ∧ Sl w7 (.slice x1 n x3) (cjL n zs e a) from fun j hj => by
        obtain ⟨x, hx1, hx2⟩ := hdc j hj
        rw [List.getElem?_eq_getElem hj, Option.getD_some] at hx2
        obtain ⟨a, ha, hae⟩ := (hdm _).1 (List.getElem_mem hj)
        rw [hae] at hx2
        obtain ⟨xa, xc, _, _, rfl, _⟩ := id hx2
        rw [cjL_len] at hx1 hx2
        exact ⟨a, xa, xc, ha, hx1, hx2⟩)
      have HL := hide (show ∀ j, j < ls.length → ∃ (φ : Nat → Nat) (x1 : Option Addr) (x3 : Nat), IsAut n zs e φ ∧ w7.cell? ⟨lpb, lpo + j, none⟩ = some (.slice x1 n x3) ∧ Sl w7 (.slice x1 n x3) (li ((List.range n).map φ)) from fun j hj => by
        obtain ⟨x, hx1, hx2⟩ := hlc j hj
        rw [List.getElem?_eq_getElem hj, Option.getD_some] at hx2
        obtain ⟨φ, hφ, hφe⟩ := hla _ (List.getElem_mem hj)
        rw [hφe] at hx2
        obtain ⟨xa, xc, _, _, rfl, _⟩ := id hx2
        rw [hom_list_len] at hx1 hx2
        exact ⟨φ, xa, xc, hφ, hx1, hx2⟩)
      have HDM := hide hdm
      have HSD := hide (show SlL w7 (.slice (some ⟨dpb, dpo, none⟩) ds.length r3) ds from ⟨_, _, dpb, dpo, rfl, fun _ => rfl, hdc, hdp, hd4, hd5⟩)
      have HLA := hide hlat
      have hfd : ∀ W, (Instr.field 27 (.agg #[.int .i64 0, .int .i64 0]) 0).run Tryd.prog W = .ok (.int .i64 0) W := fun W => field27 0 0 W
      clear hdm hdc hlc hla hdat hlat hd4 hd5 hl4 hl5 e2
      go_loopw [10] (fun i wr => ∃ k : Nat, k ≤ ls.length ∧ i = .int .i64 k ∧ Below w7.heap.size w7 wr) (fun i _ => ls.length - (intOf i).toNat)
      case atStart => exact ⟨0, Nat.zero_le _, rfl, Below.refl _ _⟩
      case round =>
        obtain ⟨k, hk, rfl, hBk⟩ := hrel
        by_cases hlt : k < ls.length
        · obtain rfl := HLA.out (by omega)
          have hki : (k : Int) < (ls.length : Int) := by omega
          obtain ⟨φ, x1, x3, hA, hxc, hxs⟩ := HL.out k hlt
          have hP := aut_perm hA
          have hPl : (li ((List.range n).map φ)).length = n := hom_list_len
          have HPF := hide (show ∀ W, Below wr.heap.size wr W → Calls Tryd.prog 42 #[.slice x1 n x3] W fun e w' => e = .returned (.agg #[.int .i64 0, .int .i64 0]) ∧ Below W.heap.size W w' from fun W h => by
            have := Pm.permFault_any (.slice x1 n x3) _ W ((hxs.below hBk).below h)
            rw [Pm.fault_of_perm hP (by rw [hPl]; omega)] at this
            exact this)
          have HIV := hide (show ∀ W, Below wr.heap.size wr W → Calls Tryd.prog 43 #[.slice x1 n x3] W fun e w' => ∃ (b1 : Option Addr) (b3 : Nat), e = .returned (.slice b1 n b3) ∧ Sl w' (.slice b1 n b3) (Pm.invL (li ((List.range n).map φ))) ∧ Below W.heap.size W w' from fun W h => by
            refine (Pm.inverse_ok (.slice x1 n x3) _ W ((hxs.below hBk).below h) hP (by rw [hPl]; omega)).mono ?_
            rintro e w' ⟨r, rfl, hr, hb⟩
            have hs := row_sl hr (Nat.lt_of_lt_of_le (Nat.lt_of_lt_of_le (Nat.lt_of_lt_of_le (Nat.lt_of_le_of_lt (Nat.zero_le _) hlp) hBk.size) h.size) hb.size)
            obtain ⟨b1, b3, rfl⟩ := own_slice hr
            rw [Pm.invL_len, hPl] at hs ⊢
            exact ⟨b1, b3, rfl, hs, hb⟩)
          have hXk := blk_below hX hBk
          obtain ⟨c0, _, _, _⟩ := hXk.two
          have cl := below_cell hBk hxc
          have hS : ∀ W, Below wr.heap.size wr W → (Below wr.heap.size wr W ∧ W.cell? ⟨w.heap.size, 0, none⟩ = some (.int .i64 n) ∧ W.cell? ⟨lpb, lpo + k, none⟩ = some (.slice x1 n x3)) := fun W h => ⟨h, below_cell h c0, below_cell h cl⟩
          have hS0 := hS _ (bdrew (Below.refl _ wr))
          go_wp2_with fail
          clear c0 cl
          go_region_held3 (fun W => Below wr.heap.size wr W ∧ W.cell? ⟨w.heap.size, 0, none⟩ = some (.int .i64 n) ∧ W.cell? ⟨lpb, lpo + k, none⟩ = some (.slice x1 n x3))
            (first | exact hS0 | assumption | exact hS _ (bcat2 (And.left ‹_›) hq1))
            (first | (go_at_call 42; refine (HPF.out _ (And.left ‹_›)).mono ?_; rintro e1 W1 ⟨rfl, hq1⟩))
          all_goals (
            obtain ⟨hB9, c0, cl⟩ := ‹Below wr.heap.size wr W1 ∧ _›
            clear hq1 hS hS0
            go_wp2_with fail
            refine (HIV.out _ hB9).mono ?_
            rintro x W2 ⟨b1, b3, rfl, hbs, hb2⟩
            have hB2 := bcat2 hBk (bcat2 hB9 hb2)
            clear c0 cl
            go_wp2
            go_loopw [12] (fun i wr => ∃ j : Nat, j ≤ ds.length ∧ i = .int .i64 j ∧ Below W2.heap.size W2 wr) (fun i _ => ds.length - (intOf i).toNat)
            case atStart => exact ⟨0, Nat.zero_le _, rfl, Below.refl _ _⟩
            case round =>
              obtain ⟨j, hj, rfl, hBj⟩ := hrel
              obtain ⟨wj, rfl⟩ : ∃ wj, wj = wr := ⟨_, rfl⟩
              have hB3 := bcat2 hB2 hBj
              have hNj := Boxed.below hN hB3
              have k0 := hNj.cell
              by_cases hjl : j < ds.length
              · have hji : (j : Int) < (ds.length : Int) := by omega
                obtain ⟨a, y1, y3, ha, hyc, hys⟩ := HD.out j hjl
                have hQ := cjL_perm hg ha
                have hQl : (cjL n zs e a).length = n := cjL_len n zs e a
                have hil : (Pm.invL (li ((List.range n).map φ))).length = n := by rw [Pm.invL_len, hPl]
                have hIP := Pm.invL_perm hP
                have hm1 := Pm.mulL_perm hIP hQ (by rw [hil, hQl])
                have hml : (Pm.mulL (Pm.invL (li ((List.range n).map φ))) (cjL n zs e a)).length = n := by rw [Pm.mulL_len, hil]
                have h0w : ∀ W, Below wj.heap.size wj W → 0 < W.heap.size := fun W h => Nat.lt_of_lt_of_le (Nat.lt_of_lt_of_le (Nat.lt_of_le_of_lt (Nat.zero_le _) hlp) hB3.size) h.size
                have HP2 := hide (show ∀ W, Below wj.heap.size wj W → Calls Tryd.prog 42 #[.slice y1 n y3] W fun e w' => e = .returned (.agg #[.int .i64 0, .int .i64 0]) ∧ Below W.heap.size W w' from fun W h => by
                  have := Pm.permFault_any (.slice y1 n y3) _ W ((hys.below hB3).below h)
                  rw [Pm.fault_of_perm hQ (by rw [hQl]; omega)] at this
                  exact this)
                have HT1 := hide (show ∀ W, Below wj.heap.size wj W → Calls Tryd.prog 44 #[.slice b1 n b3, .slice y1 n y3] W fun x9 w' => ∃ (t1 : Option Addr) (t3 : Nat), x9 = .returned (.slice t1 n t3) ∧ Sl w' (.slice t1 n t3) (Pm.mulL (Pm.invL (li ((List.range n).map φ))) (cjL n zs e a)) ∧ Below W.heap.size W w' from fun W h => by
                  refine (then_ok (.slice b1 n b3) (.slice y1 n y3) _ _ W ((hbs.below hBj).below h) ((hys.below hB3).below h) (fun k hk => ⟨Pm.nx _ k, (Pm.nx_lt hIP hk).2, by have h7 := (Pm.nx_lt hIP hk).1; rw [hil] at h7; rw [hQl]; exact h7⟩) (by rw [hil]; omega)).mono ?_
                  rintro e9 w' ⟨r, rfl, hr, hb⟩
                  have hr : Row w' W.heap.size r (Pm.mulL (Pm.invL (li ((List.range n).map φ))) (cjL n zs e a)) := hr
                  have hs := row_sl hr (Nat.lt_of_lt_of_le (h0w W h) hb.size)
                  obtain ⟨t1, t3, rfl⟩ := own_slice hr
                  rw [hml] at hs ⊢
                  exact ⟨t1, t3, rfl, hs, hb⟩)
                have HT2 := hide (show ∀ W t1 t3, Below wj.heap.size wj W → Sl W (.slice t1 n t3) (Pm.mulL (Pm.invL (li ((List.range n).map φ))) (cjL n zs e a)) → Calls Tryd.prog 44 #[.slice t1 n t3, .slice x1 n x3] W fun x9 w' => ∃ (t1 : Option Addr) (t3 : Nat), x9 = .returned (.slice t1 n t3) ∧ Sl w' (.slice t1 n t3) (cjL n zs e (φ a)) ∧ Below W.heap.size W w' from fun W t1 t3 h hs9 => by
                  refine (then_ok (.slice t1 n t3) (.slice x1 n x3) _ _ W hs9 ((hxs.below hB3).below h) (fun k hk => ⟨Pm.nx _ k, (Pm.nx_lt hm1 hk).2, by have h7 := (Pm.nx_lt hm1 hk).1; rw [hml] at h7; rw [hPl]; exact h7⟩) (by rw [hml]; omega)).mono ?_
                  rintro e9 w' ⟨r, rfl, hr, hb⟩
                  have hr : Row w' W.heap.size r (Pm.mulL (Pm.mulL (Pm.invL (li ((List.range n).map φ))) (cjL n zs e a)) (li ((List.range n).map φ))) := hr
                  rw [aut_conj hg hA ha] at hr
                  have hs := row_sl hr (Nat.lt_of_lt_of_le (h0w W h) hb.size)
                  obtain ⟨t1, t3, rfl⟩ := own_slice hr
                  rw [cjL_len] at hs ⊢
                  exact ⟨t1, t3, rfl, hs, hb⟩)
                have HCL := hide (show ∀ W t1 t3, Below wj.heap.size wj W → Sl W (.slice t1 n t3) (cjL n zs e (φ a)) → Calls Tryd.prog 41 (#[.slice t1 n t3] ++ #[.pointer (some ⟨w2.heap.size, 0, none⟩)]) W fun e w' => e = .returned (.bool true) ∧ Below W.heap.size W w' from fun W t1 t3 h hs9 =>
                  hin1_ok w2.heap.size (.slice (some ⟨dpb, dpo, none⟩) ds.length r3) (.slice t1 n t3) ds _ W (Boxed.below hNj h) ((HSD.out.below hB3).below h) hs9 ((HDM.out _).2 ⟨φ a, hA.hom.lt a ha, rfl⟩))
                have hXj := blk_below hX hB3
                obtain ⟨c0, _, _, _⟩ := hXj.two
                have cl := below_cell hB3 hxc
                have cd := below_cell hB3 hyc
                have hcall := call41
                have hS : ∀ W, Below wj.heap.size wj W → (Below wj.heap.size wj W ∧ W.cell? ⟨w.heap.size, 0, none⟩ = some (.int .i64 n) ∧ W.cell? ⟨lpb, lpo + k, none⟩ = some (.slice x1 n x3) ∧ W.cell? ⟨dpb, dpo + j, none⟩ = some (.slice y1 n y3) ∧ W.cell? ⟨w2.heap.size, 0, none⟩ = some (.slice (some ⟨dpb, dpo, none⟩) ds.length r3)) := fun W h => ⟨h, below_cell h c0, below_cell h cl, below_cell h cd, below_cell h k0⟩
                have hS0 := hS _ (bdrew (Below.refl _ wj))
                clear hyc hQ hQl hil hIP hm1 hml h0w hys
                go_wp2_with fail
                clear c0 cl cd k0
                go_region_held3 (fun W => Below wj.heap.size wj W ∧ W.cell? ⟨w.heap.size, 0, none⟩ = some (.int .i64 n) ∧ W.cell? ⟨lpb, lpo + k, none⟩ = some (.slice x1 n x3) ∧ W.cell? ⟨dpb, dpo + j, none⟩ = some (.slice y1 n y3) ∧ W.cell? ⟨w2.heap.size, 0, none⟩ = some (.slice (some ⟨dpb, dpo, none⟩) ds.length r3))
                  (first | exact hS0 | assumption | exact hS _ (bcat2 (And.left ‹_›) hq4) | exact hS _ (bcat2 (And.left ‹_›) hq3) | exact hS _ (bcat2 (And.left ‹_›) hq2) | exact hS _ (bcat2 (And.left ‹_›) hq1))
                  (first
                    | (go_at_call 42; refine (HP2.out _ (And.left ‹_›)).mono ?_; rintro e1 U1 ⟨rfl, hq1⟩)
                    | (go_at_call_of 44 (Value.slice b1 n b3); refine (HT1.out _ (And.left ‹_›)).mono ?_; rintro e2 U2 ⟨t1, t3, rfl, ht2, hq2⟩)
                    | (go_at_call_of 44 (Value.slice x1 n x3); refine (HT2.out _ _ _ (And.left ‹_›) ht2).mono ?_; rintro e3 U3 ⟨t5, t7, rfl, ht3, hq3⟩)
                    | (go_at_call 41; refine (HCL.out _ _ _ (And.left ‹_›) ht3).mono ?_; rintro e4 U4 ⟨rfl, hq4⟩))
                all_goals (
                  have hB8 := And.left ‹Below wj.heap.size wj U4 ∧ _›
                  go_wp2
                  go_roundw
                  case rel => exact ⟨j + 1, by omega, by go_num, bcat2 hBj hB8⟩
                  case measure => simp [intOf]; omega)
              · have hji : ¬ (j : Int) < (ds.length : Int) := by omega
                go_wp2
                go_roundw
                case rel => exact ⟨k + 1, by omega, by go_num, bcat2 hB2 hBj⟩
                case measure => simp [intOf]; omega)
        · have hki : ¬ (k : Int) < (ls.length : Int) := by omega
          go_wp2
          go_ret
          exact ⟨rfl, bcat2 hB hBk⟩
end Go.Proofs.YtmgengplfebmjaaDoor

namespace Go.Proofs.YtmgengplfebmjaaDoor
open Go Go.RowKit

theorem hinn_law (N : Int) (v : Value) (zs : List Int) (w : World) (hv : Sl w v zs) (hT : Tab w) :
    Calls Tryd.prog 7 #[.agg #[.int .i64 N, v]] w fun e w' => e = .returned (.bool true) ∧ Below w.heap.size w w' := by
  obtain ⟨v1, v2, v3, rfl⟩ := hv.isSlice
  by_cases hc : (gfault N zs).1 = 0
  · obtain ⟨n, e, rfl, hg, _⟩ := gfault_grp hc
    refine hinn_good n e (lst n (cenq n zs (fun _ => true))).length zs v1 v2 v3 w hT hg (hide fun W h => ?_) (hide fun W h => ?_) ?_
    · refine (inner_good n e (.slice v1 v2 v3) zs W (hv.below h) hg).mono ?_
      rintro x W' ⟨r1, r2, r3, ms, rfl, hp, hs, hL, hb⟩
      obtain ⟨a, cap, pb, po, hve, h1, h2, h3, h4, h5⟩ := id hL
      injection hve with e1 e2 e3
      subst e1 e2 e3
      exact ⟨r1, r3, dd ms, rfl, (inn_many hg hp hs).symm, fun x => by rw [dd_mem, hp.mem_iff, inn_mem], hL, hb⟩
    · refine (centre_good n e (.slice v1 v2 v3) zs W (hv.below h) hg (hT.below h)).mono ?_
      rintro x W' ⟨r, rfl, hr, hb⟩
      obtain ⟨a, cap, _, _, rfl, _⟩ := hr.sl
      rw [li_len]
      exact ⟨a, cap, rfl, hb⟩
    · by_cases h24 : n ≤ 24
      · by_cases hmany : ∀ ks, LM n zs e ks → (∀ a, a < n → Mkd n zs e (fun x => decide (x ∈ ks)) a) → (autL n zs e ks).length ≤ 1000
        · refine .inr (hide fun W h => ?_)
          refine (autos_good n e (.slice v1 v2 v3) zs W (hv.below h) hg (hT.below h) h24 hmany).mono ?_
          rintro x W' ⟨ks, r, vs, rfl, hLM, hgen, hrow, hls, hb⟩
          have hsl := SlL.of_own hrow hls (Nat.lt_of_lt_of_le (Nat.lt_of_lt_of_le hT.lt h.size) hb.size)
          obtain ⟨ra, rc, rfl⟩ := own_slice' hrow
          rw [hls.1] at hsl ⊢
          exact ⟨ra, rc, _, rfl, fun L hL => (aut_mem hg hLM.lt hgen).1 hL, hmany ks hLM hgen, hsl, hb⟩
        · refine .inl (hide fun W h => ?_)
          have hex : ∃ ks, LM n zs e ks ∧ (∀ a, a < n → Mkd n zs e (fun x => decide (x ∈ ks)) a) ∧ 1000 < (autL n zs e ks).length := Classical.byContradiction fun hno => hmany fun ks h1 h2 => Classical.byContradiction fun h3 => hno ⟨ks, h1, h2, by omega⟩
          obtain ⟨k0, hk1, hk2, hk3⟩ := hex
          refine (autos_much n e (.slice v1 v2 v3) zs W (hv.below h) hg (hT.below h) h24 (fun ks h1 h2 => by rw [lm_unique h1 hk1 h2 hk2]; exact hk3)).mono ?_
          rintro x W' ⟨rfl, hb⟩
          exact ⟨9, .inr rfl, rfl, hb⟩
      · refine .inl (hide fun W h => ?_)
        refine (autos_many n e (.slice v1 v2 v3) zs W (hv.below h) hg (by omega)).mono ?_
        rintro x W' ⟨rfl, hb⟩
        exact ⟨2, .inl rfl, rfl, hb⟩
  · exact hinn_bad N _ _ v1 v2 v3 w hT hc (hide fun W h => inner_bad N (.slice v1 v2 v3) zs W (hv.below h) hc) (hide fun W h => centre_bad N (.slice v1 v2 v3) zs W (hv.below h) hc) (hide fun W h => groupFault_any N (.slice v1 v2 v3) zs W (hv.below h))
end Go.Proofs.YtmgengplfebmjaaDoor
