/- What the law HomExtends answers: true, at all tables and lists; with what makers and images are extended to, the document's Spread, wrongPlaces and Extend. Condition: the library's table of places lies as its text lays it. -/
import Derived.Test.YtmgengplfebmjaaDoorHz
import Derived.Test.YtmgengplfebmjaaDoorHy
namespace Go.Proofs.YtmgengplfebmjaaDoor
open Go Go.RowKit

section
variable {n e m d : Nat} {zs ys : List Int} {S S' : List Int × List Nat} {ps : List (Nat × Nat)} {φ : Nat → Nat}
/-- What stands stays. -/
structure Grow (S S' : List Int × List Nat) : Prop where
  pre : S.2 <+: S'.2
  val : ∀ x, x ∈ S.2 → S'.1[x]?.getD 0 = S.1[x]?.getD 0
theorem Grow.refl (S : List Int × List Nat) : Grow S S := ⟨List.prefix_rfl, fun _ _ => rfl⟩
theorem Grow.mem (h : Grow S S') {x : Nat} (hx : x ∈ S.2) : x ∈ S'.2 := h.pre.subset hx
theorem Grow.trans {T : List Int × List Nat} (h : Grow S S') (k : Grow S' T) : Grow S T := ⟨h.pre.trans k.pre, fun x hx => (k.val x (h.mem hx)).trans (h.val x hx)⟩
theorem pre_get {l k : List Nat} (h : l <+: k) {j a : Nat} (hj : l[j]? = some a) : k[j]? = some a := by
  obtain ⟨t, ht⟩ := h
  rw [← ht, List.getElem?_append_left (List.getElem?_eq_some_iff.1 hj).1]
  exact hj
/-- A product with a maker is found, and stands for the product. -/
def OkP (n : Nat) (zs : List Int) (m : Nat) (ys : List Int) (S : List Int × List Nat) (a : Nat) (p : Nat × Nat) : Prop := tm n zs a p.1 ∈ S.2 ∧ S.1[tm n zs a p.1]?.getD 0 = (tm m ys (S.1[a]?.getD 0).toNat p.2 : Int)
theorem OkP.grow {a : Nat} {p : Nat × Nat} (h : OkP n zs m ys S a p) (hg : Grow S S') (ha : a ∈ S.2) : OkP n zs m ys S' a p :=
  ⟨hg.mem h.1, by rw [hg.val _ h.1, h.2, hg.val _ ha]⟩
/-- Words of makers. -/
inductive Wd (n : Nat) (zs : List Int) (e : Nat) (ps : List (Nat × Nat)) : Nat → Prop
  | one : Wd n zs e ps e
  | mul {x : Nat} {p : Nat × Nat} : Wd n zs e ps x → p ∈ ps → Wd n zs e ps (tm n zs x p.1)
theorem exS_grow (h : XI n m S) (ht : IsTab n zs) {a : Nat} {p : Nat × Nat} (ha : a ∈ S.2) (h1 : p.1 < n) (hs : exS n zs m ys a S p = some S') : Grow S S' ∧ OkP n zs m ys S' a p ∧ ∀ x, x ∈ S'.2 → x ∈ S.2 ∨ x = tm n zs a p.1 := by
  have hc := tm_lt ht (h.lt a ha) h1
  unfold exS at hs
  split at hs
  · rename_i hm
    obtain rfl := Option.some.inj hs
    have hnc : tm n zs a p.1 ∉ S.2 := fun hin => by have := h.ok _ hin; omega
    have hv : ∀ x, x ∈ S.2 → ((S.1.set (tm n zs a p.1) (tm m ys (S.1[a]?.getD 0).toNat p.2 : Int)))[x]?.getD 0 = S.1[x]?.getD 0 := fun x hx => by
      rw [get_set (by rw [h.len]; exact hc), if_neg (fun he : x = tm n zs a p.1 => hnc (he ▸ hx))]
    refine ⟨⟨List.prefix_append _ _, hv⟩, ⟨by simp, ?_⟩, fun x hx => ?_⟩
    · show (S.1.set _ _)[tm n zs a p.1]?.getD 0 = (tm m ys ((S.1.set (tm n zs a p.1) (tm m ys (S.1[a]?.getD 0).toNat p.2 : Int))[a]?.getD 0).toNat p.2 : Int)
      rw [hv a ha, get_set (by rw [h.len]; exact hc), if_pos rfl]
    · rcases List.mem_append.1 hx with hx | hx
      · exact .inl hx
      · exact .inr (by simpa using hx)
  · rename_i hm
    split at hs
    · rename_i hv
      obtain rfl := Option.some.inj hs
      refine ⟨Grow.refl _, ⟨?_, hv⟩, fun x hx => .inl hx⟩
      by_cases hin : tm n zs a p.1 ∈ S.2
      · exact hin
      · exact absurd (h.no _ hc hin) hm
    · cases hs
theorem exI_grow (ht : IsTab n zs) (hu : IsTab m ys) {a : Nat} : ∀ (ps : List (Nat × Nat)) {S S' : List Int × List Nat}, XI n m S → a ∈ S.2 → (∀ p, p ∈ ps → p.1 < n ∧ p.2 < m) → exI n zs m ys a ps S = some S' → XI n m S' ∧ Grow S S' ∧ (∀ p, p ∈ ps → OkP n zs m ys S' a p) ∧ ∀ x, x ∈ S'.2 → x ∈ S.2 ∨ ∃ p, p ∈ ps ∧ x = tm n zs a p.1
  | [], S, S', h, ha, hp, hs => by
    obtain rfl := Option.some.inj hs
    exact ⟨h, Grow.refl _, fun p hp => by simp at hp, fun x hx => .inl hx⟩
  | p :: ps, S, S', h, ha, hp, hs => by
    obtain ⟨h1, h2⟩ := hp p (by simp)
    cases he : exS n zs m ys a S p with
    | none => simp only [exI, he] at hs; cases hs
    | some T =>
      simp only [exI, he] at hs
      obtain ⟨g1, o1, m1⟩ := exS_grow h ht ha h1 he
      have hT := (h.step hu ht ha h1 h2 he).1
      obtain ⟨r1, r2, r3, r4⟩ := exI_grow ht hu ps hT (g1.mem ha) (fun q hq => hp q (by simp [hq])) hs
      refine ⟨r1, g1.trans r2, fun q hq => ?_, fun x hx => ?_⟩
      · rcases List.mem_cons.1 hq with rfl | hq
        · exact o1.grow r2 (g1.mem ha)
        · exact r3 q hq
      · rcases r4 x hx with hx | ⟨q, hq, he⟩
        · rcases m1 x hx with hx | hx
          · exact .inl hx
          · exact .inr ⟨p, by simp, hx⟩
        · exact .inr ⟨q, by simp [hq], he⟩
theorem exO_grow (ht : IsTab n zs) (hu : IsTab m ys) (hp : ∀ p, p ∈ ps → p.1 < n ∧ p.2 < m) : ∀ (f k : Nat) {S S' : List Int × List Nat}, XI n m S → n ≤ f + k → (∀ j a, j < k → S.2[j]? = some a → ∀ p, p ∈ ps → OkP n zs m ys S a p) → (∀ x, x ∈ S.2 → Wd n zs e ps x) → exO n zs m ys ps f k S = some S' →
    XI n m S' ∧ Grow S S' ∧ (∀ a, a ∈ S'.2 → ∀ p, p ∈ ps → OkP n zs m ys S' a p) ∧ ∀ x, x ∈ S'.2 → Wd n zs e ps x
  | 0, k, S, S', h, hf, hok, hw, hs => by
    obtain rfl := Option.some.inj hs
    refine ⟨h, Grow.refl _, fun a ha p hp => ?_, hw⟩
    obtain ⟨j, hj, he⟩ := List.mem_iff_getElem.1 ha
    exact hok j a (by have := h.fits; omega) (by rw [List.getElem?_eq_getElem hj, he]) p hp
  | f + 1, k, S, S', h, hf, hok, hw, hs => by
    cases hk : S.2[k]? with
    | none =>
      simp only [exO, hk] at hs
      obtain rfl := Option.some.inj hs
      refine ⟨h, Grow.refl _, fun a ha p hp => ?_, hw⟩
      obtain ⟨j, hj, he⟩ := List.mem_iff_getElem.1 ha
      exact hok j a (by have := List.getElem?_eq_none_iff.1 hk; omega) (by rw [List.getElem?_eq_getElem hj, he]) p hp
    | some a =>
      simp only [exO, hk] at hs
      cases hi : exI n zs m ys a ps S with
      | none => rw [hi] at hs; cases hs
      | some T =>
        rw [hi] at hs
        have ha : a ∈ S.2 := List.mem_of_getElem? hk
        obtain ⟨r1, r2, r3, r4⟩ := exI_grow ht hu ps h ha hp hi
        obtain ⟨q1, q2, q3, q4⟩ := exO_grow ht hu hp f (k + 1) r1 (by omega) (fun j b hj hb p hp => by
          by_cases hjk : j < k
          · have hjl : j < S.2.length := by have := (List.getElem?_eq_some_iff.1 hk).1; omega
            have hb' : S.2[j]? = some b := by
              have h9 := pre_get r2.pre (List.getElem?_eq_getElem hjl)
              rw [hb] at h9
              rw [List.getElem?_eq_getElem hjl, ← h9]
            exact (hok j b hjk hb' p hp).grow r2 (List.mem_of_getElem? hb')
          · have : j = k := by omega
            subst this
            have hkl := (List.getElem?_eq_some_iff.1 hk).1
            have : T.2[j]? = some a := pre_get r2.pre hk
            have : b = a := by rw [hb] at this; exact Option.some.inj this
            subst this
            exact r3 p hp) (fun x hx => by
          rcases r4 x hx with hx | ⟨p, hp, rfl⟩
          · exact hw x hx
          · exact Wd.mul (hw a ha) hp) hs
        exact ⟨q1, r2.trans q2, q3, q4⟩
theorem ext_grow (g : IsGrp n zs e) (h : IsGrp m ys d) (hp : ∀ p, p ∈ ps → p.1 < n ∧ p.2 < m) (hs : ext n zs e m ys d ps = some S) : XI n m S ∧ e ∈ S.2 ∧ S.1[e]?.getD 0 = (d : Int) ∧ (∀ a, a ∈ S.2 → ∀ p, p ∈ ps → OkP n zs m ys S a p) ∧ ∀ x, x ∈ S.2 → Wd n zs e ps x := by
  have h0 := XI.start g.elt h.elt
  obtain ⟨r1, r2, r3, r4⟩ := exO_grow (e := e) g.tab h.tab hp n 0 h0 (by omega) (fun j a hj => by omega) (fun x hx => by
    have : x = e := by simpa [ex0] using hx
    rw [this]; exact Wd.one) hs
  have he : e ∈ (ex0 n e d).2 := by simp [ex0]
  refine ⟨r1, r2.mem he, ?_, r3, r4⟩
  rw [r2.val e he]
  show ((List.replicate n (-1 : Int)).set e (d : Int))[e]?.getD 0 = (d : Int)
  rw [get_set (by simpa using g.elt), if_pos rfl]
/-- What stands for a thing that is found. -/
def vl (S : List Int × List Nat) (x : Nat) : Nat := (S.1[x]?.getD 0).toNat
theorem XI.vl (h : XI n m S) {x : Nat} (hx : x ∈ S.2) : S.1[x]?.getD 0 = (vl S x : Int) ∧ vl S x < m := by
  have := h.ok x hx
  unfold Go.Proofs.YtmgengplfebmjaaDoor.vl
  omega
theorem wd_mul (g : IsGrp n zs e) (h : IsGrp m ys d) (hp : ∀ p, p ∈ ps → p.1 < n ∧ p.2 < m) (hs : ext n zs e m ys d ps = some S) {x y : Nat} (hx : x ∈ S.2) (hy : Wd n zs e ps y) : y ∈ S.2 ∧ tm n zs x y ∈ S.2 ∧ vl S (tm n zs x y) = tm m ys (vl S x) (vl S y) := by
  obtain ⟨r1, r2, r3, r4, _⟩ := ext_grow g h hp hs
  have hve : vl S e = d := by unfold vl; rw [r3]; simp
  induction hy with
  | one => exact ⟨r2, by rw [g.right x (r1.lt x hx)]; exact hx, by rw [g.right x (r1.lt x hx), hve, h.right _ (r1.vl hx).2]⟩
  | mul hw hpm ih =>
    rename_i y p
    obtain ⟨i1, i2, i3⟩ := ih
    obtain ⟨p1, p2⟩ := hp p hpm
    have o1 := r4 y i1 p hpm
    have o2 := r4 _ i2 p hpm
    have ha : tm n zs x (tm n zs y p.1) = tm n zs (tm n zs x y) p.1 := (g.ass x y p.1 (r1.lt x hx) (r1.lt y i1) p1).symm
    refine ⟨o1.1, by rw [ha]; exact o2.1, ?_⟩
    have e1 : vl S (tm n zs y p.1) = tm m ys (vl S y) p.2 := by
      have := o1.2
      unfold vl; rw [this]; simp
    have e2 : vl S (tm n zs (tm n zs x y) p.1) = tm m ys (vl S (tm n zs x y)) p.2 := by
      have := o2.2
      unfold vl; rw [this]; simp
    rw [ha, e2, i3, e1, h.ass _ _ _ (r1.vl hx).2 (r1.vl i1).2 p2]
/-- All that the makers make is found, and products are kept. -/
theorem ext_mul (g : IsGrp n zs e) (h : IsGrp m ys d) (hp : ∀ p, p ∈ ps → p.1 < n ∧ p.2 < m) (hs : ext n zs e m ys d ps = some S) {x y : Nat} (hx : x ∈ S.2) (hy : y ∈ S.2) : tm n zs x y ∈ S.2 ∧ vl S (tm n zs x y) = tm m ys (vl S x) (vl S y) :=
  (wd_mul g h hp hs hx ((ext_grow g h hp hs).2.2.2.2 y hy)).2
theorem ext_made (g : IsGrp n zs e) (h : IsGrp m ys d) (hp : ∀ p, p ∈ ps → p.1 < n ∧ p.2 < m) (hs : ext n zs e m ys d ps = some S) {x : Nat} : x ∈ S.2 ↔ Mkd n zs e (fun x => decide (x ∈ ps.map Prod.fst)) x := by
  obtain ⟨r1, r2, r3, r4, r5⟩ := ext_grow g h hp hs
  constructor
  · intro hx
    have := r5 x hx
    clear hx
    induction this with
    | one => exact (Fin.Gen.sg _).one
    | mul hw hpm ih =>
      rename_i y p
      have hy : y < n := r1.lt y (wd_mul g h hp hs r2 hw).1
      exact (Fin.Gen.sg _).mul _ _ (List.mem_range.2 hy) (List.mem_range.2 (hp p hpm).1) ih (Fin.Gen.base (List.mem_range.2 (hp p hpm).1) (decide_eq_true (List.mem_map.2 ⟨p, hpm, rfl⟩)))
  · intro hx
    refine Fin.Gen.least (P := fun x => x ∈ S.2) ⟨r2, fun a b _ _ ha hb => (ext_mul g h hp hs ha hb).1⟩ (fun y hy hY => ?_) hx
    obtain ⟨p, hpm, rfl⟩ := List.mem_map.1 (of_decide_eq_true hY)
    have := (r4 e r2 p hpm).1
    rwa [g.left p.1 (hp p hpm).1] at this
theorem ext_at (g : IsGrp n zs e) (h : IsGrp m ys d) (hp : ∀ p, p ∈ ps → p.1 < n ∧ p.2 < m) (hs : ext n zs e m ys d ps = some S) {p : Nat × Nat} (hpm : p ∈ ps) : vl S p.1 = p.2 := by
  obtain ⟨r1, r2, r3, r4, _⟩ := ext_grow g h hp hs
  have := (r4 e r2 p hpm).2
  rw [g.left p.1 (hp p hpm).1, r3] at this
  unfold vl
  rw [this, Int.toNat_natCast, Int.toNat_natCast, h.left p.2 (hp p hpm).2]
/-- Where the makers make all, it is a homomorphism. -/
theorem ext_hom (g : IsGrp n zs e) (h : IsGrp m ys d) (hp : ∀ p, p ∈ ps → p.1 < n ∧ p.2 < m) (hs : ext n zs e m ys d ps = some S) (hall : ∀ a, a < n → Mkd n zs e (fun x => decide (x ∈ ps.map Prod.fst)) a) : IsHom n zs m ys (vl S) ∧ S.1 = li ((List.range n).map (vl S)) := by
  obtain ⟨r1, _⟩ := ext_grow g h hp hs
  have hin : ∀ a, a < n → a ∈ S.2 := fun a ha => (ext_made g h hp hs).2 (hall a ha)
  refine ⟨⟨fun a ha => (r1.vl (hin a ha)).2, fun a b ha hb => (ext_mul g h hp hs (hin a ha) (hin b hb)).2⟩, ?_⟩
  apply List.ext_getElem
  · rw [r1.len]; simp [li]
  · intro i h1 h2
    rw [r1.len] at h1
    have := (r1.vl (hin i h1)).1
    rw [List.getElem?_eq_getElem (by rw [r1.len]; exact h1), Option.getD_some] at this
    rw [this]
    simp [li]
/-- Where there is a homomorphism, the search ends well, and finds it. -/
theorem exS_hom (h : XI n m S) (ht : IsTab n zs) (H : IsHom n zs m ys φ) {a : Nat} {p : Nat × Nat} (ha : a ∈ S.2) (h1 : p.1 < n) (hφ : φ p.1 = p.2) (hv : ∀ x, x ∈ S.2 → S.1[x]?.getD 0 = (φ x : Int)) : ∃ S', exS n zs m ys a S p = some S' ∧ ∀ x, x ∈ S'.2 → S'.1[x]?.getD 0 = (φ x : Int) := by
  have hc := tm_lt ht (h.lt a ha) h1
  have hval : (tm m ys (S.1[a]?.getD 0).toNat p.2 : Int) = (φ (tm n zs a p.1) : Int) := by rw [hv a ha, Int.toNat_natCast, H.mul a p.1 (h.lt a ha) h1, hφ]
  by_cases hm : S.1[tm n zs a p.1]?.getD 0 = -1
  · refine ⟨_, if_pos hm, fun x hx => ?_⟩
    show (S.1.set _ _)[x]?.getD 0 = _
    rw [get_set (by rw [h.len]; exact hc)]
    by_cases he : x = tm n zs a p.1
    · rw [if_pos he, hval, he]
    · rw [if_neg he]
      rcases List.mem_append.1 hx with hx | hx
      · exact hv x hx
      · simp at hx; exact absurd hx he
  · have hin : tm n zs a p.1 ∈ S.2 := by
      by_cases hin : tm n zs a p.1 ∈ S.2
      · exact hin
      · exact absurd (h.no _ hc hin) hm
    refine ⟨S, ?_, hv⟩
    unfold exS
    rw [if_neg hm, if_pos (by rw [hval]; exact hv _ hin)]
theorem exI_hom (ht : IsTab n zs) (hu : IsTab m ys) (H : IsHom n zs m ys φ) {a : Nat} : ∀ (ps : List (Nat × Nat)) {S : List Int × List Nat}, XI n m S → a ∈ S.2 → (∀ p, p ∈ ps → p.1 < n ∧ p.2 < m ∧ φ p.1 = p.2) → (∀ x, x ∈ S.2 → S.1[x]?.getD 0 = (φ x : Int)) → ∃ S', exI n zs m ys a ps S = some S' ∧ ∀ x, x ∈ S'.2 → S'.1[x]?.getD 0 = (φ x : Int)
  | [], S, h, ha, hp, hv => ⟨S, rfl, hv⟩
  | p :: ps, S, h, ha, hp, hv => by
    obtain ⟨h1, h2, h3⟩ := hp p (by simp)
    obtain ⟨T, hT, hvT⟩ := exS_hom h ht H ha h1 h3 hv
    obtain ⟨g1, _, _⟩ := exS_grow h ht ha h1 hT
    have hX := (h.step hu ht ha h1 h2 hT).1
    obtain ⟨S', hS', hv'⟩ := exI_hom ht hu H ps hX (g1.mem ha) (fun q hq => hp q (by simp [hq])) hvT
    exact ⟨S', by simp only [exI, hT, hS'], hv'⟩
theorem exO_hom (ht : IsTab n zs) (hu : IsTab m ys) (H : IsHom n zs m ys φ) (hp : ∀ p, p ∈ ps → p.1 < n ∧ p.2 < m ∧ φ p.1 = p.2) : ∀ (f k : Nat) {S : List Int × List Nat}, XI n m S → (∀ x, x ∈ S.2 → S.1[x]?.getD 0 = (φ x : Int)) → ∃ S', exO n zs m ys ps f k S = some S' ∧ ∀ x, x ∈ S'.2 → S'.1[x]?.getD 0 = (φ x : Int)
  | 0, k, S, h, hv => ⟨S, rfl, hv⟩
  | f + 1, k, S, h, hv => by
    cases hk : S.2[k]? with
    | none => exact ⟨S, by simp only [exO, hk], hv⟩
    | some a =>
      have ha : a ∈ S.2 := List.mem_of_getElem? hk
      obtain ⟨T, hT, hvT⟩ := exI_hom ht hu H ps h ha hp hv
      obtain ⟨r1, _⟩ := exI_grow ht hu ps h ha (fun p hq => ⟨(hp p hq).1, (hp p hq).2.1⟩) hT
      obtain ⟨S', hS', hv'⟩ := exO_hom ht hu H hp f (k + 1) r1 hvT
      exact ⟨S', by simp only [exO, hk, hT, hS'], hv'⟩
theorem ext_of_hom (g : IsGrp n zs e) (h : IsGrp m ys d) (H : IsHom n zs m ys φ) (hp : ∀ p, p ∈ ps → p.1 < n ∧ φ p.1 = p.2) : ∃ S, ext n zs e m ys d ps = some S ∧ ∀ x, x ∈ S.2 → S.1[x]?.getD 0 = (φ x : Int) :=
  exO_hom g.tab h.tab H (fun p hq => ⟨(hp p hq).1, by rw [← (hp p hq).2]; exact H.lt _ (hp p hq).1, (hp p hq).2⟩) n 0 (XI.start g.elt h.elt) (fun x hx => by
    have : x = e := by simpa [ex0] using hx
    subst this
    show ((List.replicate n (-1 : Int)).set x (d : Int))[x]?.getD 0 = _
    rw [get_set (by simpa using g.elt), if_pos rfl, IsHom.one g h H])
end
end Go.Proofs.YtmgengplfebmjaaDoor

namespace Go.Proofs.YtmgengplfebmjaaDoor
open Go Go.RowKit

section
variable {n e m d : Nat} {zs ys : List Int} {ps : List (Nat × Nat)} {M0 M : List Int} {again : Bool} {a i : Nat}
/-- How many are not known yet. -/
def neg (M : List Int) : Nat := (M.filter fun x => decide (x < 0)).length
theorem neg_set : ∀ {M : List Int} {c : Nat} {z : Int}, c < M.length → M[c]?.getD 0 < 0 → 0 ≤ z → neg (M.set c z) < neg M
  | [], c, z, h, _, _ => by simp at h
  | x :: M, 0, z, h, h1, h2 => by
    have h1 : x < 0 := by simpa using h1
    simp only [neg, List.set_cons_zero, List.filter_cons, decide_eq_true h1, if_true, List.length_cons]
    rw [if_neg (by simp; omega)]
    omega
  | x :: M, c + 1, z, h, h1, h2 => by
    have h9 := neg_set (M := M) (c := c) (z := z) (by simpa using h) (by simpa using h1) h2
    simp only [neg] at h9
    simp only [neg, List.set_cons_succ, List.filter_cons]
    split <;> simp <;> omega
/-- A homomorphism in which images stand for makers. -/
def Leads (n : Nat) (zs : List Int) (m : Nat) (ys : List Int) (ps : List (Nat × Nat)) (φ : Nat → Nat) : Prop := IsHom n zs m ys φ ∧ ∀ p, p ∈ ps → φ p.1 = p.2
/-- How the document's search stands. -/
structure Spd (n : Nat) (zs : List Int) (e m : Nat) (ys : List Int) (d : Nat) (ps : List (Nat × Nat)) (M0 M : List Int) (again : Bool) (a i : Nat) : Prop where
  len : M.length = n
  val : ∀ x, x < n → M[x]?.getD 0 = -1 ∨ (0 ≤ M[x]?.getD 0 ∧ M[x]?.getD 0 < m)
  one : M[e]?.getD 0 = d
  hom : ∀ φ, Leads n zs m ys ps φ → ∀ x, x < n → 0 ≤ M[x]?.getD 0 → M[x]?.getD 0 = (φ x : Int)
  more : again = true → neg M < neg M0
  same : again = false → M = M0
  done : again = false → ∀ x k p, x < n → ps[k]? = some p → (x < a ∨ (x = a ∧ k < i)) → 0 ≤ M[x]?.getD 0 → M[tm n zs p.1 x]?.getD 0 = (tm m ys p.2 (M[x]?.getD 0).toNat : Int)
theorem Spd.start (h : Spd n zs e m ys d ps M0 M again a i) : Spd n zs e m ys d ps M M false 0 0 :=
  ⟨h.len, h.val, h.one, h.hom, fun h => (by cases h), fun _ => rfl, fun _ _ _ _ _ _ h => by omega⟩
theorem Spd.begin (g : IsGrp n zs e) (h : IsGrp m ys d) : Spd n zs e m ys d ps ((List.replicate n (-1)).set e (d : Int)) ((List.replicate n (-1)).set e (d : Int)) false 0 0 := by
  have hat : ∀ x, x < n → ((List.replicate n (-1 : Int)).set e (d : Int))[x]?.getD 0 = if x = e then (d : Int) else -1 := fun x hx => by
    rw [get_set (by simpa using g.elt)]
    split
    · rfl
    · simp [hx]
  refine ⟨by simp, fun x hx => ?_, by rw [hat e g.elt, if_pos rfl], fun φ hφ x hx h0 => ?_, fun h => (by cases h), fun _ => rfl, fun _ _ _ _ _ _ h => by omega⟩
  · rw [hat x hx]
    have := h.elt
    split
    · right; omega
    · left; rfl
  · rw [hat x hx] at h0 ⊢
    split at h0
    · rename_i he
      subst he
      rw [if_pos rfl, IsHom.one g h hφ.1]
    · omega
theorem Spd.skip (h : Spd n zs e m ys d ps M0 M again a i) (hno : ∀ p, ps[i]? = some p → 0 ≤ M[a]?.getD 0 → M[tm n zs p.1 a]?.getD 0 = (tm m ys p.2 (M[a]?.getD 0).toNat : Int)) : Spd n zs e m ys d ps M0 M again a (i + 1) :=
  ⟨h.len, h.val, h.one, h.hom, h.more, h.same, fun hag x k p hx hk hxk h1 => by
    by_cases e9 : x = a ∧ k = i
    · obtain ⟨rfl, rfl⟩ := e9; exact hno p hk h1
    · exact h.done hag x k p hx hk (by omega) h1⟩
theorem Spd.row (h : Spd n zs e m ys d ps M0 M again a i) (hi : ps.length ≤ i ∨ M[a]?.getD 0 < 0) : Spd n zs e m ys d ps M0 M again (a + 1) 0 :=
  ⟨h.len, h.val, h.one, h.hom, h.more, h.same, fun hag x k p hx hk hxk h1 => by
    have hkl := (List.getElem?_eq_some_iff.1 hk).1
    by_cases hxa : x = a
    · subst hxa; exact h.done hag x k p hx hk (by omega) h1
    · exact h.done hag x k p hx hk (by omega) h1⟩
theorem Leads.at {φ : Nat → Nat} (H : Leads n zs m ys ps φ) {p : Nat × Nat} (hp : p ∈ ps) (h1 : p.1 < n) (ha : a < n) : φ (tm n zs p.1 a) = tm m ys p.2 (φ a) := by
  rw [H.1.mul _ _ h1 ha, H.2 p hp]
theorem Spd.put (ht : IsTab n zs) (hu : IsTab m ys) (h : Spd n zs e m ys d ps M0 M again a i) {p : Nat × Nat} (hp : p ∈ ps) (h1 : p.1 < n) (h2 : p.2 < m) (ha : a < n) (h0 : 0 ≤ M[a]?.getD 0) (hn : M[tm n zs p.1 a]?.getD 0 < 0) : Spd n zs e m ys d ps M0 (M.set (tm n zs p.1 a) (tm m ys p.2 (M[a]?.getD 0).toNat : Int)) true a (i + 1) := by
  have hb := tm_lt ht h1 ha
  have hy : tm m ys p.2 (M[a]?.getD 0).toNat < m := tm_lt hu h2 (by have := h.val a ha; omega)
  have hat : ∀ x, (M.set (tm n zs p.1 a) (tm m ys p.2 (M[a]?.getD 0).toNat : Int))[x]?.getD 0 = if x = tm n zs p.1 a then (tm m ys p.2 (M[a]?.getD 0).toNat : Int) else M[x]?.getD 0 := fun x => get_set (by rw [h.len]; exact hb)
  refine ⟨by simp [h.len], fun x hx => ?_, ?_, fun φ H x hx h9 => ?_, fun _ => ?_, fun h => (by cases h), fun h => by cases h⟩
  · rw [hat]
    split
    · right; omega
    · exact h.val x hx
  · rw [hat, if_neg, h.one]
    intro he
    rw [← he, h.one] at hn
    omega
  · rw [hat] at h9 ⊢
    by_cases hx9 : x = tm n zs p.1 a
    · rw [if_pos hx9, hx9, H.at hp h1 ha]
      have := h.hom φ H a ha h0
      rw [this, Int.toNat_natCast]
    · rw [if_neg hx9] at h9 ⊢
      exact h.hom φ H x hx h9
  · have hl := neg_set (M := M) (c := tm n zs p.1 a) (z := (tm m ys p.2 (M[a]?.getD 0).toNat : Int)) (by rw [h.len]; exact hb) hn (by omega)
    cases hag : again
    · rw [← h.same hag]; exact hl
    · have := h.more hag; omega
theorem Spd.clash (ht : IsTab n zs) (h : Spd n zs e m ys d ps M0 M again a i) {p : Nat × Nat} (hp : p ∈ ps) (h1 : p.1 < n) (ha : a < n) (h0 : 0 ≤ M[a]?.getD 0) (hn : ¬ M[tm n zs p.1 a]?.getD 0 < 0) (hne : ¬ M[tm n zs p.1 a]?.getD 0 = (tm m ys p.2 (M[a]?.getD 0).toNat : Int)) (φ : Nat → Nat) : ¬ Leads n zs m ys ps φ := fun H => by
  have e1 := h.hom φ H a ha h0
  have e2 := h.hom φ H _ (tm_lt ht h1 ha) (by omega)
  apply hne
  rw [e2, H.at hp h1 ha, e1, Int.toNat_natCast]
theorem Spd.fin (g : IsGrp n zs e) (hh : IsGrp m ys d) (h : Spd n zs e m ys d ps M0 M false a i) (ha : n ≤ a) (hp : ∀ p, p ∈ ps → p.1 < n ∧ p.2 < m) (hall : ∀ x, x < n → Mkd n zs e (fun x => decide (x ∈ ps.map Prod.fst)) x) : ∃ φ, Leads n zs m ys ps φ ∧ M = li ((List.range n).map φ) := by
  let f : Nat → Nat := fun x => (M[x]?.getD 0).toNat
  have hfd : f e = d := by show (M[e]?.getD 0).toNat = d; rw [h.one]; simp
  have hfl : ∀ x, x < n → 0 ≤ M[x]?.getD 0 → f x < m ∧ M[x]?.getD 0 = (f x : Int) := fun x hx h0 => by
    have := h.val x hx
    show (M[x]?.getD 0).toNat < m ∧ M[x]?.getD 0 = ((M[x]?.getD 0).toNat : Int)
    omega
  have hst : ∀ p, p ∈ ps → ∀ x, x < n → 0 ≤ M[x]?.getD 0 → 0 ≤ M[tm n zs p.1 x]?.getD 0 ∧ f (tm n zs p.1 x) = tm m ys p.2 (f x) := fun p hpm x hx h0 => by
    obtain ⟨k, hk⟩ := List.mem_iff_getElem?.1 hpm
    have := h.done rfl x k p hx hk (by omega) h0
    refine ⟨by rw [this]; omega, ?_⟩
    show (M[tm n zs p.1 x]?.getD 0).toNat = _
    rw [this, Int.toNat_natCast]
  have hone : 0 ≤ M[e]?.getD 0 := by rw [h.one]; omega
  have hbase : ∀ p, p ∈ ps → 0 ≤ M[p.1]?.getD 0 ∧ f p.1 = p.2 := fun p hpm => by
    have h9 := hst p hpm e g.elt hone
    rw [g.right p.1 (hp p hpm).1, hfd, hh.right p.2 (hp p hpm).2] at h9
    exact h9
  have S : Fin.Sg (List.range n) (tm n zs) e (fun y => y ∈ List.range n → 0 ≤ M[y]?.getD 0 ∧ ∀ x, x < n → 0 ≤ M[x]?.getD 0 → 0 ≤ M[tm n zs y x]?.getD 0 ∧ f (tm n zs y x) = tm m ys (f y) (f x)) := by
    refine ⟨fun _ => ⟨hone, fun x hx h0 => ?_⟩, fun u v hu hv h1 h2 _ => ?_⟩
    · rw [g.left x hx, hfd, hh.left _ (hfl x hx h0).1]
      exact ⟨h0, rfl⟩
    · obtain ⟨u1, u2⟩ := h1 hu
      obtain ⟨v1, v2⟩ := h2 hv
      have hu := List.mem_range.1 hu
      have hv := List.mem_range.1 hv
      obtain ⟨p1, p2⟩ := u2 v hv v1
      refine ⟨p1, fun x hx h0 => ?_⟩
      obtain ⟨q1, q2⟩ := v2 x hx h0
      obtain ⟨r1, r2⟩ := u2 _ (tm_lt g.tab hv hx) q1
      rw [g.ass u v x hu hv hx]
      refine ⟨r1, ?_⟩
      rw [r2, q2, p2, hh.ass _ _ _ (hfl u hu u1).1 (hfl v hv v1).1 (hfl x hx h0).1]
  have hS : ∀ y, y < n → 0 ≤ M[y]?.getD 0 ∧ ∀ x, x < n → 0 ≤ M[x]?.getD 0 → 0 ≤ M[tm n zs y x]?.getD 0 ∧ f (tm n zs y x) = tm m ys (f y) (f x) := fun y hy => hall y hy _ S (fun z hz hq _ => by
    obtain ⟨p, hpm, rfl⟩ := List.mem_map.1 (of_decide_eq_true hq)
    refine ⟨(hbase p hpm).1, fun x hx h0 => ?_⟩
    rw [(hbase p hpm).2]
    exact hst p hpm x hx h0) (List.mem_range.2 hy)
  refine ⟨f, ⟨⟨fun x hx => (hfl x hx (hS x hx).1).1, fun x y hx hy => ((hS x hx).2 y hy (hS y hy).1).2⟩, fun p hpm => (hbase p hpm).2⟩, ?_⟩
  apply List.ext_getElem
  · rw [h.len]; simp [li]
  · intro j h1 h2
    rw [h.len] at h1
    have := (hfl j h1 (hS j h1).1).2
    rw [List.getElem?_eq_getElem (by rw [h.len]; exact h1), Option.getD_some] at this
    rw [this]
    simp [li]
end
end Go.Proofs.YtmgengplfebmjaaDoor

namespace Go.Proofs.YtmgengplfebmjaaDoor
open Go Go.RowKit

theorem rpl_set {x : Int} {n k : Nat} (h : k < n) : (rpl x n k).set k x = rpl x n (k + 1) := by
  unfold rpl
  rw [List.set_append_right _ _ (by simp)]
  obtain ⟨j, hj⟩ : ∃ j, n - k = j + 1 := ⟨n - k - 1, by omega⟩
  rw [hj, List.length_replicate, Nat.sub_self, List.replicate_succ, List.set_cons_zero, show n - (k + 1) = j by omega, List.replicate_succ' (n := k), List.append_assoc]
  rfl
/-- How many of a block's cells are below nought. -/
def cntN (ib : Nat) (W : World) : Nat := match W.heap[ib]? with
  | some (.cells c _ _) => (c.toList.filter fun v => match v with | .int _ z => decide (z < 0) | _ => false).length
  | _ => 0
theorem cntN_blk {ib : Nat} {M : List Int} {W : World} (h : Blk W ib 3 (M.map (Value.int .i64))) : cntN ib W = neg M := by
  unfold cntN
  rw [show W.heap[ib]? = _ from h]
  unfold neg
  simp only [List.filter_map, List.length_map]
  rfl
/-- What lies there all the while. -/
structure SdS (w wr : World) (n : Nat) (v : Value) (m : Nat) (y : Value) (M : List Int) : Prop where
  bg : BoxG wr w.heap.size n v
  bh : BoxG wr (w.heap.size + 1) m y
  mm : Blk wr (w.heap.size + 2) 3 (M.map (Value.int .i64))
  bel : Below w.heap.size w wr
section
variable {w wr : World} {n m : Nat} {v y : Value} {M : List Int}
theorem SdS.below {W : World} (h : SdS w wr n v m y M) (hb : Below wr.heap.size wr W) : SdS w W n v m y M := ⟨blk_below h.bg hb, blk_below h.bh hb, blk_below h.mm hb, bcat2 h.bel hb⟩
theorem SdS.put (h : SdS w wr n v m y M) (c : Nat) (i : Int) : SdS w (wr.setCell ⟨w.heap.size + 2, c, none⟩ (.int .i64 i)) n v m y (M.set c i) :=
  ⟨h.bg.other (p := ⟨w.heap.size + 2, c, none⟩) (by simp) _, h.bh.other (p := ⟨w.heap.size + 2, c, none⟩) (by simp) _, h.mm.setInt c i, h.bel.setCell (p := ⟨w.heap.size + 2, c, none⟩) (by simp) _⟩
theorem SdS.cells (h : SdS w wr n v m y M) : wr.cell? ⟨w.heap.size, 0, none⟩ = some (.int .i64 n) ∧ wr.cell? ⟨w.heap.size, 1, none⟩ = some v ∧ wr.cell? ⟨w.heap.size + 1, 0, none⟩ = some (.int .i64 m) ∧ wr.cell? ⟨w.heap.size + 1, 1, none⟩ = some y := ⟨h.bg.two.1, h.bg.two.2.1, h.bh.two.1, h.bh.two.2.1⟩
end
set_option maxRecDepth 100000 in
set_option maxHeartbeats 8000000 in
theorem spread_ok (n e m d : Nat) (v y kv iv : Value) (zs ys : List Int) (ps : List (Nat × Nat)) (w : World) (hg : IsGrp n zs e) (hh : IsGrp m ys d) (hv : Sl w v zs) (hy : Sl w y ys) (hk : Sl w kv (li (ps.map Prod.fst))) (hi : Sl w iv (li (ps.map Prod.snd))) (hp : ∀ p, p ∈ ps → p.1 < n ∧ p.2 < m) (hall : ∀ x, x < n → Mkd n zs e (fun x => decide (x ∈ ps.map Prod.fst)) x) :
    Calls Tryd.prog 24 #[.agg #[.int .i64 n, v], .agg #[.int .i64 m, y], kv, iv] w fun x w' => Below w.heap.size w w' ∧ ((x = .returned (.slice none 0 0) ∧ ∀ φ, ¬ Leads n zs m ys ps φ) ∨ ∃ φ g, Leads n zs m ys ps φ ∧ x = .returned (.slice (some ⟨g, 0, none⟩) n n) ∧ w.heap.size ≤ g ∧ Blk w' g 3 ((li ((List.range n).map φ)).map (Value.int .i64))) := by
  obtain ⟨i0, hi3, hz0, hz1, hz2⟩ := info_parts info3b
  have hn := hg.tab.le
  have hen := hg.elt
  have hdm := hh.elt
  have hm := hh.tab.le
  obtain ⟨w0, hw0⟩ : ∃ w0, w0 = (w.alloc (.cells #[.int .i64 n, v] 24)).alloc (.cells #[.int .i64 m, y] 24) := ⟨_, rfl⟩
  have hB0 : Below w.heap.size w w0 := by rw [hw0]; exact (balloc w _).alloc (by simp) _
  have hG0 : BoxG w0 w.heap.size n v := by rw [hw0]; exact Blk.alloc (blk0 _ _) _
  have hH0 : BoxG w0 (w.heap.size + 1) m y := by
    rw [hw0]
    have := blk0 (w := w.alloc (.cells #[.int .i64 n, v] 24)) (T := 24) (.int .i64 m) y
    rwa [World.size_alloc] at this
  have hs0 : w0.heap.size = w.heap.size + 2 := by rw [hw0]; simp
  obtain ⟨c0, c1, _, _⟩ := hG0.two
  have HE1 := hide (fun W (h : Below w.heap.size w W) => E_ok n v zs W hg.tab (hv.below h))
  have HE2 := hide (fun W (h : Below w.heap.size w W) => E_ok m y ys W hh.tab (hy.below h))
  rw [hg.one] at HE1
  rw [hh.one] at HE2
  have HM1 := hide (fun W a b (h : Below w.heap.size w W) (ha : a < n) (hb : b < n) => M_ok n v zs a b W hg.tab (hv.below h) ha hb)
  have HM2 := hide (fun W a b (h : Below w.heap.size w W) (ha : a < m) (hb : b < m) => M_ok m y ys a b W hh.tab (hy.below h) ha hb)
  obtain ⟨ka, kc, kb, ko, rfl, hkr, hkb, hk3, hk4⟩ := hk
  obtain ⟨ia, ic, ib, io, rfl, hir, hib, _, _⟩ := hi
  have hl1 : (li (ps.map Prod.fst)).length = ps.length := by rw [li_len, List.length_map]
  have hl2 : (li (ps.map Prod.snd)).length = ps.length := by rw [li_len, List.length_map]
  have hpl : ps.length ≤ 9223372036854775807 := by rw [hl1] at hk3; unfold maxLen at hk4; omega
  have HKA := hide (fun (h : 0 < ps.length) => hkr.at_ (by omega))
  have HIA := hide (fun (h : 0 < ps.length) => hir.at_ (by omega))
  have HKC := hide (fun j (h : j < ps.length) => show w.cell? ⟨kb, ko + j, none⟩ = some (.int .i64 (ps[j].1 : Int)) by
    have := hkr.cell j (by omega)
    rwa [li_get (by simpa using h), List.getElem_map] at this)
  have HIC := hide (fun j (h : j < ps.length) => show w.cell? ⟨ib, io + j, none⟩ = some (.int .i64 (ps[j].2 : Int)) by
    have := hir.cell j (by omega)
    rwa [li_get (by simpa using h), List.getElem_map] at this)
  rw [hl1, hl2] at *
  clear hkr hir hl1 hl2
  have HP := hide hp
  have HALL := hide hall
  have HBEG := hide (Spd.begin (ps := ps) hg hh)
  clear hp hall
  rw [hw0] at c0 c1
  go_enter Tryd.func24, Tryd.ntmps24
  go_wp2_with (first
    | (at_make; refine wpList_make_full _ rfl _ _ 22 rfl (w.heap.size + 2) 3 i0 (.int .i64 0) 1 under22b hi3 hz0 hz1 _ _ _ _ n rfl rfl rfl rfl (by rw [hz2]; omega) (by unfold maxLen; omega) (by simp) ?_))
  rw [← hw0]
  intro w2 hown hgr
  have hM2 : Blk w2 (w.heap.size + 2) 3 ((rpl (-1) n 0).map (Value.int .i64)) := by
    have := Blk.of_owns hown
    rw [made_rep] at this
    rw [rpl_map]
    simpa using this
  have hQ2 : SdS w w2 n v m y (rpl (-1) n 0) := ⟨hG0.grown hgr (by simp), hH0.grown hgr (by simp), hM2, hB0.grown hgr hB0.size (by simp)⟩
  clear hown hgr c0 c1 hG0 hH0 hB0 hM2 hw0 hs0
  go_wp2
  go_loopw [10] (fun i wr => ∃ k : Nat, k ≤ n ∧ i = .int .i64 k ∧ SdS w wr n v m y (rpl (-1) n k)) (fun i _ => n - (intOf i).toNat)
  case atStart => exact ⟨0, Nat.zero_le _, rfl, hQ2⟩
  case round =>
    obtain ⟨k, hk, rfl, hQ⟩ := hrel
    clear hQ2
    obtain ⟨c0, c1, c2, c3⟩ := hQ.cells
    by_cases hlt : k < n
    · have hki : (k : Int) < (n : Int) := by omega
      have hck := hQ.mm.int (y := k) (by rw [rpl_len hk]; exact hlt)
      have hfk := hQ.mm.frozen k
      have hP := hQ.put k (-1)
      rw [rpl_set hlt] at hP
      go_wp2
      go_roundw
      case rel => exact ⟨k + 1, by omega, by go_num, hP⟩
      case measure => simp [intOf]; omega
    · have hkn : n = k := by omega
      subst hkn
      have hrp : rpl (-1) n n = List.replicate n (-1) := by unfold rpl; simp
      rw [hrp] at hQ
      have hei : (e : Int) < (n : Int) := by omega
      have hS : ∀ U, Below wr.heap.size wr U → (Below w.heap.size w U ∧ U.cell? ⟨w.heap.size, 0, none⟩ = some (.int .i64 n) ∧ U.cell? ⟨w.heap.size, 1, none⟩ = some v ∧ U.cell? ⟨w.heap.size + 1, 0, none⟩ = some (.int .i64 m) ∧ U.cell? ⟨w.heap.size + 1, 1, none⟩ = some y) := fun U hU => ⟨(hQ.below hU).bel, (hQ.below hU).cells⟩
      have hS3 : ∀ U, Below wr.heap.size wr U → (Below w.heap.size w (U.setCell ⟨w.heap.size + 2, e, none⟩ (.int .i64 d)) ∧ (U.setCell ⟨w.heap.size + 2, e, none⟩ (.int .i64 d)).cell? ⟨w.heap.size, 0, none⟩ = some (.int .i64 n) ∧ (U.setCell ⟨w.heap.size + 2, e, none⟩ (.int .i64 d)).cell? ⟨w.heap.size, 1, none⟩ = some v ∧ (U.setCell ⟨w.heap.size + 2, e, none⟩ (.int .i64 d)).cell? ⟨w.heap.size + 1, 0, none⟩ = some (.int .i64 m) ∧ (U.setCell ⟨w.heap.size + 2, e, none⟩ (.int .i64 d)).cell? ⟨w.heap.size + 1, 1, none⟩ = some y) := fun U hU => ⟨((hQ.below hU).put e d).bel, ((hQ.below hU).put e d).cells⟩
      have hS0 := hS _ (bdrew (Below.refl _ wr))
      have hk1 : Hid True := trivial
      go_wp2_with fail
      clear c0 c1 c2 c3
      go_region_held3 (fun U => Below w.heap.size w U ∧ U.cell? ⟨w.heap.size, 0, none⟩ = some (.int .i64 n) ∧ U.cell? ⟨w.heap.size, 1, none⟩ = some v ∧ U.cell? ⟨w.heap.size + 1, 0, none⟩ = some (.int .i64 m) ∧ U.cell? ⟨w.heap.size + 1, 1, none⟩ = some y)
        (first | exact hS0 | assumption | exact hS3 _ hx2 | exact hS _ hx2 | exact hS _ hx1)
        (first
          | (go_at_call 58; clear hk1; refine (HE1.out _ (And.left ‹_›)).mono ?_; rintro e1 U1 ⟨rfl, hl1⟩; have hx1 := undrew' hl1)
          | (go_at_call 58; refine (HE2.out _ (And.left ‹_›)).mono ?_; rintro e2 U2 ⟨rfl, hl2⟩; have hx2 := bcat2 hx1 hl2; have hc1 := (hQ.below hx2).mm.int (y := e) (by simpa using hen); have hf1 := (hQ.below hx2).mm.frozen e))
      all_goals (
        have hP9 := (hQ.below hx2).put e d
        clear hS hS3 hS0 hc1 hf1
        generalize U2.setCell ⟨w.heap.size + 2, e, none⟩ (.int .i64 d) = w4 at *
        clear hx2 hx1 hl1 hl2 hQ)
      have hb0 := HBEG.out
      generalize (List.replicate n (-1)).set e (d : Int) = M1 at hP9 hb0
      go_wp2
      go_loopw [11] (fun s wr => ∃ (ag : Bool) (M : List Int), s = .bool ag ∧ SdS w wr n v m y M ∧ Spd n zs e m ys d ps M M false 0 0 ∧ (ag = false → ∃ φ, Leads n zs m ys ps φ ∧ M = li ((List.range n).map φ))) (fun s wr => if boolOf s then cntN (w.heap.size + 2) wr + 1 else 0)
      case atStart => exact ⟨true, M1, rfl, hP9, hb0, fun h => by cases h⟩
      case round =>
        clear hP9 hb0
        obtain ⟨ag, M0, rfl, hZ0, hN0, hfin⟩ := hrel
        have HCN := hide (cntN_blk hZ0.mm)
        cases ag with
        | false =>
          obtain ⟨φ, hφ, rfl⟩ := hfin rfl
          go_wp2
          go_ret
          refine ⟨hZ0.bel, .inr ⟨φ, hφ, ?_⟩⟩
          exact ⟨w.heap.size + 2, rfl, by omega, hZ0.mm⟩
        | true =>
          clear hfin
          go_wp2
          go_loopw [11, 12] (fun s i wx => ∃ (ag' : Bool) (M : List Int) (a : Nat), a ≤ n ∧ s = .bool ag' ∧ i = .int .i64 a ∧ SdS w wx n v m y M ∧ Spd n zs e m ys d ps M0 M ag' a 0) (fun _ i _ => n - (intOf i).toNat)
          case atStart => exact ⟨false, M0, 0, by omega, rfl, rfl, hZ0, hN0⟩
          case round =>
            clear hZ0 hN0
            obtain ⟨ag', M, a, ha, rfl, rfl, hZ, hN⟩ := hrel
            obtain ⟨c0, c1, c2, c3⟩ := hZ.cells
            by_cases hla : a < n
            · have hai : (a : Int) < (n : Int) := by omega
              go_wp2
              clear c0 c1 c2 c3
              go_loopw [11, 13] (fun s i wx => ∃ (ag' : Bool) (M : List Int) (j : Nat), j ≤ ps.length ∧ s = .bool ag' ∧ i = .int .i64 j ∧ SdS w wx n v m y M ∧ Spd n zs e m ys d ps M0 M ag' a j) (fun _ i _ => ps.length - (intOf i).toNat)
              case atStart => exact ⟨ag', M, 0, Nat.zero_le _, rfl, rfl, hZ, hN⟩
              case round =>
                clear hZ hN
                obtain ⟨ag', M, j, hj, rfl, rfl, hZ, hN⟩ := hrel
                obtain ⟨c0, c1, c2, c3⟩ := hZ.cells
                have hca := hZ.mm.int (y := a) (by rw [hN.len]; exact hla)
                by_cases hlj : j < ps.length
                · have hji : (j : Int) < (ps.length : Int) := by omega
                  by_cases hneg : M[a]?.getD 0 < 0
                  · have hm1 : M[a]?.getD 0 = -1 := by have := hN.val a hla; omega
                    have HNR := hide (hN.row (.inr hneg))
                    rw [hm1] at hca
                    clear hm1 hneg hN
                    go_wp2
                    go_roundw
                    case rel => exact ⟨ag', M, a + 1, by omega, rfl, by go_num, hZ, HNR.out⟩
                    case measure => simp [intOf]; omega
                  · obtain ⟨q, hq⟩ : ∃ q, ps[j]? = some q := ⟨_, List.getElem?_eq_getElem hlj⟩
                    have hql : ps[j] = q := by rw [List.getElem?_eq_getElem hlj] at hq; exact Option.some.inj hq
                    have hqm := List.mem_of_getElem? hq
                    obtain ⟨hp1, hp2⟩ := HP.out q hqm
                    have hck := below_cell hZ.bel (HKC.out j hlj)
                    have hci := below_cell hZ.bel (HIC.out j hlj)
                    rw [hql] at hck hci
                    obtain rfl := HKA.out (by omega)
                    obtain rfl := HIA.out (by omega)
                    have h0 : 0 ≤ M[a]?.getD 0 := by omega
                    have hea : M[a]?.getD 0 = ((M[a]?.getD 0).toNat : Int) := by omega
                    have hfa : (M[a]?.getD 0).toNat < m := by have := hN.val a hla; omega
                    have hbn := tm_lt hg.tab hp1 hla
                    have hcb := hZ.mm.int (y := tm n zs q.1 a) (by rw [hN.len]; exact hbn)
                    have HSK := hide (fun (h : M[tm n zs q.1 a]?.getD 0 = (tm m ys q.2 (M[a]?.getD 0).toNat : Int)) => hN.skip (fun p hp' _ => by rw [hq] at hp'; obtain rfl := Option.some.inj hp'; exact h))
                    have HPU := hide (fun (h : M[tm n zs q.1 a]?.getD 0 < 0) => hN.put hg.tab hh.tab hqm hp1 hp2 hla h0 h)
                    have HCL := hide (fun (h : ¬ M[tm n zs q.1 a]?.getD 0 < 0) (h2 : ¬ M[tm n zs q.1 a]?.getD 0 = (tm m ys q.2 (M[a]?.getD 0).toNat : Int)) => hN.clash hg.tab hqm hp1 hla h0 h h2)
                    have HQ1 := hide (fun W (h : Below w.heap.size w W) => HM1.out W q.1 a h hp1 hla)
                    have HQ2 := hide (fun W (h : Below w.heap.size w W) => HM2.out W q.2 _ h hp2 hfa)
                    rw [hea] at hca
                    have HN := hide hN
                    clear hea h0 hneg hN hq hql hqm
                    generalize (M[a]?.getD 0).toNat = fa at *
                    generalize hzz : M[tm n zs q.1 a]?.getD 0 = z at *
                    generalize tm m ys q.2 fa = im at *
                    generalize tm n zs q.1 a = b at *
                    obtain ⟨pk, pi⟩ := q
                    simp only at hck hci HQ1 HQ2 hp1 hp2
                    clear hzz
                    have hbi : (b : Int) < (n : Int) := by omega
                    have hfi : (0 : Int) ≤ (fa : Int) := by omega
                    have HZ := hide hZ
                    have hBw := hZ.bel
                    have hS' : ∀ W, Below wr.heap.size wr W → (Below wr.heap.size wr W ∧ W.cell? ⟨w.heap.size, 0, none⟩ = some (.int .i64 n) ∧ W.cell? ⟨w.heap.size, 1, none⟩ = some v ∧ W.cell? ⟨kb, ko + j, none⟩ = some (.int .i64 (pk : Int))) := fun W h => ⟨h, below_cell h c0, below_cell h c1, below_cell h hck⟩
                    have hS1 := hS' _ (bdrew (Below.refl _ wr))
                    go_wp2_with fail
                    clear hck c0 c1 hZ
                    go_region_held3 (fun W => Below wr.heap.size wr W ∧ W.cell? ⟨w.heap.size, 0, none⟩ = some (.int .i64 n) ∧ W.cell? ⟨w.heap.size, 1, none⟩ = some v ∧ W.cell? ⟨kb, ko + j, none⟩ = some (.int .i64 (pk : Int)))
                      (first | exact hS1 | assumption | exact hS' _ (bcat2 (And.left ‹_›) hl1))
                      (first | (go_at_call 59; refine (HQ1.out _ (bcat2 hBw (And.left ‹_›))).mono ?_; rintro e1 U1 ⟨rfl, hl1⟩))
                    have hb1 := And.left ‹Below wr.heap.size wr U1 ∧ _›
                    have hZ1 := HZ.out.below hb1
                    have hci1 := below_cell hb1 hci
                    have hca1 := below_cell hb1 hca
                    have hcb1 := below_cell hb1 hcb
                    obtain ⟨c0, c1, c2, c3⟩ := hZ1.cells
                    clear hS' hS1 hl1 hb1 hci hca hcb
                    have HZ1 := hide hZ1
                    have hBw1 := hZ1.bel
                    clear HZ hBw
                    have hS' : ∀ W, Below U1.heap.size U1 W → (Below U1.heap.size U1 W ∧ W.cell? ⟨w.heap.size + 1, 0, none⟩ = some (.int .i64 m) ∧ W.cell? ⟨w.heap.size + 1, 1, none⟩ = some y ∧ W.cell? ⟨ib, io + j, none⟩ = some (.int .i64 (pi : Int)) ∧ W.cell? ⟨w.heap.size + 2, a, none⟩ = some (.int .i64 (fa : Int))) := fun W h => ⟨h, below_cell h c2, below_cell h c3, below_cell h hci1, below_cell h hca1⟩
                    have hS1 := hS' _ (bdrew (Below.refl _ U1))
                    go_wp2_with fail
                    clear hci1 hca1 c0 c1 c2 c3 hZ1
                    go_region_held3 (fun W => Below U1.heap.size U1 W ∧ W.cell? ⟨w.heap.size + 1, 0, none⟩ = some (.int .i64 m) ∧ W.cell? ⟨w.heap.size + 1, 1, none⟩ = some y ∧ W.cell? ⟨ib, io + j, none⟩ = some (.int .i64 (pi : Int)) ∧ W.cell? ⟨w.heap.size + 2, a, none⟩ = some (.int .i64 (fa : Int)))
                      (first | exact hS1 | assumption | exact hS' _ (bcat2 (And.left ‹_›) hl1))
                      (first | (go_at_call 59; refine (HQ2.out _ (bcat2 hBw1 (And.left ‹_›))).mono ?_; rintro e2 U2 ⟨rfl, hl1⟩))
                    have hb2 := And.left ‹Below U1.heap.size U1 U2 ∧ _›
                    have hZ2 := HZ1.out.below hb2
                    have hcb2 := below_cell hb2 hcb1
                    clear hS' hS1 hl1 hb2 hcb1 HZ1 hBw1
                    have hf2 := hZ2.mm.frozen b
                    by_cases hz : z < 0
                    · have HPX := hide (HPU.out hz)
                      have hP := hZ2.put b (im : Int)
                      clear HPU HSK HCL
                      go_wp2
                      go_roundw
                      case rel => exact ⟨true, _, j + 1, by omega, rfl, by go_num, hP, HPX.out⟩
                      case measure => simp [intOf]; omega
                    · by_cases hz2' : z = (im : Int)
                      · have HPX := hide (HSK.out hz2')
                        clear HPU HSK HCL
                        subst hz2'
                        go_wp2
                        go_roundw
                        case rel => exact ⟨ag', M, j + 1, by omega, rfl, by go_num, hZ2, HPX.out⟩
                        case measure => simp [intOf]; omega
                      · have HPX := hide (HCL.out (by omega) hz2')
                        have hne2 : (z != (im : Int)) = true := by simpa using hz2'
                        clear HPU HSK HCL
                        go_wp2
                        go_ret
                        exact ⟨hZ2.bel, .inl ⟨rfl, HPX.out⟩⟩
                · have HNR := hide (hN.row (.inl (by omega)))
                  clear hN
                  have hjn : ¬ (j : Int) < (ps.length : Int) := by omega
                  go_wp2
                  go_roundw
                  case rel => exact ⟨ag', M, a + 1, by omega, rfl, by go_num, hZ, HNR.out⟩
                  case measure => simp [intOf]; omega
            · have hst9 := hN.start
              have HMO := hide hN.more
              have HFN : Hid (ag' = false → ∃ φ, Leads n zs m ys ps φ ∧ M = li ((List.range n).map φ)) := fun hag => by subst hag; exact hN.fin hg hh (by omega) HP.out HALL.out
              have HC9 := hide (cntN_blk hZ.mm)
              go_wp2
              go_roundw
              case rel => exact ⟨ag', M, rfl, hZ, hst9, HFN.out⟩
              case measure =>
                simp only [boolOf, HC9.out, HCN.out]
                cases hag : ag' with
                | false => simp
                | true => have := HMO.out hag; simp; omega
end Go.Proofs.YtmgengplfebmjaaDoor

namespace Go.Proofs.YtmgengplfebmjaaDoor
open Go Go.RowKit

/-- What is wrong with two lists of things of two groups. -/
def xplace (n m : Int) (fs ts : List Int) : Int × Int :=
  if ¬ fs.length = ts.length ∨ n < (fs.length : Int) then (8, 0)
  else if ¬ least fs.length (fun i => !(rng n fs i && rng m ts i)) = -1 then (3, least fs.length (fun i => !(rng n fs i && rng m ts i)))
  else (0, 0)
theorem xplace_8 {n m : Int} {fs ts : List Int} (h : ¬ fs.length = ts.length ∨ n < (fs.length : Int)) : xplace n m fs ts = (8, 0) := if_pos h
theorem xplace_3 {n m : Int} {fs ts : List Int} (h : ¬ (¬ fs.length = ts.length ∨ n < (fs.length : Int))) {k : Nat} (hk : k < fs.length) (h1 : ∀ t, t < k → (rng n fs t && rng m ts t) = true) (h2 : (rng n fs k && rng m ts k) = false) : xplace n m fs ts = (3, (k : Int)) := by
  have hl : least fs.length (fun i => !(rng n fs i && rng m ts i)) = (k : Int) := least_is hk (fun t ht => by simp only [h1 t ht, Bool.not_true]) (by simp only [h2, Bool.not_false])
  unfold xplace
  rw [if_neg h, hl, if_pos (by omega)]
theorem xplace_0 {n m : Int} {fs ts : List Int} (h : ¬ (¬ fs.length = ts.length ∨ n < (fs.length : Int))) (h1 : ∀ t, t < fs.length → (rng n fs t && rng m ts t) = true) : xplace n m fs ts = (0, 0) := by
  have hl : least fs.length (fun i => !(rng n fs i && rng m ts i)) = -1 := least_no fun t ht => by simp only [h1 t ht, Bool.not_true]
  unfold xplace
  rw [if_neg h, hl, if_neg (by simp)]
set_option maxRecDepth 100000 in
set_option maxHeartbeats 8000000 in
theorem wpl_ok (n m e d : Nat) (v u y t kv iv : Value) (fs ts : List Int) (w : World) (hk : Sl w kv fs) (hi : Sl w iv ts) (hn : n ≤ 60) (hv : ∃ a b c, v = .slice a b c) (hu : ∃ a b c, u = .slice a b c) (hy : ∃ a b c, y = .slice a b c) (ht : ∃ a b c, t = .slice a b c) :
    Calls Tryd.prog 66 #[.agg #[.int .i64 n, v, .int .i64 e, u, .int .i64 m, y, .int .i64 d, t], kv, iv] w fun x w' => x = .returned (.agg #[.int .i64 (xplace n m fs ts).1, .int .i64 (xplace n m fs ts).2]) ∧ Below w.heap.size w w' := by
  obtain ⟨va, vb, vc, rfl⟩ := hv
  obtain ⟨ua, ub, uc, rfl⟩ := hu
  obtain ⟨ya, yb, yc, rfl⟩ := hy
  obtain ⟨ta, tb, tc, rfl⟩ := ht
  obtain ⟨w0, hw0⟩ : ∃ w0, w0 = (w.alloc (.cells #[.int .i64 n, .slice va vb vc, .int .i64 e, .slice ua ub uc, .int .i64 m, .slice ya yb yc, .int .i64 d, .slice ta tb tc] 83)).alloc (.cells #[.int .i64 0, .int .i64 0] 27) := ⟨_, rfl⟩
  have hB0 : Below w.heap.size w w0 := by rw [hw0]; exact (balloc w _).alloc (by simp) _
  have hX0 : Blk w0 w.heap.size 83 [.int .i64 n, .slice va vb vc, .int .i64 e, .slice ua ub uc, .int .i64 m, .slice ya yb yc, .int .i64 d, .slice ta tb tc] := by rw [hw0]; exact Blk.alloc (World.alloc_heap_new _ _) _
  have hR0 : Blk w0 (w.heap.size + 1) 27 [.int .i64 0, .int .i64 0] := by
    have := blk0 (w := w.alloc (.cells #[.int .i64 n, .slice va vb vc, .int .i64 e, .slice ua ub uc, .int .i64 m, .slice ya yb yc, .int .i64 d, .slice ta tb tc] 83)) (T := 27) (.int .i64 0) (.int .i64 0)
    rw [World.size_alloc] at this
    rw [hw0]; exact this
  obtain ⟨_, p0, p1, p2, p3, p4, p5, p6, p7⟩ := Eight.mk' hX0
  rw [hw0] at p0 p1 p2 p3 p4 p5 p6 p7
  obtain ⟨ka, kc, kb, ko, rfl, hkr, hkb, hk3, hk4⟩ := hk
  obtain ⟨ia, ic, ib, io, rfl, hir, hib, hi3, hi4⟩ := hi
  have HKA := hide (fun (h : 0 < fs.length) => hkr.at_ h)
  have HIA := hide (fun (h : 0 < ts.length) => hir.at_ h)
  have HKC := hide (fun j (h : j < fs.length) => hkr.cell j h)
  have HIC := hide (fun j (h : j < ts.length) => hir.cell j h)
  have hfl : fs.length ≤ 9223372036854775807 := by unfold maxLen at hk4; omega
  clear hkr hir
  by_cases hsz : ¬ fs.length = ts.length ∨ (n : Int) < (fs.length : Int)
  · rw [xplace_8 hsz]
    obtain ⟨y0, y1, fy0, fy1⟩ := hR0.two
    rw [hw0] at y0 y1 fy0 fy1
    have hB7 : Below w.heap.size w ((w.alloc (.cells #[.int .i64 n, .slice va vb vc, .int .i64 e, .slice ua ub uc, .int .i64 m, .slice ya yb yc, .int .i64 d, .slice ta tb tc] 83)).alloc (.cells #[.int .i64 8, .int .i64 0] 27)) := (balloc w _).alloc (by simp) _
    by_cases hl : fs.length = ts.length
    · have hb : (n : Int) < (fs.length : Int) := by omega
      have hli : ((fs.length : Int) != (ts.length : Int)) = false := by simp; omega
      go_enter Tryd.func66, Tryd.ntmps66
      go_wp2
      exact bodyPost_ret (v := .agg #[.int .i64 8, .int .i64 0]) (by simp [results, Tryd.results66, go_sem]) rfl ⟨rfl, hB7⟩
    · have hli : ((fs.length : Int) != (ts.length : Int)) = true := by simp; omega
      go_enter Tryd.func66, Tryd.ntmps66
      go_wp2
      exact bodyPost_ret (v := .agg #[.int .i64 8, .int .i64 0]) (by simp [results, Tryd.results66, go_sem]) rfl ⟨rfl, hB7⟩
  · have hl : fs.length = ts.length := by omega
    have hb : ¬ (n : Int) < (fs.length : Int) := by omega
    have H3 := hide (fun k hk h1 h2 => xplace_3 (m := (m : Int)) hsz (k := k) hk h1 h2)
    have H0 := hide (fun h1 => xplace_0 (m := (m : Int)) hsz h1)
    generalize xplace n m fs ts = xf at *
    have HIA := hide (fun (h : 0 < fs.length) => HIA.out (by omega))
    have HIC := hide (fun j (h : j < fs.length) => HIC.out j (by omega))
    rw [← hl]
    clear hsz
    have hli : ((fs.length : Int) != (fs.length : Int)) = false := by simp
    go_enter Tryd.func66, Tryd.ntmps66
    go_wp2
    rw [← hw0]
    clear p0 p1 p2 p3 p4 p5 p6 p7 hw0 hli hb
    go_loopw [25] (fun i wr => ∃ k : Nat, k ≤ fs.length ∧ i = .int .i64 k ∧ (∀ t, t < k → (rng n fs t && rng m ts t) = true) ∧ Below w0.heap.size w0 wr) (fun i _ => fs.length - (intOf i).toNat)
    case atStart => exact ⟨0, Nat.zero_le _, rfl, fun t ht => by omega, Below.refl _ _⟩
    case round =>
      obtain ⟨k, hk, rfl, hall, hB⟩ := hrel
      have HALL := hide hall
      clear hall
      have hBw := bcat2 hB0 hB
      by_cases hlt : k < fs.length
      · have hki : (k : Int) < (fs.length : Int) := by omega
        obtain rfl := HKA.out (by omega)
        obtain rfl := HIA.out (by omega)
        have ck := below_cell hBw (HKC.out k hlt)
        have ci := below_cell hBw (HIC.out k hlt)
        obtain ⟨_, h0, h1, h2, h3, h4, h5, h6, h7⟩ := Eight.mk' (blk_below hX0 hB)
        obtain ⟨r, hr⟩ : ∃ r, rng n fs k = r := ⟨_, rfl⟩
        obtain ⟨s, hs⟩ : ∃ s, rng m ts k = s := ⟨_, rfl⟩
        have HGH := hide (fun W => ghas_ok n (.slice va vb vc) (.slice ua ub uc) e (fs[k]?.getD 0) W)
        have HGI := hide (fun W => ghas_ok m (.slice ya yb yc) (.slice ta tb tc) d (ts[k]?.getD 0) W)
        have hrd : decide (0 ≤ fs[k]?.getD 0 ∧ fs[k]?.getD 0 < (n : Int)) = r := hr
        have hsd : decide (0 ≤ ts[k]?.getD 0 ∧ ts[k]?.getD 0 < (m : Int)) = s := hs
        rw [hrd] at HGH
        rw [hsd] at HGI
        have HR := hide (show (rng n fs k && rng m ts k) = (r && s) by rw [hr, hs])
        clear hr hrd hs hsd
        generalize fs[k]?.getD 0 = x9 at *
        generalize ts[k]?.getD 0 = z9 at *
        have hS' : ∀ W, Below wr.heap.size wr W → (Below wr.heap.size wr W ∧ W.cell? ⟨kb, ko + k, none⟩ = some (.int .i64 x9) ∧ W.cell? ⟨ib, io + k, none⟩ = some (.int .i64 z9) ∧ W.cell? ⟨w.heap.size, 0, none⟩ = some (.int .i64 n) ∧ W.cell? ⟨w.heap.size, 1, none⟩ = some (.slice va vb vc) ∧ W.cell? ⟨w.heap.size, 2, none⟩ = some (.int .i64 e) ∧ W.cell? ⟨w.heap.size, 3, none⟩ = some (.slice ua ub uc) ∧ W.cell? ⟨w.heap.size, 4, none⟩ = some (.int .i64 m) ∧ W.cell? ⟨w.heap.size, 5, none⟩ = some (.slice ya yb yc) ∧ W.cell? ⟨w.heap.size, 6, none⟩ = some (.int .i64 d) ∧ W.cell? ⟨w.heap.size, 7, none⟩ = some (.slice ta tb tc)) := fun W h => ⟨h, below_cell h ck, below_cell h ci, below_cell h h0, below_cell h h1, below_cell h h2, below_cell h h3, below_cell h h4, below_cell h h5, below_cell h h6, below_cell h h7⟩
        have hS1 := hS' _ (bdrew (Below.refl _ wr))
        have hk1 : Hid True := trivial
        clear ck ci h0 h1 h2 h3 h4 h5 h6 h7
        cases r with
        | false =>
          have HC := hide (show xf.1 = 3 ∧ xf.2 = (k : Int) by rw [H3.out k hlt HALL.out (by rw [HR.out]; rfl)]; exact ⟨rfl, rfl⟩)
          go_wp2_with fail
          refine wp_region_held_drew (S := (fun W => Below wr.heap.size wr W ∧ W.cell? ⟨kb, ko + k, none⟩ = some (.int .i64 x9) ∧ W.cell? ⟨ib, io + k, none⟩ = some (.int .i64 z9) ∧ W.cell? ⟨w.heap.size, 0, none⟩ = some (.int .i64 n) ∧ W.cell? ⟨w.heap.size, 1, none⟩ = some (.slice va vb vc) ∧ W.cell? ⟨w.heap.size, 2, none⟩ = some (.int .i64 e) ∧ W.cell? ⟨w.heap.size, 3, none⟩ = some (.slice ua ub uc) ∧ W.cell? ⟨w.heap.size, 4, none⟩ = some (.int .i64 m) ∧ W.cell? ⟨w.heap.size, 5, none⟩ = some (.slice ya yb yc) ∧ W.cell? ⟨w.heap.size, 6, none⟩ = some (.int .i64 d) ∧ W.cell? ⟨w.heap.size, 7, none⟩ = some (.slice ta tb tc))) (by kernel_rfl) hS1 (fun hHeld => ?_)
          refine wpAnyH_take (i := 0) (oi := ({ dst := some 28, op := Go.Op.fieldAddr 83 (Go.Operand.tmp 3) 0, type := 0, pos := _, after := #[], guard := none } : Oper)) (v := ?_) rfl (by kernel_rfl) (by kernel_rfl) (by kernel_rfl) (fun _ _ _ h => h) (Or.inl ⟨by rfl, ?_⟩) (by assumption) ?_
          rotate_left
          · (intro w hSw; (try dsimp only at hSw); go_simp; try with_reducible rfl)
          simp only [Act.put, List.setIfInBounds_toArray, List.set_cons_zero, List.set_cons_succ]
          refine wpAnyH_take (i := 1) (oi := ({ dst := some 29, op := Go.Op.load 67 (Go.Operand.tmp 28), type := 67, pos := _, after := #[{ on := 0, ground := Go.Ground.data }], guard := none } : Oper)) (v := ?_) rfl (by kernel_rfl) (by kernel_rfl) (by kernel_rfl) (fun _ _ _ h => h) (Or.inl ⟨by rfl, ?_⟩) (by assumption) ?_
          rotate_left
          · (intro w hSw; (try dsimp only at hSw); go_simp; try with_reducible rfl)
          simp only [Act.put, List.setIfInBounds_toArray, List.set_cons_zero, List.set_cons_succ]
          refine wpAnyH_take (i := 2) (oi := ({ dst := some 30, op := Go.Op.move (Go.Operand.tmp 1), type := 22, pos := _, after := #[], guard := none } : Oper)) (v := ?_) rfl (by kernel_rfl) (by kernel_rfl) (by kernel_rfl) (fun _ _ _ h => h) (Or.inl ⟨by rfl, ?_⟩) (by assumption) ?_
          rotate_left
          · (intro w hSw; (try dsimp only at hSw); go_simp; try with_reducible rfl)
          simp only [Act.put, List.setIfInBounds_toArray, List.set_cons_zero, List.set_cons_succ]
          refine wpAnyH_take (i := 3) (oi := ({ dst := some 31, op := Go.Op.move (Go.Operand.tmp 7), type := 3, pos := _, after := #[], guard := none } : Oper)) (v := ?_) rfl (by kernel_rfl) (by kernel_rfl) (by kernel_rfl) (fun _ _ _ h => h) (Or.inl ⟨by rfl, ?_⟩) (by assumption) ?_
          rotate_left
          · (intro w hSw; (try dsimp only at hSw); go_simp; try with_reducible rfl)
          simp only [Act.put, List.setIfInBounds_toArray, List.set_cons_zero, List.set_cons_succ]
          refine wpAnyH_take (i := 4) (oi := ({ dst := some 32, op := Go.Op.indexAddr 22 (Go.Operand.tmp 30) (Go.Operand.tmp 31), type := 0, pos := _, after := #[{ on := 2, ground := Go.Ground.data }, { on := 3, ground := Go.Ground.data }], guard := none } : Oper)) (v := ?_) rfl (by kernel_rfl) (by kernel_rfl) (by kernel_rfl) (fun _ _ _ h => h) (Or.inl ⟨by rfl, ?_⟩) (by assumption) ?_
          rotate_left
          · (intro w hSw; (try dsimp only at hSw); go_simp; try with_reducible rfl)
          simp only [Act.put, List.setIfInBounds_toArray, List.set_cons_zero, List.set_cons_succ]
          refine wpAnyH_take (i := 5) (oi := ({ dst := some 33, op := Go.Op.load 3 (Go.Operand.tmp 32), type := 3, pos := _, after := #[{ on := 4, ground := Go.Ground.data }], guard := none } : Oper)) (v := ?_) rfl (by kernel_rfl) (by kernel_rfl) (by kernel_rfl) (fun _ _ _ h => h) (Or.inl ⟨by rfl, ?_⟩) (by assumption) ?_
          rotate_left
          · (intro w hSw; (try dsimp only at hSw); go_simp; try with_reducible rfl)
          simp only [Act.put, List.setIfInBounds_toArray, List.set_cons_zero, List.set_cons_succ]
          refine wpAnyH_ready (rs := [6]) (by kernel_rfl) (by simp) (AllReadyH.cons (o := ({ dst := some 34, op := Go.Op.call { callee := Go.Callee.value (Go.Operand.func 96), args := #[Go.Operand.tmp 29, Go.Operand.tmp 33], argTypes := #[67, 3] }, type := 4, pos := _, after := #[{ on := 1, ground := Go.Ground.data }, { on := 5, ground := Go.Ground.data }], guard := none } : Oper)) rfl (fun KK hK => ?_) AllReadyH.nil)
          go_simp
          refine (HGH.out _).mono ?_
          rintro e1 U1 ⟨rfl, hl1⟩
          try go_wp2_with fail
          refine hK.out _ _ (hS' _ (bcat2 (And.left hHeld) hl1)) (fun hHeld => ?_)
          clear hK
          try simp only [Act.put, List.setIfInBounds_toArray, List.set_cons_zero, List.set_cons_succ]
          refine wpAnyH_take (i := 7) (oi := ({ dst := some 35, op := Go.Op.unOp Go.UnOp.not 4 (Go.Operand.tmp 34), type := 4, pos := _, after := #[{ on := 6, ground := Go.Ground.data }], guard := none } : Oper)) (v := ?_) rfl (by kernel_rfl) (by kernel_rfl) (by kernel_rfl) (fun _ _ _ h => h) (Or.inl ⟨by rfl, ?_⟩) (by assumption) ?_
          rotate_left
          · (intro w hSw; (try dsimp only at hSw); go_simp; try with_reducible rfl)
          simp only [Act.put, List.setIfInBounds_toArray, List.set_cons_zero, List.set_cons_succ]
          refine wpAnyH_take (i := 8) (oi := ({ dst := some 36, op := Go.Op.move (Go.Operand.tmp 35), type := 4, pos := _, after := #[{ on := 7, ground := Go.Ground.data }, { on := 6, ground := Go.Ground.chain }], guard := none } : Oper)) (v := ?_) rfl (by kernel_rfl) (by kernel_rfl) (by kernel_rfl) (fun _ _ _ h => h) (Or.inl ⟨by rfl, ?_⟩) (by assumption) ?_
          rotate_left
          · (intro w hSw; (try dsimp only at hSw); go_simp; try with_reducible rfl)
          simp only [Act.put, List.setIfInBounds_toArray, List.set_cons_zero, List.set_cons_succ]
          refine wpAnyH_take (i := 9) (oi := ({ dst := some 37, op := Go.Op.fieldAddr 83 (Go.Operand.tmp 3) 1, type := 0, pos := _, after := #[{ on := 8, ground := Go.Ground.guard }], guard := some (8, false) } : Oper)) (v := undef) rfl (by kernel_rfl) (by kernel_rfl) (by kernel_rfl) (fun _ _ _ h => h) (Or.inr ⟨by rfl, rfl⟩) (by assumption) ?_
          simp only [Act.put, List.setIfInBounds_toArray, List.set_cons_zero, List.set_cons_succ]
          refine wpAnyH_take (i := 10) (oi := ({ dst := some 38, op := Go.Op.load 67 (Go.Operand.tmp 37), type := 67, pos := _, after := #[{ on := 9, ground := Go.Ground.data }, { on := 8, ground := Go.Ground.guard }], guard := some (8, false) } : Oper)) (v := undef) rfl (by kernel_rfl) (by kernel_rfl) (by kernel_rfl) (fun _ _ _ h => h) (Or.inr ⟨by rfl, rfl⟩) (by assumption) ?_
          simp only [Act.put, List.setIfInBounds_toArray, List.set_cons_zero, List.set_cons_succ]
          refine wpAnyH_take (i := 11) (oi := ({ dst := some 39, op := Go.Op.move (Go.Operand.tmp 2), type := 22, pos := _, after := #[{ on := 8, ground := Go.Ground.guard }], guard := some (8, false) } : Oper)) (v := undef) rfl (by kernel_rfl) (by kernel_rfl) (by kernel_rfl) (fun _ _ _ h => h) (Or.inr ⟨by rfl, rfl⟩) (by assumption) ?_
          simp only [Act.put, List.setIfInBounds_toArray, List.set_cons_zero, List.set_cons_succ]
          refine wpAnyH_take (i := 12) (oi := ({ dst := some 40, op := Go.Op.move (Go.Operand.tmp 7), type := 3, pos := _, after := #[{ on := 8, ground := Go.Ground.guard }], guard := some (8, false) } : Oper)) (v := undef) rfl (by kernel_rfl) (by kernel_rfl) (by kernel_rfl) (fun _ _ _ h => h) (Or.inr ⟨by rfl, rfl⟩) (by assumption) ?_
          simp only [Act.put, List.setIfInBounds_toArray, List.set_cons_zero, List.set_cons_succ]
          refine wpAnyH_take (i := 13) (oi := ({ dst := some 41, op := Go.Op.indexAddr 22 (Go.Operand.tmp 39) (Go.Operand.tmp 40), type := 0, pos := _, after := #[{ on := 11, ground := Go.Ground.data }, { on := 12, ground := Go.Ground.data }, { on := 8, ground := Go.Ground.guard }], guard := some (8, false) } : Oper)) (v := undef) rfl (by kernel_rfl) (by kernel_rfl) (by kernel_rfl) (fun _ _ _ h => h) (Or.inr ⟨by rfl, rfl⟩) (by assumption) ?_
          simp only [Act.put, List.setIfInBounds_toArray, List.set_cons_zero, List.set_cons_succ]
          refine wpAnyH_take (i := 14) (oi := ({ dst := some 42, op := Go.Op.load 3 (Go.Operand.tmp 41), type := 3, pos := _, after := #[{ on := 13, ground := Go.Ground.data }, { on := 8, ground := Go.Ground.guard }], guard := some (8, false) } : Oper)) (v := undef) rfl (by kernel_rfl) (by kernel_rfl) (by kernel_rfl) (fun _ _ _ h => h) (Or.inr ⟨by rfl, rfl⟩) (by assumption) ?_
          simp only [Act.put, List.setIfInBounds_toArray, List.set_cons_zero, List.set_cons_succ]
          refine wpAnyH_take (i := 15) (oi := ({ dst := some 43, op := Go.Op.call { callee := Go.Callee.value (Go.Operand.func 96), args := #[Go.Operand.tmp 38, Go.Operand.tmp 42], argTypes := #[67, 3] }, type := 4, pos := _, after := #[{ on := 10, ground := Go.Ground.data }, { on := 14, ground := Go.Ground.data }, { on := 8, ground := Go.Ground.chain }, { on := 8, ground := Go.Ground.guard }], guard := some (8, false) } : Oper)) (v := undef) rfl (by kernel_rfl) (by kernel_rfl) (by kernel_rfl) (fun _ _ _ h => h) (Or.inr ⟨by rfl, rfl⟩) (by assumption) ?_
          simp only [Act.put, List.setIfInBounds_toArray, List.set_cons_zero, List.set_cons_succ]
          refine wpAnyH_take (i := 16) (oi := ({ dst := some 44, op := Go.Op.unOp Go.UnOp.not 4 (Go.Operand.tmp 43), type := 4, pos := _, after := #[{ on := 15, ground := Go.Ground.data }, { on := 8, ground := Go.Ground.guard }], guard := some (8, false) } : Oper)) (v := undef) rfl (by kernel_rfl) (by kernel_rfl) (by kernel_rfl) (fun _ _ _ h => h) (Or.inr ⟨by rfl, rfl⟩) (by assumption) ?_
          simp only [Act.put, List.setIfInBounds_toArray, List.set_cons_zero, List.set_cons_succ]
          refine wpAnyH_take (i := 17) (oi := ({ dst := some 45, op := Go.Op.pick (Go.Operand.tmp 36) (Go.Operand.const (Go.Value.bool true)) (Go.Operand.tmp 44), type := 4, pos := _, after := #[{ on := 8, ground := Go.Ground.data }, { on := 16, ground := Go.Ground.data }], guard := none } : Oper)) (v := ?_) rfl (by kernel_rfl) (by kernel_rfl) (by kernel_rfl) (fun _ _ _ h => h) (Or.inl ⟨by rfl, ?_⟩) (by assumption) ?_
          rotate_left
          · (intro w hSw; (try dsimp only at hSw); go_simp; try with_reducible rfl)
          simp only [Act.put, List.setIfInBounds_toArray, List.set_cons_zero, List.set_cons_succ]
          refine wpAnyH_done (by kernel_rfl) ?_ _
          all_goals (
            have hB4 := bcat2 hB (And.left ‹Below wr.heap.size wr U1 ∧ _›)
            have hBw4 := bcat2 hB0 hB4
            have hR4 := blk_below hR0 hB4
            obtain ⟨y0, y1, fy0, fy1⟩ := hR4.two
            obtain ⟨hR6, hB6⟩ := put2 hR4 hBw4 (by omega) 3 (k : Int)
            obtain ⟨z0, z1, _, _⟩ := hR6.two
            go_wp2
            exact bodyPost_ret (v := .agg #[.int .i64 3, .int .i64 (k : Int)]) (by simp [results, Tryd.results66, go_sem, z0, z1]) rfl ⟨by rw [HC.out.1, HC.out.2], hB6⟩)
        | true =>
          go_wp2_with fail
          cases s with
          | false =>
            have HC := hide (show xf.1 = 3 ∧ xf.2 = (k : Int) by rw [H3.out k hlt HALL.out (by rw [HR.out]; rfl)]; exact ⟨rfl, rfl⟩)
            go_region_held3 (fun W => Below wr.heap.size wr W ∧ W.cell? ⟨kb, ko + k, none⟩ = some (.int .i64 x9) ∧ W.cell? ⟨ib, io + k, none⟩ = some (.int .i64 z9) ∧ W.cell? ⟨w.heap.size, 0, none⟩ = some (.int .i64 n) ∧ W.cell? ⟨w.heap.size, 1, none⟩ = some (.slice va vb vc) ∧ W.cell? ⟨w.heap.size, 2, none⟩ = some (.int .i64 e) ∧ W.cell? ⟨w.heap.size, 3, none⟩ = some (.slice ua ub uc) ∧ W.cell? ⟨w.heap.size, 4, none⟩ = some (.int .i64 m) ∧ W.cell? ⟨w.heap.size, 5, none⟩ = some (.slice ya yb yc) ∧ W.cell? ⟨w.heap.size, 6, none⟩ = some (.int .i64 d) ∧ W.cell? ⟨w.heap.size, 7, none⟩ = some (.slice ta tb tc))
              (first | exact hS1 | assumption | exact hS' _ (bcat2 (And.left ‹_›) hl1))
              (first
                | (go_at_call 96; clear hk1; refine (HGH.out _).mono ?_; rintro e1 U1 ⟨rfl, hl1⟩)
                | (go_at_call 96; refine (HGI.out _).mono ?_; rintro e2 U2 ⟨rfl, hl1⟩))
            all_goals (
              have hB4 := bcat2 hB (And.left ‹Below wr.heap.size wr U2 ∧ _›)
              have hBw4 := bcat2 hB0 hB4
              have hR4 := blk_below hR0 hB4
              obtain ⟨y0, y1, fy0, fy1⟩ := hR4.two
              obtain ⟨hR6, hB6⟩ := put2 hR4 hBw4 (by omega) 3 (k : Int)
              obtain ⟨z0, z1, _, _⟩ := hR6.two
              go_wp2
              exact bodyPost_ret (v := .agg #[.int .i64 3, .int .i64 (k : Int)]) (by simp [results, Tryd.results66, go_sem, z0, z1]) rfl ⟨by rw [HC.out.1, HC.out.2], hB6⟩)
          | true =>
            have HN := hide (fun t (ht : t < k + 1) => show (rng n fs t && rng m ts t) = true by
              by_cases e9 : t = k
              · subst e9; exact HR.out
              · exact HALL.out t (by omega))
            go_region_held3 (fun W => Below wr.heap.size wr W ∧ W.cell? ⟨kb, ko + k, none⟩ = some (.int .i64 x9) ∧ W.cell? ⟨ib, io + k, none⟩ = some (.int .i64 z9) ∧ W.cell? ⟨w.heap.size, 0, none⟩ = some (.int .i64 n) ∧ W.cell? ⟨w.heap.size, 1, none⟩ = some (.slice va vb vc) ∧ W.cell? ⟨w.heap.size, 2, none⟩ = some (.int .i64 e) ∧ W.cell? ⟨w.heap.size, 3, none⟩ = some (.slice ua ub uc) ∧ W.cell? ⟨w.heap.size, 4, none⟩ = some (.int .i64 m) ∧ W.cell? ⟨w.heap.size, 5, none⟩ = some (.slice ya yb yc) ∧ W.cell? ⟨w.heap.size, 6, none⟩ = some (.int .i64 d) ∧ W.cell? ⟨w.heap.size, 7, none⟩ = some (.slice ta tb tc))
              (first | exact hS1 | assumption | exact hS' _ (bcat2 (And.left ‹_›) hl1))
              (first
                | (go_at_call 96; clear hk1; refine (HGH.out _).mono ?_; rintro e1 U1 ⟨rfl, hl1⟩)
                | (go_at_call 96; refine (HGI.out _).mono ?_; rintro e2 U2 ⟨rfl, hl1⟩))
            all_goals (
              have hB4 := bcat2 hB (And.left ‹Below wr.heap.size wr U2 ∧ _›)
              go_wp2
              go_roundw
              case rel => exact ⟨k + 1, by omega, by go_num, HN.out, hB4⟩
              case measure => simp [intOf]; omega)
      · have HC := hide (show xf.1 = 0 ∧ xf.2 = 0 by rw [H0.out (fun t ht => HALL.out t (by omega))]; exact ⟨rfl, rfl⟩)
        have hki : ¬ (k : Int) < (fs.length : Int) := by omega
        have hR4 := blk_below hR0 hB
        obtain ⟨y0, y1, fy0, fy1⟩ := hR4.two
        obtain ⟨hR6, hB6⟩ := put2 hR4 hBw (by omega) 0 0
        obtain ⟨z0, z1, _, _⟩ := hR6.two
        go_wp2
        exact bodyPost_ret (v := .agg #[.int .i64 0, .int .i64 0]) (by simp [results, Tryd.results66, go_sem, z0, z1]) rfl ⟨by rw [HC.out.1, HC.out.2], hB6⟩
end Go.Proofs.YtmgengplfebmjaaDoor

namespace Go.Proofs.YtmgengplfebmjaaDoor
open Go Go.RowKit

set_option maxRecDepth 100000 in
set_option maxHeartbeats 4000000 in
theorem hex_bad (N M : Int) (v y kv iv : Value) (zs ys : List Int) (w : World) (hv : Sl w v zs) (hy : Sl w y ys) (hc : (twofault N zs M ys).1 ≠ 0) :
    Calls Tryd.prog 22 #[.agg #[.int .i64 N, v], .agg #[.int .i64 M, y], kv, iv] w fun x w' => x = .returned (.tuple #[.slice none 0 0, .agg #[.int .i64 (twofault N zs M ys).1, .int .i64 (twofault N zs M ys).2]]) ∧ Below w.heap.size w w' := by
  obtain ⟨w0, BG⟩ := BegF.new w N M v y
  have HCK : Hid (Calls Tryd.prog 65 #[.agg #[.int .i64 N, v], .agg #[.int .i64 M, y]] w0 fun x w' => x = .returned (.tuple #[.agg #[.int .i64 0, .slice none 0 0, .int .i64 0, .slice none 0 0, .int .i64 0, .slice none 0 0, .int .i64 0, .slice none 0 0], .agg #[.int .i64 (twofault N zs M ys).1, .int .i64 (twofault N zs M ys).2]]) ∧ Below w0.heap.size w0 w') := by
    by_cases h : (gfault N zs).1 = 0
    · obtain ⟨n, e, rfl, hg, _⟩ := gfault_grp h
      have ht : twofault n zs M ys = gfault M ys := by unfold twofault; rw [if_neg (by simpa using h)]
      rw [ht] at hc ⊢
      exact pair_bad2 n e M v y zs ys w0 (hv.below BG.bel) hg (hy.below BG.bel) hc
    · have ht : twofault N zs M ys = gfault N zs := by unfold twofault; rw [if_pos h]
      rw [ht] at hc ⊢
      exact pair_bad1 N M v y zs w0 (hv.below BG.bel) hc
  obtain ⟨c, i, hci⟩ : ∃ c i, twofault N zs M ys = (c, i) := ⟨_, _, rfl⟩
  rw [hci] at HCK hc ⊢
  simp only at HCK hc ⊢
  clear hci
  have hcb : (c != 0) = true := by simpa using hc
  obtain ⟨e0, e1, _, _⟩ := BG.box.two
  obtain ⟨k0, k1, _, _⟩ := BG.boy.two
  rw [BG.eq] at e0 e1 k0 k1
  go_enter Tryd.func22, Tryd.ntmps22
  go_wp2_with fail
  rw [← BG.eq]
  clear e0 e1 k0 k1
  refine HCK.out.mono ?_
  rintro x w1 ⟨rfl, hb1⟩
  obtain ⟨w2, hw2⟩ : ∃ w2, w2 = (w1.alloc (.cells #[.int .i64 0, .slice none 0 0, .int .i64 0, .slice none 0 0, .int .i64 0, .slice none 0 0, .int .i64 0, .slice none 0 0] 83)).alloc (.cells #[.int .i64 c, .int .i64 i] 27) := ⟨_, rfl⟩
  have hB1 : Below w0.heap.size w0 w2 := by rw [hw2]; exact bcat2 hb1 ((balloc w1 _).alloc (by simp) _)
  have hF1 : Blk w2 (w1.heap.size + 1) 27 [.int .i64 c, .int .i64 i] := by
    rw [hw2]
    have := blk0 (w := w1.alloc (.cells #[.int .i64 0, .slice none 0 0, .int .i64 0, .slice none 0 0, .int .i64 0, .slice none 0 0, .int .i64 0, .slice none 0 0] 83)) (T := 27) (.int .i64 c) (.int .i64 i)
    rwa [World.size_alloc] at this
  have hR1 := blk_below BG.res hB1
  have hBw := bcat BG.bel hB1 BG.bel.size
  subst hw2
  obtain ⟨y0, y1, fy0, fy1⟩ := hR1.two
  obtain ⟨t0, t1, _, _⟩ := hF1.two
  obtain ⟨hR6, hB6⟩ := put2 hR1 hBw (by omega) c i
  obtain ⟨z0, z1, _, _⟩ := hR6.two
  go_wp2
  go_region
  go_wp2
  exact bodyPost_ret (v := .tuple #[.slice none 0 0, .agg #[.int .i64 c, .int .i64 i]]) (by simp [results, Tryd.results22, go_sem, z0, z1]) rfl ⟨rfl, bdrew hB6⟩
set_option maxRecDepth 100000 in
set_option maxHeartbeats 4000000 in
theorem hex_place (n e m d : Nat) (v y kv iv : Value) (zs ys fs ts : List Int) (w : World) (hv : Sl w v zs) (hg : IsGrp n zs e) (hy : Sl w y ys) (hh : IsGrp m ys d) (hk : Sl w kv fs) (hi : Sl w iv ts) (hc : (xplace n m fs ts).1 ≠ 0) :
    Calls Tryd.prog 22 #[.agg #[.int .i64 n, v], .agg #[.int .i64 m, y], kv, iv] w fun x w' => x = .returned (.tuple #[.slice none 0 0, .agg #[.int .i64 (xplace n m fs ts).1, .int .i64 (xplace n m fs ts).2]]) ∧ Below w.heap.size w w' := by
  obtain ⟨va, vn, vc, rfl⟩ := hv.isSlice
  obtain ⟨ya, yl, yc, rfl⟩ := hy.isSlice
  have hn := hg.tab.le
  obtain ⟨w0, BG⟩ := BegF.new w n m (.slice va vn vc) (.slice ya yl yc)
  have HCK := hide (pair_good n e m d (.slice va vn vc) (.slice ya yl yc) zs ys w0 (hv.below BG.bel) hg (hy.below BG.bel) hh)
  obtain ⟨c0, c1, _, _⟩ := BG.box.two
  obtain ⟨d0, d1, _, _⟩ := BG.boy.two
  rw [BG.eq] at c0 c1 d0 d1
  go_enter Tryd.func22, Tryd.ntmps22
  go_wp2_with fail
  rw [← BG.eq]
  clear c0 c1 d0 d1
  refine HCK.out.mono ?_
  rintro x w1 ⟨iv9, jv9, rfl, hSI, hSJ, hb1⟩
  obtain ⟨ia, il, ic, rfl⟩ := hSI.sl.isSlice
  obtain ⟨ja, jl, jc, rfl⟩ := hSJ.sl.isSlice
  obtain ⟨w2, hw2⟩ : ∃ w2, w2 = (w1.alloc (.cells #[.int .i64 n, .slice va vn vc, .int .i64 e, .slice ia il ic, .int .i64 m, .slice ya yl yc, .int .i64 d, .slice ja jl jc] 83)).alloc (.cells #[.int .i64 0, .int .i64 0] 27) := ⟨_, rfl⟩
  have hb2 : Below w1.heap.size w1 w2 := by rw [hw2]; exact (balloc w1 _).alloc (by simp) _
  have hB1 : Below w0.heap.size w0 w2 := bcat2 hb1 hb2
  have hF1 : Blk w2 (w1.heap.size + 1) 27 [.int .i64 0, .int .i64 0] := by
    rw [hw2]
    have := blk0 (w := w1.alloc (.cells #[.int .i64 n, .slice va vn vc, .int .i64 e, .slice ia il ic, .int .i64 m, .slice ya yl yc, .int .i64 d, .slice ja jl jc] 83)) (T := 27) (.int .i64 0) (.int .i64 0)
    rwa [World.size_alloc] at this
  have hH2 : Blk w2 w1.heap.size 83 [.int .i64 n, .slice va vn vc, .int .i64 e, .slice ia il ic, .int .i64 m, .slice ya yl yc, .int .i64 d, .slice ja jl jc] := by
    rw [hw2]; exact Blk.alloc (World.alloc_heap_new _ _) _
  have hBw2 := bcat BG.bel hB1 BG.bel.size
  have hR2 := blk_below BG.res hB1
  have hw1s := hb1.size
  rw [BG.siz] at hw1s
  have HWP := hide (wpl_ok n m e d (.slice va vn vc) (.slice ia il ic) (.slice ya yl yc) (.slice ja jl jc) kv iv fs ts w2 (hk.below hBw2) (hi.below hBw2) hn ⟨_, _, _, rfl⟩ ⟨_, _, _, rfl⟩ ⟨_, _, _, rfl⟩ ⟨_, _, _, rfl⟩)
  obtain ⟨_, h0, h1, h2, h3, h4, h5, h6, h7⟩ := Eight.mk' hH2
  obtain ⟨t0, t1, _, _⟩ := hF1.two
  rw [hw2] at t0 t1 h0 h1 h2 h3 h4 h5 h6 h7
  go_wp2_with fail
  rw [← hw2]
  clear hw2 t0 t1 h0 h1 h2 h3 h4 h5 h6 h7
  refine HWP.out.mono ?_
  rintro x w3 ⟨rfl, hb3⟩
  obtain ⟨c, i, hci⟩ : ∃ c i, xplace n m fs ts = (c, i) := ⟨_, _, rfl⟩
  rw [hci] at hc ⊢
  simp only at hc ⊢
  have HCI := hide hci
  clear hci HWP
  have hcb : (c != 0) = true := by simpa using hc
  have hb34 := bcat2 hb3 (balloc w3 (.cells #[.int .i64 c, .int .i64 i] 27))
  have hF4 := blk0 (w := w3) (T := 27) (.int .i64 c) (.int .i64 i)
  have hB4 := bcat2 hBw2 hb34
  have hR4 := blk_below hR2 hb34
  obtain ⟨y0, y1, fy0, fy1⟩ := hR4.two
  obtain ⟨t0, t1, _, _⟩ := hF4.two
  obtain ⟨hR6, hB6⟩ := put2 hR4 hB4 (by omega) c i
  obtain ⟨z0, z1, _, _⟩ := hR6.two
  go_wp2
  go_region
  go_wp2
  exact bodyPost_ret (v := .tuple #[.slice none 0 0, .agg #[.int .i64 c, .int .i64 i]]) (by simp [results, Tryd.results22, go_sem, z0, z1]) rfl ⟨by rw [HCI.out], bdrew hB6⟩
/-- What Extend answers where groups and places are right. -/
def ExR (n : Nat) (zs : List Int) (e m : Nat) (ys : List Int) (ps : List (Nat × Nat)) (B : Nat) (x : Ending) (w' : World) : Prop :=
  (x = .returned (.tuple #[.slice none 0 0, .agg #[.int .i64 4, .int .i64 0]]) ∧ ¬ ∀ a, a < n → Mkd n zs e (fun x => decide (x ∈ ps.map Prod.fst)) a) ∨
  (x = .returned (.tuple #[.slice none 0 0, .agg #[.int .i64 6, .int .i64 0]]) ∧ (∀ a, a < n → Mkd n zs e (fun x => decide (x ∈ ps.map Prod.fst)) a) ∧ ∀ φ, ¬ Leads n zs m ys ps φ) ∨
  ∃ φ g, x = .returned (.tuple #[.slice (some ⟨g, 0, none⟩) n n, .agg #[.int .i64 0, .int .i64 0]]) ∧ (∀ a, a < n → Mkd n zs e (fun x => decide (x ∈ ps.map Prod.fst)) a) ∧ Leads n zs m ys ps φ ∧ B ≤ g ∧ Blk w' g 3 ((li ((List.range n).map φ)).map (Value.int .i64))
set_option maxRecDepth 100000 in
set_option maxHeartbeats 8000000 in
theorem hex_good (n e m d : Nat) (v y kv iv : Value) (zs ys fs ts : List Int) (ps : List (Nat × Nat)) (w : World) (hv : Sl w v zs) (hg : IsGrp n zs e) (hy : Sl w y ys) (hh : IsGrp m ys d) (hk : Sl w kv fs) (hi : Sl w iv ts) (hT : Tab w) (hc : xplace n m fs ts = (0, 0)) (hfs : fs = li (ps.map Prod.fst)) (hts : ts = li (ps.map Prod.snd)) (hp : ∀ p, p ∈ ps → p.1 < n ∧ p.2 < m) (hpl : ps.length ≤ n) :
    Calls Tryd.prog 22 #[.agg #[.int .i64 n, v], .agg #[.int .i64 m, y], kv, iv] w fun x w' => ExR n zs e m ys ps w.heap.size x w' ∧ Below w.heap.size w w' := by
  obtain ⟨va, vn, vc, rfl⟩ := hv.isSlice
  obtain ⟨ya, yl, yc, rfl⟩ := hy.isSlice
  have hn := hg.tab.le
  obtain ⟨w0, BG⟩ := BegF.new w n m (.slice va vn vc) (.slice ya yl yc)
  have HCK := hide (pair_good n e m d (.slice va vn vc) (.slice ya yl yc) zs ys w0 (hv.below BG.bel) hg (hy.below BG.bel) hh)
  obtain ⟨c0, c1, _, _⟩ := BG.box.two
  obtain ⟨d0, d1, _, _⟩ := BG.boy.two
  rw [BG.eq] at c0 c1 d0 d1
  go_enter Tryd.func22, Tryd.ntmps22
  go_wp2_with fail
  rw [← BG.eq]
  clear c0 c1 d0 d1
  refine HCK.out.mono ?_
  rintro x w1 ⟨iv9, jv9, rfl, hSI, hSJ, hb1⟩
  obtain ⟨ia, il, ic, rfl⟩ := hSI.sl.isSlice
  obtain ⟨ja, jl, jc, rfl⟩ := hSJ.sl.isSlice
  obtain ⟨w2, hw2⟩ : ∃ w2, w2 = (w1.alloc (.cells #[.int .i64 n, .slice va vn vc, .int .i64 e, .slice ia il ic, .int .i64 m, .slice ya yl yc, .int .i64 d, .slice ja jl jc] 83)).alloc (.cells #[.int .i64 0, .int .i64 0] 27) := ⟨_, rfl⟩
  have hb2 : Below w1.heap.size w1 w2 := by rw [hw2]; exact (balloc w1 _).alloc (by simp) _
  have hB1 : Below w0.heap.size w0 w2 := bcat2 hb1 hb2
  have hF1 : Blk w2 (w1.heap.size + 1) 27 [.int .i64 0, .int .i64 0] := by
    rw [hw2]
    have := blk0 (w := w1.alloc (.cells #[.int .i64 n, .slice va vn vc, .int .i64 e, .slice ia il ic, .int .i64 m, .slice ya yl yc, .int .i64 d, .slice ja jl jc] 83)) (T := 27) (.int .i64 0) (.int .i64 0)
    rwa [World.size_alloc] at this
  have hH2 : Blk w2 w1.heap.size 83 [.int .i64 n, .slice va vn vc, .int .i64 e, .slice ia il ic, .int .i64 m, .slice ya yl yc, .int .i64 d, .slice ja jl jc] := by
    rw [hw2]; exact Blk.alloc (World.alloc_heap_new _ _) _
  have hBw2 := bcat BG.bel hB1 BG.bel.size
  have hR2 := blk_below BG.res hB1
  have hw1s := hb1.size
  rw [BG.siz] at hw1s
  have HWP := hide (wpl_ok n m e d (.slice va vn vc) (.slice ia il ic) (.slice ya yl yc) (.slice ja jl jc) kv iv fs ts w2 (hk.below hBw2) (hi.below hBw2) hn ⟨_, _, _, rfl⟩ ⟨_, _, _, rfl⟩ ⟨_, _, _, rfl⟩ ⟨_, _, _, rfl⟩)
  obtain ⟨_, h0, h1, h2, h3, h4, h5, h6, h7⟩ := Eight.mk' hH2
  obtain ⟨t0, t1, _, _⟩ := hF1.two
  rw [hw2] at t0 t1 h0 h1 h2 h3 h4 h5 h6 h7
  go_wp2_with fail
  rw [← hw2]
  clear hw2 t0 t1 h0 h1 h2 h3 h4 h5 h6 h7
  refine HWP.out.mono ?_
  rintro x w3 ⟨rfl, hb3⟩
  rw [hc]
  clear hc HWP
  have hb34 := bcat2 hb3 (balloc w3 (.cells #[.int .i64 0, .int .i64 0] 27))
  have hF4 := blk0 (w := w3) (T := 27) (.int .i64 0) (.int .i64 0)
  have hB4 := bcat2 hBw2 hb34
  have hR4 := blk_below hR2 hb34
  have hH4 := blk_below hH2 hb34
  obtain ⟨t0, t1, _, _⟩ := hF4.two
  subst hfs hts
  have hGA : GA w2 n (.slice va vn vc) e (.slice ia il ic) zs := ⟨hg, hv.below hBw2, hSI.sl.below hb2⟩
  obtain ⟨p, hpm⟩ := mkd_ex n zs e (fun x => decide (x ∈ ps.map Prod.fst))
  have hxs : ∀ x, x ∈ ps.map Prod.fst → x < n := fun x hx => by
    obtain ⟨q, hq, rfl⟩ := List.mem_map.1 hx
    exact (hp q hq).1
  have HOF := hide (fun W (h : Below w.heap.size w W) => of_ok n kv (ps.map Prod.fst) W hn (by rw [List.length_map]; omega) (hk.below h) hxs)
  have HMD := hide (fun W (h : Below w2.heap.size w2 W) => made_ok n (.slice va vn vc) (.slice ia il ic) zs e (fun x => decide (x ∈ ps.map Prod.fst)) p W (hGA.below h) ((hT.below hBw2).below h) hpm)
  have HAL := hide (fun W => all_ok n (.slice va vn vc) (.slice ia il ic) e W hn)
  have HXT := hide (fun W (h : Below w.heap.size w W) => ext_ok n e m d (.slice va vn vc) (.slice ia il ic) (.slice ya yl yc) (.slice ja jl jc) kv iv zs ys ps W hg hh (hv.below h) (hy.below h) (hk.below h) (hi.below h) hp)
  have HHOM := hide (fun S (h : ext n zs e m ys d ps = some S) (hall : ∀ a, a < n → Mkd n zs e (fun x => decide (x ∈ ps.map Prod.fst)) a) => show Leads n zs m ys ps (vl S) ∧ S.1 = li ((List.range n).map (vl S)) from ⟨⟨(ext_hom hg hh hp h hall).1, fun q hq => ext_at hg hh hp h hq⟩, (ext_hom hg hh hp h hall).2⟩)
  have HNON := hide (fun (h : ext n zs e m ys d ps = none) φ (H : Leads n zs m ys ps φ) => show False by
    obtain ⟨S, hS, _⟩ := ext_of_hom hg hh H.1 (fun q hq => ⟨(hp q hq).1, H.2 q hq⟩)
    rw [h] at hS; cases hS)
  go_wp2_with fail
  clear t0 t1 hF4
  generalize w3.alloc (.cells #[.int .i64 0, .int .i64 0] 27) = w4 at *
  have hBw4 : Below w2.heap.size w2 w4 := hb34
  have hS' : ∀ W, Below w4.heap.size w4 W → (Below w4.heap.size w4 W ∧ W.cell? ⟨w1.heap.size, 0, none⟩ = some (.int .i64 n) ∧ W.cell? ⟨w1.heap.size, 1, none⟩ = some (.slice va vn vc) ∧ W.cell? ⟨w1.heap.size, 2, none⟩ = some (.int .i64 e) ∧ W.cell? ⟨w1.heap.size, 3, none⟩ = some (.slice ia il ic) ∧ W.cell? ⟨w1.heap.size, 4, none⟩ = some (.int .i64 m) ∧ W.cell? ⟨w1.heap.size, 5, none⟩ = some (.slice ya yl yc) ∧ W.cell? ⟨w1.heap.size, 6, none⟩ = some (.int .i64 d) ∧ W.cell? ⟨w1.heap.size, 7, none⟩ = some (.slice ja jl jc)) := fun W h => by
    obtain ⟨_, h0, h1, h2, h3, h4, h5, h6, h7⟩ := Eight.mk' hH4
    exact ⟨h, below_cell h h0, below_cell h h1, below_cell h h2, below_cell h h3, below_cell h h4, below_cell h h5, below_cell h h6, below_cell h h7⟩
  have hS1 := hS' _ (bdrew (Below.refl _ w4))
  by_cases hall : ∀ a, a < n → Mkd n zs e (fun x => decide (x ∈ ps.map Prod.fst)) a
  · have hbs : bs p n = bs (fun _ => true) n := bs_ext fun a ha => (hpm a ha).2 (hall a ha)
    rw [hbs] at HMD
    generalize hbb : (bs (fun _ => true) n : Nat) = bb at *
    have HHOM := hide (fun S (h : ext n zs e m ys d ps = some S) => HHOM.out S h hall)
    have hne : ((bb : Int) != (bb : Int)) = false := by simp
    go_region_held3 (fun W => Below w4.heap.size w4 W ∧ W.cell? ⟨w1.heap.size, 0, none⟩ = some (.int .i64 n) ∧ W.cell? ⟨w1.heap.size, 1, none⟩ = some (.slice va vn vc) ∧ W.cell? ⟨w1.heap.size, 2, none⟩ = some (.int .i64 e) ∧ W.cell? ⟨w1.heap.size, 3, none⟩ = some (.slice ia il ic) ∧ W.cell? ⟨w1.heap.size, 4, none⟩ = some (.int .i64 m) ∧ W.cell? ⟨w1.heap.size, 5, none⟩ = some (.slice ya yl yc) ∧ W.cell? ⟨w1.heap.size, 6, none⟩ = some (.int .i64 d) ∧ W.cell? ⟨w1.heap.size, 7, none⟩ = some (.slice ja jl jc))
      (first | exact hS1 | assumption | exact hS' _ (bcat2 (And.left ‹_›) hl1))
      (first
        | (go_at_call 68; refine (HOF.out _ (bcat2 hB4 (And.left ‹_›))).mono ?_; rintro e1 U1 ⟨rfl, rfl⟩)
        | (go_at_call 67; refine (HMD.out _ (bcat2 hBw4 (And.left ‹_›))).mono ?_; rintro e2 U2 ⟨rfl, hl1⟩)
        | (go_at_call 56; refine (HAL.out _).mono ?_; rintro e3 U3 ⟨rfl, hl1⟩))
    all_goals (
      have hb5 := And.left ‹Below w4.heap.size w4 U3 ∧ _›
      clear hS' hS1
      have hB5 := bcat2 hB4 hb5
      have hR5 := blk_below hR4 hb5
      obtain ⟨_, h0, h1, h2, h3, h4, h5, h6, h7⟩ := Eight.mk' (blk_below hH4 hb5)
      go_wp2_with fail
      clear h0 h1 h2 h3 h4 h5 h6 h7
      refine (HXT.out _ hB5).mono ?_
      intro x w6 hXP
      have hR6 := blk_below hR5 hXP.bel
      have hB6 := bcat2 hB5 hXP.bel
      obtain ⟨y0, y1, fy0, fy1⟩ := hR6.two
      cases hxt : ext n zs e m ys d ps with
      | none =>
        obtain rfl := hXP.no hxt
        obtain ⟨hR7, hB7⟩ := put2 hR6 hB6 (by omega) 6 0
        obtain ⟨z0, z1, _, _⟩ := hR7.two
        have HNN := hide (HNON.out hxt)
        clear hXP HNON HHOM
        go_wp2
        exact bodyPost_ret (v := .tuple #[.slice none 0 0, .agg #[.int .i64 6, .int .i64 0]]) (by simp [results, Tryd.results22, go_sem, z0, z1]) rfl ⟨.inr (.inl ⟨rfl, hall, HNN.out⟩), hB7⟩
      | some S =>
        obtain ⟨gb, rfl, hgb, hGB, hXI⟩ := hXP.yes S hxt
        obtain ⟨hR7, hB7⟩ := put2 hR6 hB6 (by omega) 0 0
        obtain ⟨z0, z1, _, _⟩ := hR7.two
        obtain ⟨hL, hS1'⟩ := HHOM.out S hxt
        have hneg : gb ≠ w.heap.size + 1 + 1 := by
          have h7 := hB5.size
          have h8 := hb5.size
          have h9 := hb34.size
          have h10 := hb2.size
          omega
        have hG7 : Blk ((w6.setCell ⟨w.heap.size + 1 + 1, 0, none⟩ (.int .i64 0)).setCell ⟨w.heap.size + 1 + 1, 1, none⟩ (.int .i64 0)) gb 3 (S.1.map (Value.int .i64)) := (hGB.other (by simpa using hneg) _).other (by simpa using hneg) _
        rw [hS1'] at hG7
        have hgw : w.heap.size ≤ gb := by
          have h7 := hB5.size
          omega
        clear hXP HNON HHOM hGB
        go_wp2
        exact bodyPost_ret (v := .tuple #[.slice (some ⟨gb, 0, none⟩) n n, .agg #[.int .i64 0, .int .i64 0]]) (by simp [results, Tryd.results22, go_sem, z0, z1]) rfl ⟨.inr (.inr ⟨vl S, gb, rfl, hall, hL, hgw, hG7⟩), hB7⟩)
  · have hbs : ¬ bs p n = bs (fun _ => true) n := fun h => hall fun a ha => (hpm a ha).1 (bs_inj h a ha)
    generalize (bs p n : Nat) = bp at *
    generalize (bs (fun _ => true) n : Nat) = bb at *
    have hne : ((bp : Int) != (bb : Int)) = true := by simp; omega
    clear HHOM HNON HXT
    go_region_held3 (fun W => Below w4.heap.size w4 W ∧ W.cell? ⟨w1.heap.size, 0, none⟩ = some (.int .i64 n) ∧ W.cell? ⟨w1.heap.size, 1, none⟩ = some (.slice va vn vc) ∧ W.cell? ⟨w1.heap.size, 2, none⟩ = some (.int .i64 e) ∧ W.cell? ⟨w1.heap.size, 3, none⟩ = some (.slice ia il ic) ∧ W.cell? ⟨w1.heap.size, 4, none⟩ = some (.int .i64 m) ∧ W.cell? ⟨w1.heap.size, 5, none⟩ = some (.slice ya yl yc) ∧ W.cell? ⟨w1.heap.size, 6, none⟩ = some (.int .i64 d) ∧ W.cell? ⟨w1.heap.size, 7, none⟩ = some (.slice ja jl jc))
      (first | exact hS1 | assumption | exact hS' _ (bcat2 (And.left ‹_›) hl1))
      (first
        | (go_at_call 68; refine (HOF.out _ (bcat2 hB4 (And.left ‹_›))).mono ?_; rintro e1 U1 ⟨rfl, rfl⟩)
        | (go_at_call 67; refine (HMD.out _ (bcat2 hBw4 (And.left ‹_›))).mono ?_; rintro e2 U2 ⟨rfl, hl1⟩)
        | (go_at_call 56; refine (HAL.out _).mono ?_; rintro e3 U3 ⟨rfl, hl1⟩))
    all_goals (
      have hb5 := And.left ‹Below w4.heap.size w4 U3 ∧ _›
      clear hS' hS1
      have hB5 := bcat2 hB4 hb5
      have hR5 := blk_below hR4 hb5
      obtain ⟨y0, y1, fy0, fy1⟩ := hR5.two
      obtain ⟨hR7, hB7⟩ := put2 hR5 hB5 (by omega) 4 0
      obtain ⟨z0, z1, _, _⟩ := hR7.two
      go_wp2
      exact bodyPost_ret (v := .tuple #[.slice none 0 0, .agg #[.int .i64 4, .int .i64 0]]) (by simp [results, Tryd.results22, go_sem, z0, z1]) rfl ⟨.inl ⟨rfl, hall⟩, hB7⟩)
end Go.Proofs.YtmgengplfebmjaaDoor

namespace Go.Proofs.YtmgengplfebmjaaDoor
open Go Go.RowKit

theorem mkX {X U : World} {x y : Value} (k : Below (X.alloc (.cells #[x, y] 27)).heap.size (X.alloc (.cells #[x, y] 27)) U) : Blk U X.heap.size 27 [x, y] := blk_below (blk0 x y) k
theorem undX {W U : World} (k : Below W.drew.heap.size W.drew U) : Below W.heap.size W U := ⟨k.os, k.tape, k.output, k.size, k.block⟩
theorem undrX {W U : World} {o : Obj} (k : Below (W.drew.alloc o).heap.size (W.drew.alloc o) U) : Below W.heap.size W U := undX (bcat2 (balloc _ _) k)
theorem sizeX (w : World) : w.drew.heap.size = w.heap.size := rfl
theorem putX {V : World} {b : Nat} {T : TypeId} {x y p q : Value} (h : Blk V b T [p, q]) : Blk ((V.setCell ⟨b, 0, none⟩ x).setCell ⟨b, 1, none⟩ y) b T [x, y] := (h.set 0 x).set 1 y
theorem farX {V : World} {b c : Nat} {T : TypeId} {x y : Value} {l : List Value} (h : Blk V b T l) (hb : b ≠ c) : Blk ((V.setCell ⟨c, 0, none⟩ x).setCell ⟨c, 1, none⟩ y) b T l := (h.other (p := ⟨c, 0, none⟩) hb x).other (p := ⟨c, 1, none⟩) hb y
theorem blk_alloc9 {V : World} {b : Nat} {T : TypeId} {o : Obj} {l : List Value} (h : Blk V b T l) : Blk (V.alloc o) b T l := h.alloc o
/-- What lies there behind the first statement: what Extend answers, its fault in a box of its own. -/
def XRel (w0 : World) (c i : Int) (ls : List Int) (s9 s10 : Value) (wx : World) : Prop := ∃ (b : Nat) (r1 : Option Addr) (r2 r3 : Nat), s9 = .slice r1 r2 r3 ∧ s10 = .pointer (some ⟨b, 0, none⟩) ∧ w0.heap.size ≤ b ∧ Blk wx b 27 [.int .i64 c, .int .i64 i] ∧ (c ≠ 0 → (Value.slice r1 r2 r3) = .slice none 0 0) ∧ (c = 0 → ∃ g, (Value.slice r1 r2 r3) = .slice (some ⟨g, 0, none⟩) ls.length ls.length ∧ Blk wx g 3 (ls.map (Value.int .i64))) ∧ Below w0.heap.size w0 wx
/-- What lies there while the fault that the document asks for is looked for. -/
structure XL (w : World) (N M : Int) (sg sh : Value) (fb wb : Nat) (c i p q : Int) (wr : World) : Prop where
  bel : Below w.heap.size w wr
  bx : BoxG wr w.heap.size N sg
  bY : BoxG wr (w.heap.size + 1) M sh
  bf : Blk wr fb 27 [.int .i64 c, .int .i64 i]
  bw : Blk wr wb 27 [.int .i64 p, .int .i64 q]
section
variable {w wr : World} {N M : Int} {sg sh : Value} {fb wb : Nat} {c i p q : Int}
theorem XL.below {W : World} (h : XL w N M sg sh fb wb c i p q wr) (hb : Below wr.heap.size wr W) : XL w N M sg sh fb wb c i p q W := ⟨bcat2 h.bel hb, blk_below h.bx hb, blk_below h.bY hb, blk_below h.bf hb, blk_below h.bw hb⟩
theorem XL.put (h : XL w N M sg sh fb wb c i p q wr) (h1 : w.heap.size + 1 < wb) (h2 : fb ≠ wb) (p' q' : Int) : XL w N M sg sh fb wb c i p' q' ((wr.setCell ⟨wb, 0, none⟩ (.int .i64 p')).setCell ⟨wb, 1, none⟩ (.int .i64 q')) :=
  ⟨bSet (bSet h.bel (by omega)) (by omega), farX h.bx (by omega), farX h.bY (by omega), farX h.bf h2, putX h.bw⟩
theorem XL.far (h : XL w N M sg sh fb wb c i p q wr) {b : Nat} (h1 : w.heap.size + 1 < b) (h2 : fb ≠ b) (h3 : wb ≠ b) (v : Value) : XL w N M sg sh fb wb c i p q (wr.setCell ⟨b, 0, none⟩ v) :=
  ⟨bSet h.bel (by omega), h.bx.other (p := ⟨b, 0, none⟩) (show w.heap.size ≠ b by omega) v, h.bY.other (p := ⟨b, 0, none⟩) (show w.heap.size + 1 ≠ b by omega) v, h.bf.other (p := ⟨b, 0, none⟩) h2 v, h.bw.other (p := ⟨b, 0, none⟩) h3 v⟩
theorem XL.drewN (h : XL w N M sg sh fb wb c i p q wr) (k : Nat) : XL w N M sg sh fb wb c i p q (wr.drewN k) := h.below (bdrewN (Below.refl _ wr) k)
end
theorem Boxed.put9 {W : World} {b : Nat} {t : TypeId} {v : Value} (h : Boxed W b t v) (v' : Value) : Boxed (W.setCell ⟨b, 0, none⟩ v') b t v' := Blk.set (vs := [v]) h 0 v'
theorem nilq1 (w : World) : Sem.run Tryd.prog (binOp BinOp.eql 22 (.slice none 0 0) (.slice none 0 0)) w = .ok (.bool true) w := by kernel_rfl
theorem nilq2 (g l : Nat) (w : World) : Sem.run Tryd.prog (binOp BinOp.eql 22 (.slice (some ⟨g, 0, none⟩) l l) (.slice none 0 0)) w = .ok (.bool false) w := by kernel_rfl
theorem call27x (x : Value) (W : World) : Sem.run Tryd.prog (callFunc 27 #[x]) W = .ok (.enter 27 #[x]) W := by kernel_rfl
theorem hx1_ok (b : Nat) (a : Option Addr) (l k : Nat) (w : World) (hb : Boxed w b 22 (.slice a l k)) : Calls Tryd.prog 27 #[.pointer (some ⟨b, 0, none⟩)] w fun x w' => x = .returned (.slice a l k) ∧ Below w.heap.size w w' := by
  have c0 := hb.cell
  go_enter Tryd.func27, Tryd.ntmps27
  go_wp2
  go_ret
  exact ⟨rfl, Below.refl _ _⟩
set_option maxRecDepth 100000 in
set_option maxHeartbeats 40000000 in
theorem hext_walk (N M : Int) (v1 : Option Addr) (v2 v3 : Nat) (y1 : Option Addr) (y2 y3 : Nat) (f1 : Option Addr) (f2 f3 : Nat) (t1 : Option Addr) (t2 t3 : Nat) (zs ys fs ts ls : List Int) (c i a b : Int) (w : World) (hv : Sl w (.slice v1 v2 v3) zs) (hy : Sl w (.slice y1 y2 y3) ys) (hf : Sl w (.slice f1 f2 f3) fs) (ht : Sl w (.slice t1 t2 t3) ts) (hT : Tab w) (hz : zs.length * 8 ≤ 140737488355328) (hz2 : ys.length * 8 ≤ 140737488355328) (hz3 : fs.length * 8 ≤ 140737488355328) (hz4 : ts.length * 8 ≤ 140737488355328)
    (HEX : Hid (∀ W x y f t, Below w.heap.size w W → Sl W x zs → Sl W y ys → Sl W f fs → Sl W t ts → Calls Tryd.prog 22 #[.agg #[.int .i64 N, x], .agg #[.int .i64 M, y], f, t] W fun x W' => ∃ r1 r2 r3, x = .returned (.tuple #[.slice r1 r2 r3, .agg #[.int .i64 c, .int .i64 i]]) ∧ (c ≠ 0 → (Value.slice r1 r2 r3) = .slice none 0 0) ∧ (c = 0 → ∃ g, (Value.slice r1 r2 r3) = .slice (some ⟨g, 0, none⟩) ls.length ls.length ∧ W.heap.size ≤ g ∧ Blk W' g 3 (ls.map (Value.int .i64))) ∧ Below W.heap.size W W'))
    (HTW : Hid (∀ W, Below w.heap.size w W → Calls Tryd.prog 23 #[.agg #[.int .i64 N, .slice v1 v2 v3], .agg #[.int .i64 M, .slice y1 y2 y3]] W fun x W' => x = .returned (.agg #[.int .i64 a, .int .i64 b]) ∧ Below W.heap.size W W'))
    (hcase : (a ≠ 0 ∧ c = a ∧ i = b) ∨ (a = 0 ∧ b = 0 ∧ (¬ fs.length = ts.length ∨ N < (fs.length : Int)) ∧ c = 8 ∧ i = 0) ∨
      (a = 0 ∧ b = 0 ∧ ¬ (¬ fs.length = ts.length ∨ N < (fs.length : Int)) ∧ ∃ k : Nat, k < fs.length ∧ (∀ t, t < k → (rng N fs t && rng M ts t) = true) ∧ (rng N fs k && rng M ts k) = false ∧ c = 3 ∧ i = (k : Int)) ∨
      (a = 0 ∧ b = 0 ∧ ¬ (¬ fs.length = ts.length ∨ N < (fs.length : Int)) ∧ (∀ t, t < fs.length → (rng N fs t && rng M ts t) = true) ∧ ∃ L : Nat, Hid (∀ W, Below w.heap.size w W → Calls Tryd.prog 20 #[.agg #[.int .i64 N, .slice v1 v2 v3], .slice f1 f2 f3] W fun x W' => ∃ r1 r3, x = .returned (.slice r1 L r3) ∧ Below W.heap.size W W') ∧
        (((L : Int) < N ∧ c = 4 ∧ i = 0) ∨
         (¬ (L : Int) < N ∧ Hid (∀ W, Below w.heap.size w W → Calls Tryd.prog 24 #[.agg #[.int .i64 N, .slice v1 v2 v3], .agg #[.int .i64 M, .slice y1 y2 y3], .slice f1 f2 f3, .slice t1 t2 t3] W fun x W' => x = .returned (.slice none 0 0) ∧ Below W.heap.size W W') ∧ c = 6 ∧ i = 0) ∨
         (¬ (L : Int) < N ∧ ls.length ≤ 60 ∧ Hid (∀ W, Below w.heap.size w W → Calls Tryd.prog 24 #[.agg #[.int .i64 N, .slice v1 v2 v3], .agg #[.int .i64 M, .slice y1 y2 y3], .slice f1 f2 f3, .slice t1 t2 t3] W fun x W' => ∃ g, x = .returned (.slice (some ⟨g, 0, none⟩) ls.length ls.length) ∧ W.heap.size ≤ g ∧ Blk W' g 3 (ls.map (Value.int .i64)) ∧ Below W.heap.size W W') ∧ c = 0 ∧ i = 0)))) :
    Calls Tryd.prog 4 #[.agg #[.int .i64 N, .slice v1 v2 v3], .agg #[.int .i64 M, .slice y1 y2 y3], .slice f1 f2 f3, .slice t1 t2 t3] w fun e w' => e = .returned (.bool true) ∧ Below w.heap.size w w' := by
  obtain ⟨ka, kc, kb, ko, hke, hkr, hkb, hk3, hk4⟩ := id hf
  cases hke
  obtain ⟨ia, ic, ib, io, hie, hir, hib, hi3, hi4⟩ := id ht
  cases hie
  have HKA := hide (fun (h : 0 < fs.length) => hkr.at_ h)
  have HIA := hide (fun (h : 0 < ts.length) => hir.at_ h)
  have HKC := hide (fun j (h : j < fs.length) => hkr.cell j h)
  have HIC := hide (fun j (h : j < ts.length) => hir.cell j h)
  clear hkr hir
  obtain ⟨w0, hw0⟩ : ∃ w0, w0 = (w.alloc (.cells #[.int .i64 N, .slice v1 v2 v3] 24)).alloc (.cells #[.int .i64 M, .slice y1 y2 y3] 24) := ⟨_, rfl⟩
  have hB0 : Below w.heap.size w w0 := by rw [hw0]; exact (balloc w _).alloc (by simp) _
  have HB0S : Hid (w0.heap.size = w.heap.size + 2) := by rw [hw0, World.size_alloc, World.size_alloc]; rfl
  have hX0 : BoxG w0 w.heap.size N (.slice v1 v2 v3) := by rw [hw0]; exact (blk0 (w := w) (T := 24) _ _).alloc _
  have hY0 : BoxG w0 (w.heap.size + 1) M (.slice y1 y2 y3) := by
    have := blk0 (w := w.alloc (.cells #[.int .i64 N, .slice v1 v2 v3] 24)) (T := 24) (.int .i64 M) (.slice y1 y2 y3)
    rw [World.size_alloc] at this
    rw [hw0]; exact this
  have HO1 := hide (fun W (h : Below w0.heap.size w0 W) => ownGroup_row N (.slice v1 v2 v3) zs W (hv.below (bcat2 hB0 h)) hz)
  have HO2 := hide (fun W (h : Below w0.heap.size w0 W) => ownGroup_row M (.slice y1 y2 y3) ys W (hy.below (bcat2 hB0 h)) hz2)
  have HO3 := hide (fun W (h : Below w0.heap.size w0 W) => own_any _ fs W (hf.below (bcat2 hB0 h)) hz3)
  have HO4 := hide (fun W (h : Below w0.heap.size w0 W) => own_any _ ts W (ht.below (bcat2 hB0 h)) hz4)
  have at0 : ∀ W : World, Below w0.heap.size w0 W → 0 < W.heap.size := fun W h => Nat.lt_of_lt_of_le (hT.below hB0).lt h.size
  obtain ⟨c0, c1, _, _⟩ := hX0.two
  obtain ⟨d0, d1, _, _⟩ := hY0.two
  have hS : ∀ W9, Below w0.heap.size w0 W9 → ((fun W9 => Below w0.heap.size w0 W9 ∧ W9.cell? ⟨w.heap.size, 0, none⟩ = some (.int .i64 N) ∧ W9.cell? ⟨w.heap.size, 1, none⟩ = some (.slice v1 v2 v3) ∧ W9.cell? ⟨w.heap.size + 1, 0, none⟩ = some (.int .i64 M) ∧ W9.cell? ⟨w.heap.size + 1, 1, none⟩ = some (.slice y1 y2 y3)) W9) := fun W9 h => ⟨h, below_cell h c0, below_cell h c1, below_cell h d0, below_cell h d1⟩
  have hS0 := hS _ (bdrew (Below.refl _ w0))
  clear c0 c1 d0 d1
  go_enter Tryd.func4, Tryd.ntmps4
  go_wp2_with fail
  rw [← hw0]
  clear hw0
  have hk1 : Hid True := trivial
  have hk2 : Hid True := trivial
  go_cut [9, 10] (fun s9 s10 wx => XRel w0 c i ls s9 s10 wx)
  case first =>
    clear HTW hcase
    go_region_held3 (fun W9 => Below w0.heap.size w0 W9 ∧ W9.cell? ⟨w.heap.size, 0, none⟩ = some (.int .i64 N) ∧ W9.cell? ⟨w.heap.size, 1, none⟩ = some (.slice v1 v2 v3) ∧ W9.cell? ⟨w.heap.size + 1, 0, none⟩ = some (.int .i64 M) ∧ W9.cell? ⟨w.heap.size + 1, 1, none⟩ = some (.slice y1 y2 y3))
      (first | exact hS0 | assumption | exact hS _ (bcat2 (And.left ‹_›) hl1) | exact hS _ (bcat2 (And.left ‹_›) hl2) | exact hS _ (bcat2 (And.left ‹_›) hl3) | exact hS _ (bcat2 (And.left ‹_›) hl4) | exact hS _ (bcat2 (And.left ‹_›) hl5) | exact hS _ (bcat2 (And.left ‹_›) (balloc _ _)) | (refine hS _ ?_; repeat (first | exact hU5 | (refine bAlloc ?_) | (refine bSet ?_ (by omega)))))
      (first
        | (go_at_call 10; clear hk1; refine (HO1.out _ (And.left ‹_›)).mono ?_; rintro e1 U1 ⟨x9, rfl, hx9, hl1⟩; have hU1 := bcat2 (And.left ‹_›) hl1; have hs1 := hl1.size; (try simp only [sizeX] at hs1); (try simp only [World.size_alloc] at hs1); (try simp only [sizeX] at hs1); (first | (with_reducible have pA1 := mkX hl1) | (with_reducible have pA1 := mkX (undX hl1)) | skip); have sx := row_sl hx9 (at0 _ hU1))
        | (go_at_call 10; refine (HO2.out _ (And.left ‹_›)).mono ?_; rintro e2 U2 ⟨z9, rfl, hz9, hl2⟩; have hU2 := bcat2 (And.left ‹_›) hl2; have hs2 := hl2.size; (try simp only [sizeX] at hs2); (try simp only [World.size_alloc] at hs2); (try simp only [sizeX] at hs2); (first | (with_reducible have pA1 := blk_below pA1 hl2) | skip); (first | (with_reducible have pA2 := mkX hl2) | (with_reducible have pA2 := mkX (undX hl2)) | skip); have hb2 : Below U1.heap.size U1 U2 := (by first | exact hl2 | exact bcat2 (balloc _ _) hl2 | exact undX hl2 | exact undrX hl2); have sx := Sl.below sx hb2; have sy := row_sl hz9 (at0 _ hU2))
        | (go_at_call 21; clear hk2; refine (HO3.out _ (And.left ‹_›)).mono ?_; rintro e3 U3 ⟨n9, rfl, hn9, hl3⟩; have hU3 := bcat2 (And.left ‹_›) hl3; have hs3 := hl3.size; (try simp only [sizeX] at hs3); (try simp only [World.size_alloc] at hs3); (try simp only [sizeX] at hs3); (first | (with_reducible have pA1 := blk_below pA1 hl3) | skip); (first | (with_reducible have pA2 := blk_below pA2 hl3) | skip); (first | (with_reducible have pA3 := mkX hl3) | (with_reducible have pA3 := mkX (undX hl3)) | skip); have hb3 : Below U2.heap.size U2 U3 := (by first | exact hl3 | exact bcat2 (balloc _ _) hl3 | exact undX hl3 | exact undrX hl3); have sx := Sl.below sx hb3; have sy := Sl.below sy hb3; have sf := Sl.of_own hn9 (at0 _ hU3))
        | (go_at_call 21; refine (HO4.out _ (And.left ‹_›)).mono ?_; rintro e4 U4 ⟨m9, rfl, hm9, hl4⟩; have hU4 := bcat2 (And.left ‹_›) hl4; have hs4 := hl4.size; (try simp only [sizeX] at hs4); (try simp only [World.size_alloc] at hs4); (try simp only [sizeX] at hs4); (first | (with_reducible have pA1 := blk_below pA1 hl4) | skip); (first | (with_reducible have pA2 := blk_below pA2 hl4) | skip); (first | (with_reducible have pA3 := blk_below pA3 hl4) | skip); (first | (with_reducible have pA4 := mkX hl4) | (with_reducible have pA4 := mkX (undX hl4)) | skip); have hb4 : Below U3.heap.size U3 U4 := (by first | exact hl4 | exact bcat2 (balloc _ _) hl4 | exact undX hl4 | exact undrX hl4); have sx := Sl.below sx hb4; have sy := Sl.below sy hb4; have sf := Sl.below sf hb4; have st := Sl.of_own hm9 (at0 _ hU4))
        | (go_at_call 22; refine (HEX.out _ _ _ _ _ (bcat2 hB0 (And.left ‹_›)) (by first | exact sx | exact sx.below (balloc _ _)) (by first | exact sy | exact sy.below (balloc _ _)) (by first | exact sf | exact sf.below (balloc _ _)) (by first | exact st | exact st.below (balloc _ _))).mono ?_; rintro e5 U5 ⟨r1, r2, r3, rfl, hr1, hr2, hl5⟩; have hU5 := bcat2 (And.left ‹_›) hl5; have hs5 := hl5.size; (try simp only [sizeX] at hs5); (try simp only [World.size_alloc] at hs5); (try simp only [sizeX] at hs5); (first | (with_reducible have pA1 := blk_below pA1 hl5) | skip); (first | (with_reducible have pA2 := blk_below pA2 hl5) | skip); (first | (with_reducible have pA3 := blk_below pA3 hl5) | skip); (first | (with_reducible have pA4 := blk_below pA4 hl5) | skip); (first | (with_reducible have pA5 := mkX hl5) | (with_reducible have pA5 := mkX (undX hl5)) | skip); (try (obtain ⟨_, _, _, _⟩ := pA1.two)); (try (obtain ⟨_, _, _, _⟩ := pA2.two)); (try (obtain ⟨_, _, _, _⟩ := pA3.two)); (try (obtain ⟨_, _, _, _⟩ := pA4.two)); (try (obtain ⟨_, _, _, _⟩ := pA5.two)); have hs0 := hU1.size))
    all_goals (go_wp2; go_meet)
    all_goals (refine ⟨_, r1, r2, r3, rfl, rfl, ?_, ?_, hr1, ?_, ?_⟩)
    all_goals (first
      | omega
      | (with_reducible exact blk0 _ _)
      | (with_reducible exact putX pA5) | (with_reducible exact putX pA4) | (with_reducible exact putX pA3) | (with_reducible exact putX pA2) | (with_reducible exact putX pA1)
      | (intro h0; obtain ⟨g9, e9, hb9, hG9⟩ := hr2 h0; (try simp only [World.size_alloc] at hb9); refine ⟨g9, e9, ?_⟩; first | (with_reducible exact hG9) | (with_reducible exact blk_alloc9 hG9) | (with_reducible refine farX hG9 ?_; omega))
      | ((repeat (first | (with_reducible exact hU5) | (with_reducible refine bAlloc ?_) | (with_reducible refine bSet ?_ (by omega)))); done))
  case rest =>
    obtain ⟨fb, r1, r2, r3, rfl, rfl, hfb, hF, hr1, hr2, hbx⟩ := hcut
    have hB := bcat2 hB0 hbx
    have hX := blk_below hX0 hbx
    have hY := blk_below hY0 hbx
    clear HO1 HO2 HO3 HO4 HEX at0 hS hS0 hX0 hY0 hk1 hk2
    obtain ⟨c0, c1, _, _⟩ := hX.two
    obtain ⟨d0, d1, _, _⟩ := hY.two
    go_wp2_with fail
    clear c0 c1 d0 d1
    refine (HTW.out _ hB).mono ?_
    rintro x w4 ⟨rfl, hb4⟩
    clear HTW
    have hfb2 : w.heap.size + 1 < fb := by have := hY.lt; have := hbx.size; have := HB0S.out; omega
    have hwb : fb ≠ w4.heap.size := by have := hF.lt; have := hb4.size; omega
    have hwb2 : w.heap.size + 1 < w4.heap.size := by have := hY.lt; have := hb4.size; omega
    rcases hcase with ⟨ha, rfl, rfl⟩ | ⟨rfl, rfl, hsz, rfl, rfl⟩ | ⟨rfl, rfl, hsz, k, hk, hlo, hbad, rfl, rfl⟩ | ⟨rfl, rfl, hsz, hlo, L, HSP, hrest⟩
    · have hc9 : c ≠ 0 := ha
      have hcb : (c == 0) = false := by simpa using ha
      have hnl := hr1 hc9
      obtain ⟨rfl, rfl, rfl⟩ : r1 = none ∧ r2 = 0 ∧ r3 = 0 := by
        injection hnl with h1 h2 h3
        exact ⟨h1, h2, h3⟩
      clear hnl hr1 hr2
      have hb5 := bcat2 hb4 (balloc w4 (.cells #[.int .i64 c, .int .i64 i] 27))
      have hL5 : XL w N M (.slice v1 v2 v3) (.slice y1 y2 y3) fb w4.heap.size c i (c) (i) (w4.alloc (.cells #[.int .i64 c, .int .i64 i] 27)) := ⟨bcat2 hB hb5, blk_below hX hb5, blk_below hY hb5, blk_below hF hb5, blk0 _ _⟩
      obtain ⟨u0, u1, fu0, fu1⟩ := hL5.bw.two
      obtain ⟨g0, g1, _, _⟩ := hL5.bx.two
      go_wp2_with fail
      generalize w4.alloc (.cells #[.int .i64 c, .int .i64 i] 27) = w5 at *
      clear u0 u1 fu0 fu1 g0 g1
      go_loopw [12] (fun s wr => s = .int .i64 0 ∧ XL w N M (.slice v1 v2 v3) (.slice y1 y2 y3) fb w4.heap.size c i c i wr) (fun _ _ => 0)
      case atStart => exact ⟨rfl, hL5⟩
      case round =>
        obtain ⟨rfl, hL⟩ := hrel
        clear hL5
        obtain ⟨u0, u1, _, _⟩ := hL.bw.two
        by_cases hlen : 0 < fs.length
        · have hli : (0 : Int) < (fs.length : Int) := by omega
          go_wp2_with fail
          go_quiet (fail)
          have hLq := hL.drewN nq
          generalize wr.drewN nq = wq at hLq ⊢
          have hL8 := hLq.below (balloc wq (.cells #[.slice none 0 0] 22))
          obtain ⟨u0, u1, _, _⟩ := hL8.bw.two
          go_wp2_with fail
          generalize wq.alloc (.cells #[.slice none 0 0] 22) = wa at *
          clear u0 u1
          refine (homBegun_any _ (hT.below hL8.bel)).mono ?_
          rintro x w8 ⟨rfl, hb8⟩
          have hL9 := hL8.below hb8
          obtain ⟨u0, u1, _, _⟩ := hL9.bw.two
          obtain ⟨g0, g1, _, _⟩ := hL9.bf.two
          go_wp2_with fail
          refine (las_bad 27 _ (c) (i) _ (by first | exact hc9 | decide)).mono ?_
          rintro x w9 ⟨rfl, hb9⟩
          have hB9 := bcat2 hL9.bel hb9
          go_wp2
          go_ret
          exact ⟨rfl, hB9⟩
        · have hli : ¬ (0 : Int) < (fs.length : Int) := by omega
          go_wp2_with fail
          go_quiet (fail)
          have hLq := hL.drewN nq
          generalize wr.drewN nq = wq at hLq ⊢
          have hL8 := hLq.below (balloc wq (.cells #[.slice none 0 0] 22))
          obtain ⟨u0, u1, _, _⟩ := hL8.bw.two
          go_wp2_with fail
          generalize wq.alloc (.cells #[.slice none 0 0] 22) = wa at *
          clear u0 u1
          refine (homBegun_any _ (hT.below hL8.bel)).mono ?_
          rintro x w8 ⟨rfl, hb8⟩
          have hL9 := hL8.below hb8
          obtain ⟨u0, u1, _, _⟩ := hL9.bw.two
          obtain ⟨g0, g1, _, _⟩ := hL9.bf.two
          go_wp2_with fail
          refine (las_bad 27 _ (c) (i) _ (by first | exact hc9 | decide)).mono ?_
          rintro x w9 ⟨rfl, hb9⟩
          have hB9 := bcat2 hL9.bel hb9
          go_wp2
          go_ret
          exact ⟨rfl, hB9⟩
    · have hc9 : (8 : Int) ≠ 0 := by decide
      have hnl := hr1 hc9
      obtain ⟨rfl, rfl, rfl⟩ : r1 = none ∧ r2 = 0 ∧ r3 = 0 := by
        injection hnl with h1 h2 h3
        exact ⟨h1, h2, h3⟩
      clear hnl hr1 hr2
      have hb5 := bcat2 hb4 (balloc w4 (.cells #[.int .i64 0, .int .i64 0] 27))
      have hL5 : XL w N M (.slice v1 v2 v3) (.slice y1 y2 y3) fb w4.heap.size 8 0 (0) (0) (w4.alloc (.cells #[.int .i64 0, .int .i64 0] 27)) := ⟨bcat2 hB hb5, blk_below hX hb5, blk_below hY hb5, blk_below hF hb5, blk0 _ _⟩
      obtain ⟨u0, u1, fu0, fu1⟩ := hL5.bw.two
      obtain ⟨g0, g1, _, _⟩ := hL5.bx.two
      obtain ⟨hli, hlj⟩ : (((fs.length : Int) != (ts.length : Int)) = true ∨ (((fs.length : Int) != (ts.length : Int)) = false ∧ N < (fs.length : Int))) ∧ True := by
        refine ⟨?_, trivial⟩
        by_cases hl : fs.length = ts.length
        · exact .inr ⟨by simp; omega, by omega⟩
        · exact .inl (by simp; omega)
      rcases hli with hli | ⟨hli, hlk⟩
      · go_wp2_with fail
        generalize w4.alloc (.cells #[.int .i64 0, .int .i64 0] 27) = w5 at *
        clear u0 u1 fu0 fu1 g0 g1
        refine (f_any 8 0 _).mono ?_
        rintro x w6 ⟨rfl, hb6⟩
        have hL6 := hL5.below hb6
        obtain ⟨u0, u1, fu0, fu1⟩ := hL6.bw.two
        have hL5' := hL6.put hwb2 hwb 8 0
        clear hL6 hL5
        have hL5 := hL5'
        clear hL5'
        go_wp2_with fail
        generalize (w6.setCell ⟨w4.heap.size, 0, none⟩ (.int .i64 8)).setCell ⟨w4.heap.size, 1, none⟩ (.int .i64 0) = w7 at *
        clear u0 u1 fu0 fu1
        go_loopw [12] (fun s wr => s = .int .i64 0 ∧ XL w N M (.slice v1 v2 v3) (.slice y1 y2 y3) fb w4.heap.size 8 0 8 0 wr) (fun _ _ => 0)
        case atStart => exact ⟨rfl, hL5⟩
        case round =>
          obtain ⟨rfl, hL⟩ := hrel
          clear hL5
          obtain ⟨u0, u1, _, _⟩ := hL.bw.two
          by_cases hlen : 0 < fs.length
          · have hli : (0 : Int) < (fs.length : Int) := by omega
            go_wp2_with fail
            go_quiet (fail)
            have hLq := hL.drewN nq
            generalize wr.drewN nq = wq at hLq ⊢
            have hL8 := hLq.below (balloc wq (.cells #[.slice none 0 0] 22))
            obtain ⟨u0, u1, _, _⟩ := hL8.bw.two
            go_wp2_with fail
            generalize wq.alloc (.cells #[.slice none 0 0] 22) = wa at *
            clear u0 u1
            refine (homBegun_any _ (hT.below hL8.bel)).mono ?_
            rintro x w8 ⟨rfl, hb8⟩
            have hL9 := hL8.below hb8
            obtain ⟨u0, u1, _, _⟩ := hL9.bw.two
            obtain ⟨g0, g1, _, _⟩ := hL9.bf.two
            go_wp2_with fail
            refine (las_bad 27 _ (8) (0) _ (by first | exact hc9 | decide)).mono ?_
            rintro x w9 ⟨rfl, hb9⟩
            have hB9 := bcat2 hL9.bel hb9
            go_wp2
            go_ret
            exact ⟨rfl, hB9⟩
          · have hli : ¬ (0 : Int) < (fs.length : Int) := by omega
            go_wp2_with fail
            go_quiet (fail)
            have hLq := hL.drewN nq
            generalize wr.drewN nq = wq at hLq ⊢
            have hL8 := hLq.below (balloc wq (.cells #[.slice none 0 0] 22))
            obtain ⟨u0, u1, _, _⟩ := hL8.bw.two
            go_wp2_with fail
            generalize wq.alloc (.cells #[.slice none 0 0] 22) = wa at *
            clear u0 u1
            refine (homBegun_any _ (hT.below hL8.bel)).mono ?_
            rintro x w8 ⟨rfl, hb8⟩
            have hL9 := hL8.below hb8
            obtain ⟨u0, u1, _, _⟩ := hL9.bw.two
            obtain ⟨g0, g1, _, _⟩ := hL9.bf.two
            go_wp2_with fail
            refine (las_bad 27 _ (8) (0) _ (by first | exact hc9 | decide)).mono ?_
            rintro x w9 ⟨rfl, hb9⟩
            have hB9 := bcat2 hL9.bel hb9
            go_wp2
            go_ret
            exact ⟨rfl, hB9⟩
      · go_wp2_with fail
        generalize w4.alloc (.cells #[.int .i64 0, .int .i64 0] 27) = w5 at *
        clear u0 u1 fu0 fu1 g0 g1
        refine (f_any 8 0 _).mono ?_
        rintro x w6 ⟨rfl, hb6⟩
        have hL6 := hL5.below hb6
        obtain ⟨u0, u1, fu0, fu1⟩ := hL6.bw.two
        have hL5' := hL6.put hwb2 hwb 8 0
        clear hL6 hL5
        have hL5 := hL5'
        clear hL5'
        go_wp2_with fail
        generalize (w6.setCell ⟨w4.heap.size, 0, none⟩ (.int .i64 8)).setCell ⟨w4.heap.size, 1, none⟩ (.int .i64 0) = w7 at *
        clear u0 u1 fu0 fu1
        go_loopw [12] (fun s wr => s = .int .i64 0 ∧ XL w N M (.slice v1 v2 v3) (.slice y1 y2 y3) fb w4.heap.size 8 0 8 0 wr) (fun _ _ => 0)
        case atStart => exact ⟨rfl, hL5⟩
        case round =>
          obtain ⟨rfl, hL⟩ := hrel
          clear hL5
          obtain ⟨u0, u1, _, _⟩ := hL.bw.two
          by_cases hlen : 0 < fs.length
          · have hli : (0 : Int) < (fs.length : Int) := by omega
            go_wp2_with fail
            go_quiet (fail)
            have hLq := hL.drewN nq
            generalize wr.drewN nq = wq at hLq ⊢
            have hL8 := hLq.below (balloc wq (.cells #[.slice none 0 0] 22))
            obtain ⟨u0, u1, _, _⟩ := hL8.bw.two
            go_wp2_with fail
            generalize wq.alloc (.cells #[.slice none 0 0] 22) = wa at *
            clear u0 u1
            refine (homBegun_any _ (hT.below hL8.bel)).mono ?_
            rintro x w8 ⟨rfl, hb8⟩
            have hL9 := hL8.below hb8
            obtain ⟨u0, u1, _, _⟩ := hL9.bw.two
            obtain ⟨g0, g1, _, _⟩ := hL9.bf.two
            go_wp2_with fail
            refine (las_bad 27 _ (8) (0) _ (by first | exact hc9 | decide)).mono ?_
            rintro x w9 ⟨rfl, hb9⟩
            have hB9 := bcat2 hL9.bel hb9
            go_wp2
            go_ret
            exact ⟨rfl, hB9⟩
          · have hli : ¬ (0 : Int) < (fs.length : Int) := by omega
            go_wp2_with fail
            go_quiet (fail)
            have hLq := hL.drewN nq
            generalize wr.drewN nq = wq at hLq ⊢
            have hL8 := hLq.below (balloc wq (.cells #[.slice none 0 0] 22))
            obtain ⟨u0, u1, _, _⟩ := hL8.bw.two
            go_wp2_with fail
            generalize wq.alloc (.cells #[.slice none 0 0] 22) = wa at *
            clear u0 u1
            refine (homBegun_any _ (hT.below hL8.bel)).mono ?_
            rintro x w8 ⟨rfl, hb8⟩
            have hL9 := hL8.below hb8
            obtain ⟨u0, u1, _, _⟩ := hL9.bw.two
            obtain ⟨g0, g1, _, _⟩ := hL9.bf.two
            go_wp2_with fail
            refine (las_bad 27 _ (8) (0) _ (by first | exact hc9 | decide)).mono ?_
            rintro x w9 ⟨rfl, hb9⟩
            have hB9 := bcat2 hL9.bel hb9
            go_wp2
            go_ret
            exact ⟨rfl, hB9⟩
    · have hc9 : (3 : Int) ≠ 0 := by decide
      have hnl := hr1 hc9
      obtain ⟨rfl, rfl, rfl⟩ : r1 = none ∧ r2 = 0 ∧ r3 = 0 := by
        injection hnl with h1 h2 h3
        exact ⟨h1, h2, h3⟩
      clear hnl hr1 hr2
      have hb5 := bcat2 hb4 (balloc w4 (.cells #[.int .i64 0, .int .i64 0] 27))
      have hL5 : XL w N M (.slice v1 v2 v3) (.slice y1 y2 y3) fb w4.heap.size 3 (k : Int) (0) (0) (w4.alloc (.cells #[.int .i64 0, .int .i64 0] 27)) := ⟨bcat2 hB hb5, blk_below hX hb5, blk_below hY hb5, blk_below hF hb5, blk0 _ _⟩
      obtain ⟨u0, u1, fu0, fu1⟩ := hL5.bw.two
      obtain ⟨g0, g1, _, _⟩ := hL5.bx.two
      have HLL := hide (show fs.length = ts.length by omega)
      have hli : ((fs.length : Int) != (ts.length : Int)) = false := by simp; omega
      have hlk : ¬ N < (fs.length : Int) := by omega
      have HLO := hide hlo
      have HBD := hide hbad
      clear hlo hbad hsz
      go_wp2_with fail
      generalize w4.alloc (.cells #[.int .i64 0, .int .i64 0] 27) = w5 at *
      clear u0 u1 fu0 fu1 g0 g1 hli hlk
      go_loopw [12] (fun s wr => ∃ j : Nat, s = .int .i64 j ∧ ((j ≤ k ∧ XL w N M (.slice v1 v2 v3) (.slice y1 y2 y3) fb w4.heap.size 3 (k : Int) 0 0 wr) ∨ (j = k + 1 ∧ XL w N M (.slice v1 v2 v3) (.slice y1 y2 y3) fb w4.heap.size 3 (k : Int) 3 (k : Int) wr))) (fun s _ => k + 1 - (intOf s).toNat)
      case atStart => exact ⟨0, rfl, .inl ⟨Nat.zero_le _, hL5⟩⟩
      case round =>
        clear hL5
        obtain ⟨j, rfl, ⟨hj, hL⟩ | ⟨rfl, hL⟩⟩ := hrel
        · skip
          have hll := HLL.out
          obtain rfl := HKA.out (by omega)
          obtain rfl := HIA.out (by omega)
          have ck := below_cell hL.bel (HKC.out j (by omega))
          have ci := below_cell hL.bel (HIC.out j (by omega))
          obtain ⟨p0, p1, _, _⟩ := hL.bx.two
          obtain ⟨q0, q1, _, _⟩ := hL.bY.two
          obtain ⟨u0, u1, _, _⟩ := hL.bw.two
          have hji : (j : Int) < (fs.length : Int) := by omega
          have hjt : (j : Int) < (ts.length : Int) := by omega
          clear hll
          by_cases hjk : j < k
          · have hgd := HLO.out j hjk
            have HRN : Hid ((rng N fs j && rng M ts j) = (decide (0 ≤ fs[j]?.getD 0 ∧ fs[j]?.getD 0 < N) && decide (0 ≤ ts[j]?.getD 0 ∧ ts[j]?.getD 0 < M))) := rfl
            rw [HRN.out] at hgd
            clear HRN
            generalize fs[j]?.getD 0 = x9 at *
            generalize ts[j]?.getD 0 = z9 at *
            obtain ⟨⟨gx1, gx2⟩, gz1, gz2⟩ : (0 ≤ x9 ∧ x9 < N) ∧ 0 ≤ z9 ∧ z9 < M := by simpa using hgd
            have hd1 : decide (x9 < 0) = false := decide_eq_false (by omega)
            have hd2 : decide (N ≤ x9) = false := decide_eq_false (by omega)
            have hd3 : decide (z9 < 0) = false := decide_eq_false (by omega)
            have hd4 : decide (M ≤ z9) = false := decide_eq_false (by omega)
            go_wp2_with fail
            go_quiet (fail)
            have hLq := hL.drewN nq
            generalize wr.drewN nq = wq at hLq ⊢
            go_wp2
            go_roundw
            case rel => exact ⟨j + 1, by go_num, .inl ⟨by omega, hLq⟩⟩
            case measure => first | (simp [intOf]; done) | (simp [intOf]; omega)
          · obtain rfl : j = k := by omega
            have hgd := HBD.out
            have HRN : Hid ((rng N fs j && rng M ts j) = (decide (0 ≤ fs[j]?.getD 0 ∧ fs[j]?.getD 0 < N) && decide (0 ≤ ts[j]?.getD 0 ∧ ts[j]?.getD 0 < M))) := rfl
            rw [HRN.out] at hgd
            clear HRN HBD HLO
            generalize fs[j]?.getD 0 = x9 at *
            generalize ts[j]?.getD 0 = z9 at *
            by_cases b1 : x9 < 0
            · have hd1 : decide (x9 < 0) = true := decide_eq_true b1
              go_wp2_with fail
              go_quiet (fail)
              have hLq := hL.drewN nq
              generalize wr.drewN nq = wq at hLq ⊢
              go_wp2_with fail
              refine (f_any 3 (j : Int) _).mono ?_
              rintro x w6 ⟨rfl, hb6⟩
              have hL6 := hLq.below hb6
              obtain ⟨n0, n1, fn0, fn1⟩ := hL6.bw.two
              have hL7 := hL6.put hwb2 hwb 3 (j : Int)
              go_wp2
              go_roundw
              case rel => exact ⟨j + 1, by go_num, .inr ⟨rfl, hL7⟩⟩
              case measure => first | (simp [intOf]; done) | (simp [intOf]; omega)
            · have hd1 : decide (x9 < 0) = false := decide_eq_false b1
              by_cases b2 : N ≤ x9
              · have hd2 : decide (N ≤ x9) = true := decide_eq_true b2
                go_wp2_with fail
                go_quiet (fail)
                have hLq := hL.drewN nq
                generalize wr.drewN nq = wq at hLq ⊢
                go_wp2_with fail
                refine (f_any 3 (j : Int) _).mono ?_
                rintro x w6 ⟨rfl, hb6⟩
                have hL6 := hLq.below hb6
                obtain ⟨n0, n1, fn0, fn1⟩ := hL6.bw.two
                have hL7 := hL6.put hwb2 hwb 3 (j : Int)
                go_wp2
                go_roundw
                case rel => exact ⟨j + 1, by go_num, .inr ⟨rfl, hL7⟩⟩
                case measure => first | (simp [intOf]; done) | (simp [intOf]; omega)
              · have hd2 : decide (N ≤ x9) = false := decide_eq_false b2
                by_cases b3 : z9 < 0
                · have hd3 : decide (z9 < 0) = true := decide_eq_true b3
                  go_wp2_with fail
                  go_quiet (fail)
                  have hLq := hL.drewN nq
                  generalize wr.drewN nq = wq at hLq ⊢
                  go_wp2_with fail
                  refine (f_any 3 (j : Int) _).mono ?_
                  rintro x w6 ⟨rfl, hb6⟩
                  have hL6 := hLq.below hb6
                  obtain ⟨n0, n1, fn0, fn1⟩ := hL6.bw.two
                  have hL7 := hL6.put hwb2 hwb 3 (j : Int)
                  go_wp2
                  go_roundw
                  case rel => exact ⟨j + 1, by go_num, .inr ⟨rfl, hL7⟩⟩
                  case measure => first | (simp [intOf]; done) | (simp [intOf]; omega)
                · have hd3 : decide (z9 < 0) = false := decide_eq_false b3
                  have b4 : M ≤ z9 := by
                    by_cases b4 : M ≤ z9
                    · exact b4
                    · exfalso
                      simp at hgd
                      omega
                  have hd4 : decide (M ≤ z9) = true := decide_eq_true b4
                  go_wp2_with fail
                  go_quiet (fail)
                  have hLq := hL.drewN nq
                  generalize wr.drewN nq = wq at hLq ⊢
                  go_wp2_with fail
                  refine (f_any 3 (j : Int) _).mono ?_
                  rintro x w6 ⟨rfl, hb6⟩
                  have hL6 := hLq.below hb6
                  obtain ⟨n0, n1, fn0, fn1⟩ := hL6.bw.two
                  have hL7 := hL6.put hwb2 hwb 3 (j : Int)
                  go_wp2
                  go_roundw
                  case rel => exact ⟨j + 1, by go_num, .inr ⟨rfl, hL7⟩⟩
                  case measure => first | (simp [intOf]; done) | (simp [intOf]; omega)
        · obtain ⟨u0, u1, _, _⟩ := hL.bw.two
          by_cases hlen : k + 1 < fs.length
          · have hji : ((k + 1 : Nat) : Int) < (fs.length : Int) := by omega
            go_wp2_with fail
            go_quiet (fail)
            have hLq := hL.drewN nq
            generalize wr.drewN nq = wq at hLq ⊢
            have hL8 := hLq.below (balloc wq (.cells #[.slice none 0 0] 22))
            obtain ⟨u0, u1, _, _⟩ := hL8.bw.two
            go_wp2_with fail
            generalize wq.alloc (.cells #[.slice none 0 0] 22) = wa at *
            clear u0 u1
            refine (homBegun_any _ (hT.below hL8.bel)).mono ?_
            rintro x w8 ⟨rfl, hb8⟩
            have hL9 := hL8.below hb8
            obtain ⟨u0, u1, _, _⟩ := hL9.bw.two
            obtain ⟨g0, g1, _, _⟩ := hL9.bf.two
            go_wp2_with fail
            refine (las_bad 27 _ (3) ((k : Int)) _ (by first | exact hc9 | decide)).mono ?_
            rintro x w9 ⟨rfl, hb9⟩
            have hB9 := bcat2 hL9.bel hb9
            go_wp2
            go_ret
            exact ⟨rfl, hB9⟩
          · have hji : ¬ ((k + 1 : Nat) : Int) < (fs.length : Int) := by omega
            go_wp2_with fail
            go_quiet (fail)
            have hLq := hL.drewN nq
            generalize wr.drewN nq = wq at hLq ⊢
            have hL8 := hLq.below (balloc wq (.cells #[.slice none 0 0] 22))
            obtain ⟨u0, u1, _, _⟩ := hL8.bw.two
            go_wp2_with fail
            generalize wq.alloc (.cells #[.slice none 0 0] 22) = wa at *
            clear u0 u1
            refine (homBegun_any _ (hT.below hL8.bel)).mono ?_
            rintro x w8 ⟨rfl, hb8⟩
            have hL9 := hL8.below hb8
            obtain ⟨u0, u1, _, _⟩ := hL9.bw.two
            obtain ⟨g0, g1, _, _⟩ := hL9.bf.two
            go_wp2_with fail
            refine (las_bad 27 _ (3) ((k : Int)) _ (by first | exact hc9 | decide)).mono ?_
            rintro x w9 ⟨rfl, hb9⟩
            have hB9 := bcat2 hL9.bel hb9
            go_wp2
            go_ret
            exact ⟨rfl, hB9⟩
    · skip
      have hb5 := bcat2 hb4 (balloc w4 (.cells #[.int .i64 0, .int .i64 0] 27))
      have hL5 : XL w N M (.slice v1 v2 v3) (.slice y1 y2 y3) fb w4.heap.size c i (0) (0) (w4.alloc (.cells #[.int .i64 0, .int .i64 0] 27)) := ⟨bcat2 hB hb5, blk_below hX hb5, blk_below hY hb5, blk_below hF hb5, blk0 _ _⟩
      obtain ⟨u0, u1, fu0, fu1⟩ := hL5.bw.two
      obtain ⟨g0, g1, _, _⟩ := hL5.bx.two
      have HLL := hide (show fs.length = ts.length by omega)
      have hli : ((fs.length : Int) != (ts.length : Int)) = false := by simp; omega
      have hlk : ¬ N < (fs.length : Int) := by omega
      have HLO := hide hlo
      clear hlo hsz
      go_wp2_with fail
      generalize w4.alloc (.cells #[.int .i64 0, .int .i64 0] 27) = w5 at *
      clear u0 u1 fu0 fu1 g0 g1 hli hlk
      go_loopw [12] (fun s wr => ∃ j : Nat, j ≤ fs.length ∧ s = .int .i64 j ∧ Below w5.heap.size w5 wr) (fun s _ => fs.length - (intOf s).toNat)
      case atStart => exact ⟨0, Nat.zero_le _, rfl, Below.refl _ _⟩
      case round =>
        obtain ⟨j, hj, rfl, hbj⟩ := hrel
        have hL := hL5.below hbj
        by_cases hjl : j < fs.length
        · skip
          have hll := HLL.out
          obtain rfl := HKA.out (by omega)
          obtain rfl := HIA.out (by omega)
          have ck := below_cell hL.bel (HKC.out j (by omega))
          have ci := below_cell hL.bel (HIC.out j (by omega))
          obtain ⟨p0, p1, _, _⟩ := hL.bx.two
          obtain ⟨q0, q1, _, _⟩ := hL.bY.two
          obtain ⟨u0, u1, _, _⟩ := hL.bw.two
          have hji : (j : Int) < (fs.length : Int) := by omega
          have hjt : (j : Int) < (ts.length : Int) := by omega
          clear hll
          have hgd := HLO.out j hjl
          have HRN : Hid ((rng N fs j && rng M ts j) = (decide (0 ≤ fs[j]?.getD 0 ∧ fs[j]?.getD 0 < N) && decide (0 ≤ ts[j]?.getD 0 ∧ ts[j]?.getD 0 < M))) := rfl
          rw [HRN.out] at hgd
          clear HRN
          generalize fs[j]?.getD 0 = x9 at *
          generalize ts[j]?.getD 0 = z9 at *
          obtain ⟨⟨gx1, gx2⟩, gz1, gz2⟩ : (0 ≤ x9 ∧ x9 < N) ∧ 0 ≤ z9 ∧ z9 < M := by simpa using hgd
          have hd1 : decide (x9 < 0) = false := decide_eq_false (by omega)
          have hd2 : decide (N ≤ x9) = false := decide_eq_false (by omega)
          have hd3 : decide (z9 < 0) = false := decide_eq_false (by omega)
          have hd4 : decide (M ≤ z9) = false := decide_eq_false (by omega)
          go_wp2_with fail
          go_quiet (fail)
          have hbq := bdrewN hbj nq
          generalize wr.drewN nq = wq at hbq ⊢
          go_wp2
          go_roundw
          case rel => exact ⟨j + 1, by omega, by go_num, hbq⟩
          case measure => first | (simp [intOf]; done) | (simp [intOf]; omega)
        · have hji : ¬ (j : Int) < (fs.length : Int) := by omega
          obtain ⟨u0, u1, fu0, fu1⟩ := hL.bw.two
          obtain ⟨p0, p1, _, _⟩ := hL.bx.two
          have hS9 : ∀ W9, Below wr.heap.size wr W9 → ((fun W9 => Below wr.heap.size wr W9 ∧ W9.cell? ⟨w4.heap.size, 0, none⟩ = some (.int .i64 0) ∧ W9.cell? ⟨w.heap.size, 0, none⟩ = some (.int .i64 N) ∧ W9.cell? ⟨w.heap.size, 1, none⟩ = some (.slice v1 v2 v3)) W9) := fun W9 h => ⟨h, below_cell h u0, below_cell h p0, below_cell h p1⟩
          have hS90 := hS9 _ (bdrew (Below.refl _ wr))
          rcases hrest with ⟨hLN, rfl, rfl⟩ | hrest
          · have hc9 : (4 : Int) ≠ 0 := by decide
            have hnl := hr1 hc9
            obtain ⟨rfl, rfl, rfl⟩ : r1 = none ∧ r2 = 0 ∧ r3 = 0 := by
              injection hnl with h1 h2 h3
              exact ⟨h1, h2, h3⟩
            clear hnl hr1 hr2
            go_wp2_with fail
            clear u0 u1 fu0 fu1 p0 p1
            refine wp_region_held_drew (S := (fun W9 => Below wr.heap.size wr W9 ∧ W9.cell? ⟨w4.heap.size, 0, none⟩ = some (.int .i64 0) ∧ W9.cell? ⟨w.heap.size, 0, none⟩ = some (.int .i64 N) ∧ W9.cell? ⟨w.heap.size, 1, none⟩ = some (.slice v1 v2 v3))) (by kernel_rfl) hS90 (fun hHeld => ?_)
            refine wpAnyH_take (i := 0) (oi := ({ dst := some 90, op := Go.Op.fieldAddr 27 (Go.Operand.tmp 11) 0, type := 0, pos := _, after := #[], guard := none } : Oper)) (v := ?_) rfl (by kernel_rfl) (by kernel_rfl) (by kernel_rfl) (fun _ _ _ h => h) (Or.inl ⟨by rfl, ?_⟩) (by assumption) ?_
            rotate_left
            · (intro w hSw; (try dsimp only at hSw); go_simp; try with_reducible rfl)
            simp only [Act.put, List.setIfInBounds_toArray, List.set_cons_zero, List.set_cons_succ]
            refine wpAnyH_take (i := 1) (oi := ({ dst := some 91, op := Go.Op.load 3 (Go.Operand.tmp 90), type := 3, pos := _, after := #[{ on := 0, ground := Go.Ground.data }], guard := none } : Oper)) (v := ?_) rfl (by kernel_rfl) (by kernel_rfl) (by kernel_rfl) (fun _ _ _ h => h) (Or.inl ⟨by rfl, ?_⟩) (by assumption) ?_
            rotate_left
            · (intro w hSw; (try dsimp only at hSw); go_simp; try with_reducible rfl)
            simp only [Act.put, List.setIfInBounds_toArray, List.set_cons_zero, List.set_cons_succ]
            refine wpAnyH_take (i := 2) (oi := ({ dst := some 92, op := Go.Op.binOp Go.BinOp.eql 3 (Go.Operand.tmp 91) (Go.Operand.const (Go.Value.int Go.IntKind.i64 0)) 3, type := 4, pos := _, after := #[{ on := 1, ground := Go.Ground.data }], guard := none } : Oper)) (v := ?_) rfl (by kernel_rfl) (by kernel_rfl) (by kernel_rfl) (fun _ _ _ h => h) (Or.inl ⟨by rfl, ?_⟩) (by assumption) ?_
            rotate_left
            · (intro w hSw; (try dsimp only at hSw); go_simp; try with_reducible rfl)
            simp only [Act.put, List.setIfInBounds_toArray, List.set_cons_zero, List.set_cons_succ]
            refine wpAnyH_take (i := 3) (oi := ({ dst := some 93, op := Go.Op.move (Go.Operand.tmp 92), type := 4, pos := _, after := #[{ on := 2, ground := Go.Ground.data }], guard := none } : Oper)) (v := ?_) rfl (by kernel_rfl) (by kernel_rfl) (by kernel_rfl) (fun _ _ _ h => h) (Or.inl ⟨by rfl, ?_⟩) (by assumption) ?_
            rotate_left
            · (intro w hSw; (try dsimp only at hSw); go_simp; try with_reducible rfl)
            simp only [Act.put, List.setIfInBounds_toArray, List.set_cons_zero, List.set_cons_succ]
            refine wpAnyH_take (i := 4) (oi := ({ dst := some 94, op := Go.Op.load 24 (Go.Operand.tmp 4), type := 24, pos := _, after := #[{ on := 3, ground := Go.Ground.guard }], guard := some (3, true) } : Oper)) (v := ?_) rfl (by kernel_rfl) (by kernel_rfl) (by kernel_rfl) (fun _ _ _ h => h) (Or.inl ⟨by rfl, ?_⟩) (by assumption) ?_
            rotate_left
            · (intro w hSw; (try dsimp only at hSw); go_simp; try with_reducible rfl)
            simp only [Act.put, List.setIfInBounds_toArray, List.set_cons_zero, List.set_cons_succ]
            refine wpAnyH_take (i := 5) (oi := ({ dst := some 95, op := Go.Op.move (Go.Operand.tmp 2), type := 22, pos := _, after := #[{ on := 3, ground := Go.Ground.guard }], guard := some (3, true) } : Oper)) (v := ?_) rfl (by kernel_rfl) (by kernel_rfl) (by kernel_rfl) (fun _ _ _ h => h) (Or.inl ⟨by rfl, ?_⟩) (by assumption) ?_
            rotate_left
            · (intro w hSw; (try dsimp only at hSw); go_simp; try with_reducible rfl)
            simp only [Act.put, List.setIfInBounds_toArray, List.set_cons_zero, List.set_cons_succ]
            refine wpAnyH_take (i := 8) (oi := ({ dst := some 98, op := Go.Op.fieldAddr 24 (Go.Operand.tmp 4) 0, type := 0, pos := _, after := #[{ on := 3, ground := Go.Ground.guard }], guard := some (3, true) } : Oper)) (v := ?_) rfl (by kernel_rfl) (by kernel_rfl) (by kernel_rfl) (fun _ _ _ h => h) (Or.inl ⟨by rfl, ?_⟩) (by assumption) ?_
            rotate_left
            · (intro w hSw; (try dsimp only at hSw); go_simp; try with_reducible rfl)
            simp only [Act.put, List.setIfInBounds_toArray, List.set_cons_zero, List.set_cons_succ]
            refine wpAnyH_take (i := 9) (oi := ({ dst := some 99, op := Go.Op.load 3 (Go.Operand.tmp 98), type := 3, pos := _, after := #[{ on := 8, ground := Go.Ground.data }, { on := 3, ground := Go.Ground.guard }], guard := some (3, true) } : Oper)) (v := ?_) rfl (by kernel_rfl) (by kernel_rfl) (by kernel_rfl) (fun _ _ _ h => h) (Or.inl ⟨by rfl, ?_⟩) (by assumption) ?_
            rotate_left
            · (intro w hSw; (try dsimp only at hSw); go_simp; try with_reducible rfl)
            simp only [Act.put, List.setIfInBounds_toArray, List.set_cons_zero, List.set_cons_succ]
            refine wpAnyH_ready (rs := [6]) (by kernel_rfl) (by simp) (AllReadyH.cons (o := ({ dst := some 96, op := Go.Op.call { callee := Go.Callee.value (Go.Operand.func 20), args := #[Go.Operand.tmp 94, Go.Operand.tmp 95], argTypes := #[24, 22] }, type := 22, pos := _, after := #[{ on := 4, ground := Go.Ground.data }, { on := 5, ground := Go.Ground.data }, { on := 3, ground := Go.Ground.chain }, { on := 3, ground := Go.Ground.guard }], guard := some (3, true) } : Oper)) rfl (fun KK hK => ?_) AllReadyH.nil)
            go_simp
            refine (HSP.out _ (bcat2 hL.bel (And.left hHeld))).mono ?_
            rintro e1 U1 ⟨s1, s3, rfl, hl1⟩
            try go_wp2_with fail
            refine hK.out _ _ (hS9 _ (bcat2 (And.left hHeld) hl1)) (fun hHeld => ?_)
            clear hK
            try simp only [Act.put, List.setIfInBounds_toArray, List.set_cons_zero, List.set_cons_succ]
            refine wpAnyH_take (i := 7) (oi := ({ dst := some 97, op := Go.Op.call { callee := Go.Callee.builtin Go.Builtin.len, args := #[Go.Operand.tmp 96], argTypes := #[22] }, type := 3, pos := _, after := #[{ on := 6, ground := Go.Ground.data }, { on := 3, ground := Go.Ground.guard }], guard := some (3, true) } : Oper)) (v := ?_) rfl (by kernel_rfl) (by kernel_rfl) (by kernel_rfl) (fun _ _ _ h => h) (Or.inl ⟨by rfl, ?_⟩) (by assumption) ?_
            rotate_left
            · (intro w hSw; (try dsimp only at hSw); go_simp; try with_reducible rfl)
            simp only [Act.put, List.setIfInBounds_toArray, List.set_cons_zero, List.set_cons_succ]
            refine wpAnyH_take (i := 10) (oi := ({ dst := some 100, op := Go.Op.binOp Go.BinOp.lss 3 (Go.Operand.tmp 97) (Go.Operand.tmp 99) 3, type := 4, pos := _, after := #[{ on := 7, ground := Go.Ground.data }, { on := 9, ground := Go.Ground.data }, { on := 3, ground := Go.Ground.guard }], guard := some (3, true) } : Oper)) (v := ?_) rfl (by kernel_rfl) (by kernel_rfl) (by kernel_rfl) (fun _ _ _ h => h) (Or.inl ⟨by rfl, ?_⟩) (by assumption) ?_
            rotate_left
            · (intro w hSw; (try dsimp only at hSw); go_simp; try with_reducible rfl)
            simp only [Act.put, List.setIfInBounds_toArray, List.set_cons_zero, List.set_cons_succ]
            refine wpAnyH_take (i := 11) (oi := ({ dst := some 101, op := Go.Op.pick (Go.Operand.tmp 93) (Go.Operand.tmp 100) (Go.Operand.const (Go.Value.bool false)), type := 4, pos := _, after := #[{ on := 3, ground := Go.Ground.data }, { on := 10, ground := Go.Ground.data }], guard := none } : Oper)) (v := ?_) rfl (by kernel_rfl) (by kernel_rfl) (by kernel_rfl) (fun _ _ _ h => h) (Or.inl ⟨by rfl, ?_⟩) (by assumption) ?_
            rotate_left
            · (intro w hSw; (try dsimp only at hSw); go_simp; try with_reducible rfl)
            simp only [Act.put, List.setIfInBounds_toArray, List.set_cons_zero, List.set_cons_succ]
            refine wpAnyH_done (by kernel_rfl) ?_ _
            all_goals (
              have hLu := hL.below (And.left ‹Below wr.heap.size wr U1 ∧ _›)
              go_wp2_with fail
              refine (f_any 4 0 _).mono ?_
              rintro x w6 ⟨rfl, hb6⟩
              have hL6 := hLu.below hb6
              obtain ⟨n0, n1, fn0, fn1⟩ := hL6.bw.two
              have hL7 := hL6.put hwb2 hwb 4 0
              have hL8 := hL7.below (balloc _ (.cells #[.slice none 0 0] 22))
              obtain ⟨u0, u1, _, _⟩ := hL8.bw.two
              go_wp2_with fail
              refine (homBegun_any _ (hT.below hL8.bel)).mono ?_
              rintro x w8 ⟨rfl, hb8⟩
              have hL9 := hL8.below hb8
              obtain ⟨u0, u1, _, _⟩ := hL9.bw.two
              obtain ⟨g0, g1, _, _⟩ := hL9.bf.two
              go_wp2_with fail
              refine (las_bad 27 _ (4) (0) _ (by first | exact hc9 | decide)).mono ?_
              rintro x w9 ⟨rfl, hb9⟩
              have hB9 := bcat2 hL9.bel hb9
              go_wp2
              go_ret
              exact ⟨rfl, hB9⟩)
          · rcases hrest with ⟨hLN, HSR, rfl, rfl⟩ | ⟨hLN, h60, HSR, rfl, rfl⟩
            · have hc9 : (6 : Int) ≠ 0 := by decide
              have hnl := hr1 hc9
              obtain ⟨rfl, rfl, rfl⟩ : r1 = none ∧ r2 = 0 ∧ r3 = 0 := by
                injection hnl with h1 h2 h3
                exact ⟨h1, h2, h3⟩
              clear hnl hr1 hr2
              go_wp2_with fail
              clear u0 u1 fu0 fu1 p0 p1
              refine wp_region_held_drew (S := (fun W9 => Below wr.heap.size wr W9 ∧ W9.cell? ⟨w4.heap.size, 0, none⟩ = some (.int .i64 0) ∧ W9.cell? ⟨w.heap.size, 0, none⟩ = some (.int .i64 N) ∧ W9.cell? ⟨w.heap.size, 1, none⟩ = some (.slice v1 v2 v3))) (by kernel_rfl) hS90 (fun hHeld => ?_)
              refine wpAnyH_take (i := 0) (oi := ({ dst := some 90, op := Go.Op.fieldAddr 27 (Go.Operand.tmp 11) 0, type := 0, pos := _, after := #[], guard := none } : Oper)) (v := ?_) rfl (by kernel_rfl) (by kernel_rfl) (by kernel_rfl) (fun _ _ _ h => h) (Or.inl ⟨by rfl, ?_⟩) (by assumption) ?_
              rotate_left
              · (intro w hSw; (try dsimp only at hSw); go_simp; try with_reducible rfl)
              simp only [Act.put, List.setIfInBounds_toArray, List.set_cons_zero, List.set_cons_succ]
              refine wpAnyH_take (i := 1) (oi := ({ dst := some 91, op := Go.Op.load 3 (Go.Operand.tmp 90), type := 3, pos := _, after := #[{ on := 0, ground := Go.Ground.data }], guard := none } : Oper)) (v := ?_) rfl (by kernel_rfl) (by kernel_rfl) (by kernel_rfl) (fun _ _ _ h => h) (Or.inl ⟨by rfl, ?_⟩) (by assumption) ?_
              rotate_left
              · (intro w hSw; (try dsimp only at hSw); go_simp; try with_reducible rfl)
              simp only [Act.put, List.setIfInBounds_toArray, List.set_cons_zero, List.set_cons_succ]
              refine wpAnyH_take (i := 2) (oi := ({ dst := some 92, op := Go.Op.binOp Go.BinOp.eql 3 (Go.Operand.tmp 91) (Go.Operand.const (Go.Value.int Go.IntKind.i64 0)) 3, type := 4, pos := _, after := #[{ on := 1, ground := Go.Ground.data }], guard := none } : Oper)) (v := ?_) rfl (by kernel_rfl) (by kernel_rfl) (by kernel_rfl) (fun _ _ _ h => h) (Or.inl ⟨by rfl, ?_⟩) (by assumption) ?_
              rotate_left
              · (intro w hSw; (try dsimp only at hSw); go_simp; try with_reducible rfl)
              simp only [Act.put, List.setIfInBounds_toArray, List.set_cons_zero, List.set_cons_succ]
              refine wpAnyH_take (i := 3) (oi := ({ dst := some 93, op := Go.Op.move (Go.Operand.tmp 92), type := 4, pos := _, after := #[{ on := 2, ground := Go.Ground.data }], guard := none } : Oper)) (v := ?_) rfl (by kernel_rfl) (by kernel_rfl) (by kernel_rfl) (fun _ _ _ h => h) (Or.inl ⟨by rfl, ?_⟩) (by assumption) ?_
              rotate_left
              · (intro w hSw; (try dsimp only at hSw); go_simp; try with_reducible rfl)
              simp only [Act.put, List.setIfInBounds_toArray, List.set_cons_zero, List.set_cons_succ]
              refine wpAnyH_take (i := 4) (oi := ({ dst := some 94, op := Go.Op.load 24 (Go.Operand.tmp 4), type := 24, pos := _, after := #[{ on := 3, ground := Go.Ground.guard }], guard := some (3, true) } : Oper)) (v := ?_) rfl (by kernel_rfl) (by kernel_rfl) (by kernel_rfl) (fun _ _ _ h => h) (Or.inl ⟨by rfl, ?_⟩) (by assumption) ?_
              rotate_left
              · (intro w hSw; (try dsimp only at hSw); go_simp; try with_reducible rfl)
              simp only [Act.put, List.setIfInBounds_toArray, List.set_cons_zero, List.set_cons_succ]
              refine wpAnyH_take (i := 5) (oi := ({ dst := some 95, op := Go.Op.move (Go.Operand.tmp 2), type := 22, pos := _, after := #[{ on := 3, ground := Go.Ground.guard }], guard := some (3, true) } : Oper)) (v := ?_) rfl (by kernel_rfl) (by kernel_rfl) (by kernel_rfl) (fun _ _ _ h => h) (Or.inl ⟨by rfl, ?_⟩) (by assumption) ?_
              rotate_left
              · (intro w hSw; (try dsimp only at hSw); go_simp; try with_reducible rfl)
              simp only [Act.put, List.setIfInBounds_toArray, List.set_cons_zero, List.set_cons_succ]
              refine wpAnyH_take (i := 8) (oi := ({ dst := some 98, op := Go.Op.fieldAddr 24 (Go.Operand.tmp 4) 0, type := 0, pos := _, after := #[{ on := 3, ground := Go.Ground.guard }], guard := some (3, true) } : Oper)) (v := ?_) rfl (by kernel_rfl) (by kernel_rfl) (by kernel_rfl) (fun _ _ _ h => h) (Or.inl ⟨by rfl, ?_⟩) (by assumption) ?_
              rotate_left
              · (intro w hSw; (try dsimp only at hSw); go_simp; try with_reducible rfl)
              simp only [Act.put, List.setIfInBounds_toArray, List.set_cons_zero, List.set_cons_succ]
              refine wpAnyH_take (i := 9) (oi := ({ dst := some 99, op := Go.Op.load 3 (Go.Operand.tmp 98), type := 3, pos := _, after := #[{ on := 8, ground := Go.Ground.data }, { on := 3, ground := Go.Ground.guard }], guard := some (3, true) } : Oper)) (v := ?_) rfl (by kernel_rfl) (by kernel_rfl) (by kernel_rfl) (fun _ _ _ h => h) (Or.inl ⟨by rfl, ?_⟩) (by assumption) ?_
              rotate_left
              · (intro w hSw; (try dsimp only at hSw); go_simp; try with_reducible rfl)
              simp only [Act.put, List.setIfInBounds_toArray, List.set_cons_zero, List.set_cons_succ]
              refine wpAnyH_ready (rs := [6]) (by kernel_rfl) (by simp) (AllReadyH.cons (o := ({ dst := some 96, op := Go.Op.call { callee := Go.Callee.value (Go.Operand.func 20), args := #[Go.Operand.tmp 94, Go.Operand.tmp 95], argTypes := #[24, 22] }, type := 22, pos := _, after := #[{ on := 4, ground := Go.Ground.data }, { on := 5, ground := Go.Ground.data }, { on := 3, ground := Go.Ground.chain }, { on := 3, ground := Go.Ground.guard }], guard := some (3, true) } : Oper)) rfl (fun KK hK => ?_) AllReadyH.nil)
              go_simp
              refine (HSP.out _ (bcat2 hL.bel (And.left hHeld))).mono ?_
              rintro e1 U1 ⟨s1, s3, rfl, hl1⟩
              try go_wp2_with fail
              refine hK.out _ _ (hS9 _ (bcat2 (And.left hHeld) hl1)) (fun hHeld => ?_)
              clear hK
              try simp only [Act.put, List.setIfInBounds_toArray, List.set_cons_zero, List.set_cons_succ]
              refine wpAnyH_take (i := 7) (oi := ({ dst := some 97, op := Go.Op.call { callee := Go.Callee.builtin Go.Builtin.len, args := #[Go.Operand.tmp 96], argTypes := #[22] }, type := 3, pos := _, after := #[{ on := 6, ground := Go.Ground.data }, { on := 3, ground := Go.Ground.guard }], guard := some (3, true) } : Oper)) (v := ?_) rfl (by kernel_rfl) (by kernel_rfl) (by kernel_rfl) (fun _ _ _ h => h) (Or.inl ⟨by rfl, ?_⟩) (by assumption) ?_
              rotate_left
              · (intro w hSw; (try dsimp only at hSw); go_simp; try with_reducible rfl)
              simp only [Act.put, List.setIfInBounds_toArray, List.set_cons_zero, List.set_cons_succ]
              refine wpAnyH_take (i := 10) (oi := ({ dst := some 100, op := Go.Op.binOp Go.BinOp.lss 3 (Go.Operand.tmp 97) (Go.Operand.tmp 99) 3, type := 4, pos := _, after := #[{ on := 7, ground := Go.Ground.data }, { on := 9, ground := Go.Ground.data }, { on := 3, ground := Go.Ground.guard }], guard := some (3, true) } : Oper)) (v := ?_) rfl (by kernel_rfl) (by kernel_rfl) (by kernel_rfl) (fun _ _ _ h => h) (Or.inl ⟨by rfl, ?_⟩) (by assumption) ?_
              rotate_left
              · (intro w hSw; (try dsimp only at hSw); go_simp; try with_reducible rfl)
              simp only [Act.put, List.setIfInBounds_toArray, List.set_cons_zero, List.set_cons_succ]
              refine wpAnyH_take (i := 11) (oi := ({ dst := some 101, op := Go.Op.pick (Go.Operand.tmp 93) (Go.Operand.tmp 100) (Go.Operand.const (Go.Value.bool false)), type := 4, pos := _, after := #[{ on := 3, ground := Go.Ground.data }, { on := 10, ground := Go.Ground.data }], guard := none } : Oper)) (v := ?_) rfl (by kernel_rfl) (by kernel_rfl) (by kernel_rfl) (fun _ _ _ h => h) (Or.inl ⟨by rfl, ?_⟩) (by assumption) ?_
              rotate_left
              · (intro w hSw; (try dsimp only at hSw); go_simp; try with_reducible rfl)
              simp only [Act.put, List.setIfInBounds_toArray, List.set_cons_zero, List.set_cons_succ]
              refine wpAnyH_done (by kernel_rfl) ?_ _
              all_goals (
                have hLu := hL.below (bcat2 (And.left ‹Below wr.heap.size wr U1 ∧ _›) (balloc U1 (.cells #[.slice none 0 0] 22)))
                have hW13 : Boxed (U1.alloc (.cells #[.slice none 0 0] 22)) U1.heap.size 22 (.slice none 0 0) := Boxed.new _ _ _
                obtain ⟨u0, u1, _, _⟩ := hLu.bw.two
                obtain ⟨p0, p1, _, _⟩ := hLu.bx.two
                obtain ⟨q0, q1, _, _⟩ := hLu.bY.two
                go_wp2_with fail
                generalize U1.alloc (.cells #[.slice none 0 0] 22) = wu at *
                clear u0 u1 p0 p1 q0 q1
                refine (HSR.out _ hLu.bel).mono ?_
                rintro x w6 ⟨rfl, hb6⟩
                have hL6 := hLu.below hb6
                have hW6 := Boxed.below hW13 hb6
                have x0 := hW6.cell
                have x1 := hW6.frozen
                have x2 := set_same _ _ _ _ x0
                have hn1 := nilq1 w6
                obtain ⟨u0, u1, fu0, fu1⟩ := hL6.bw.two
                go_wp2_with fail
                refine (f_any 6 0 _).mono ?_
                rintro x w7 ⟨rfl, hb7⟩
                have hL7 := hL6.below hb7
                obtain ⟨n0, n1, fn0, fn1⟩ := hL7.bw.two
                have hL8 := hL7.put hwb2 hwb 6 0
                go_wp2_with fail
                refine (homBegun_any _ (hT.below hL8.bel)).mono ?_
                rintro x w8 ⟨rfl, hb8⟩
                have hL9 := hL8.below hb8
                obtain ⟨u0, u1, _, _⟩ := hL9.bw.two
                obtain ⟨g0, g1, _, _⟩ := hL9.bf.two
                go_wp2_with fail
                refine (las_bad 27 _ (6) (0) _ (by first | exact hc9 | decide)).mono ?_
                rintro x w9 ⟨rfl, hb9⟩
                have hB9 := bcat2 hL9.bel hb9
                go_wp2
                go_ret
                exact ⟨rfl, hB9⟩)
            · obtain ⟨gr, hge, hG⟩ := hr2 rfl
              obtain ⟨rfl, rfl, rfl⟩ : r1 = some ⟨gr, 0, none⟩ ∧ r2 = ls.length ∧ r3 = ls.length := by
                injection hge with h1 h2 h3
                exact ⟨h1, h2, h3⟩
              have hGj := blk_below (blk_below hG hb5) hbj
              clear hge hr1 hr2
              go_wp2_with fail
              clear u0 u1 fu0 fu1 p0 p1
              refine wp_region_held_drew (S := (fun W9 => Below wr.heap.size wr W9 ∧ W9.cell? ⟨w4.heap.size, 0, none⟩ = some (.int .i64 0) ∧ W9.cell? ⟨w.heap.size, 0, none⟩ = some (.int .i64 N) ∧ W9.cell? ⟨w.heap.size, 1, none⟩ = some (.slice v1 v2 v3))) (by kernel_rfl) hS90 (fun hHeld => ?_)
              refine wpAnyH_take (i := 0) (oi := ({ dst := some 90, op := Go.Op.fieldAddr 27 (Go.Operand.tmp 11) 0, type := 0, pos := _, after := #[], guard := none } : Oper)) (v := ?_) rfl (by kernel_rfl) (by kernel_rfl) (by kernel_rfl) (fun _ _ _ h => h) (Or.inl ⟨by rfl, ?_⟩) (by assumption) ?_
              rotate_left
              · (intro w hSw; (try dsimp only at hSw); go_simp; try with_reducible rfl)
              simp only [Act.put, List.setIfInBounds_toArray, List.set_cons_zero, List.set_cons_succ]
              refine wpAnyH_take (i := 1) (oi := ({ dst := some 91, op := Go.Op.load 3 (Go.Operand.tmp 90), type := 3, pos := _, after := #[{ on := 0, ground := Go.Ground.data }], guard := none } : Oper)) (v := ?_) rfl (by kernel_rfl) (by kernel_rfl) (by kernel_rfl) (fun _ _ _ h => h) (Or.inl ⟨by rfl, ?_⟩) (by assumption) ?_
              rotate_left
              · (intro w hSw; (try dsimp only at hSw); go_simp; try with_reducible rfl)
              simp only [Act.put, List.setIfInBounds_toArray, List.set_cons_zero, List.set_cons_succ]
              refine wpAnyH_take (i := 2) (oi := ({ dst := some 92, op := Go.Op.binOp Go.BinOp.eql 3 (Go.Operand.tmp 91) (Go.Operand.const (Go.Value.int Go.IntKind.i64 0)) 3, type := 4, pos := _, after := #[{ on := 1, ground := Go.Ground.data }], guard := none } : Oper)) (v := ?_) rfl (by kernel_rfl) (by kernel_rfl) (by kernel_rfl) (fun _ _ _ h => h) (Or.inl ⟨by rfl, ?_⟩) (by assumption) ?_
              rotate_left
              · (intro w hSw; (try dsimp only at hSw); go_simp; try with_reducible rfl)
              simp only [Act.put, List.setIfInBounds_toArray, List.set_cons_zero, List.set_cons_succ]
              refine wpAnyH_take (i := 3) (oi := ({ dst := some 93, op := Go.Op.move (Go.Operand.tmp 92), type := 4, pos := _, after := #[{ on := 2, ground := Go.Ground.data }], guard := none } : Oper)) (v := ?_) rfl (by kernel_rfl) (by kernel_rfl) (by kernel_rfl) (fun _ _ _ h => h) (Or.inl ⟨by rfl, ?_⟩) (by assumption) ?_
              rotate_left
              · (intro w hSw; (try dsimp only at hSw); go_simp; try with_reducible rfl)
              simp only [Act.put, List.setIfInBounds_toArray, List.set_cons_zero, List.set_cons_succ]
              refine wpAnyH_take (i := 4) (oi := ({ dst := some 94, op := Go.Op.load 24 (Go.Operand.tmp 4), type := 24, pos := _, after := #[{ on := 3, ground := Go.Ground.guard }], guard := some (3, true) } : Oper)) (v := ?_) rfl (by kernel_rfl) (by kernel_rfl) (by kernel_rfl) (fun _ _ _ h => h) (Or.inl ⟨by rfl, ?_⟩) (by assumption) ?_
              rotate_left
              · (intro w hSw; (try dsimp only at hSw); go_simp; try with_reducible rfl)
              simp only [Act.put, List.setIfInBounds_toArray, List.set_cons_zero, List.set_cons_succ]
              refine wpAnyH_take (i := 5) (oi := ({ dst := some 95, op := Go.Op.move (Go.Operand.tmp 2), type := 22, pos := _, after := #[{ on := 3, ground := Go.Ground.guard }], guard := some (3, true) } : Oper)) (v := ?_) rfl (by kernel_rfl) (by kernel_rfl) (by kernel_rfl) (fun _ _ _ h => h) (Or.inl ⟨by rfl, ?_⟩) (by assumption) ?_
              rotate_left
              · (intro w hSw; (try dsimp only at hSw); go_simp; try with_reducible rfl)
              simp only [Act.put, List.setIfInBounds_toArray, List.set_cons_zero, List.set_cons_succ]
              refine wpAnyH_take (i := 8) (oi := ({ dst := some 98, op := Go.Op.fieldAddr 24 (Go.Operand.tmp 4) 0, type := 0, pos := _, after := #[{ on := 3, ground := Go.Ground.guard }], guard := some (3, true) } : Oper)) (v := ?_) rfl (by kernel_rfl) (by kernel_rfl) (by kernel_rfl) (fun _ _ _ h => h) (Or.inl ⟨by rfl, ?_⟩) (by assumption) ?_
              rotate_left
              · (intro w hSw; (try dsimp only at hSw); go_simp; try with_reducible rfl)
              simp only [Act.put, List.setIfInBounds_toArray, List.set_cons_zero, List.set_cons_succ]
              refine wpAnyH_take (i := 9) (oi := ({ dst := some 99, op := Go.Op.load 3 (Go.Operand.tmp 98), type := 3, pos := _, after := #[{ on := 8, ground := Go.Ground.data }, { on := 3, ground := Go.Ground.guard }], guard := some (3, true) } : Oper)) (v := ?_) rfl (by kernel_rfl) (by kernel_rfl) (by kernel_rfl) (fun _ _ _ h => h) (Or.inl ⟨by rfl, ?_⟩) (by assumption) ?_
              rotate_left
              · (intro w hSw; (try dsimp only at hSw); go_simp; try with_reducible rfl)
              simp only [Act.put, List.setIfInBounds_toArray, List.set_cons_zero, List.set_cons_succ]
              refine wpAnyH_ready (rs := [6]) (by kernel_rfl) (by simp) (AllReadyH.cons (o := ({ dst := some 96, op := Go.Op.call { callee := Go.Callee.value (Go.Operand.func 20), args := #[Go.Operand.tmp 94, Go.Operand.tmp 95], argTypes := #[24, 22] }, type := 22, pos := _, after := #[{ on := 4, ground := Go.Ground.data }, { on := 5, ground := Go.Ground.data }, { on := 3, ground := Go.Ground.chain }, { on := 3, ground := Go.Ground.guard }], guard := some (3, true) } : Oper)) rfl (fun KK hK => ?_) AllReadyH.nil)
              go_simp
              refine (HSP.out _ (bcat2 hL.bel (And.left hHeld))).mono ?_
              rintro e1 U1 ⟨s1, s3, rfl, hl1⟩
              try go_wp2_with fail
              refine hK.out _ _ (hS9 _ (bcat2 (And.left hHeld) hl1)) (fun hHeld => ?_)
              clear hK
              try simp only [Act.put, List.setIfInBounds_toArray, List.set_cons_zero, List.set_cons_succ]
              refine wpAnyH_take (i := 7) (oi := ({ dst := some 97, op := Go.Op.call { callee := Go.Callee.builtin Go.Builtin.len, args := #[Go.Operand.tmp 96], argTypes := #[22] }, type := 3, pos := _, after := #[{ on := 6, ground := Go.Ground.data }, { on := 3, ground := Go.Ground.guard }], guard := some (3, true) } : Oper)) (v := ?_) rfl (by kernel_rfl) (by kernel_rfl) (by kernel_rfl) (fun _ _ _ h => h) (Or.inl ⟨by rfl, ?_⟩) (by assumption) ?_
              rotate_left
              · (intro w hSw; (try dsimp only at hSw); go_simp; try with_reducible rfl)
              simp only [Act.put, List.setIfInBounds_toArray, List.set_cons_zero, List.set_cons_succ]
              refine wpAnyH_take (i := 10) (oi := ({ dst := some 100, op := Go.Op.binOp Go.BinOp.lss 3 (Go.Operand.tmp 97) (Go.Operand.tmp 99) 3, type := 4, pos := _, after := #[{ on := 7, ground := Go.Ground.data }, { on := 9, ground := Go.Ground.data }, { on := 3, ground := Go.Ground.guard }], guard := some (3, true) } : Oper)) (v := ?_) rfl (by kernel_rfl) (by kernel_rfl) (by kernel_rfl) (fun _ _ _ h => h) (Or.inl ⟨by rfl, ?_⟩) (by assumption) ?_
              rotate_left
              · (intro w hSw; (try dsimp only at hSw); go_simp; try with_reducible rfl)
              simp only [Act.put, List.setIfInBounds_toArray, List.set_cons_zero, List.set_cons_succ]
              refine wpAnyH_take (i := 11) (oi := ({ dst := some 101, op := Go.Op.pick (Go.Operand.tmp 93) (Go.Operand.tmp 100) (Go.Operand.const (Go.Value.bool false)), type := 4, pos := _, after := #[{ on := 3, ground := Go.Ground.data }, { on := 10, ground := Go.Ground.data }], guard := none } : Oper)) (v := ?_) rfl (by kernel_rfl) (by kernel_rfl) (by kernel_rfl) (fun _ _ _ h => h) (Or.inl ⟨by rfl, ?_⟩) (by assumption) ?_
              rotate_left
              · (intro w hSw; (try dsimp only at hSw); go_simp; try with_reducible rfl)
              simp only [Act.put, List.setIfInBounds_toArray, List.set_cons_zero, List.set_cons_succ]
              refine wpAnyH_done (by kernel_rfl) ?_ _
              all_goals (
                have hU1s := (And.left ‹Below wr.heap.size wr U1 ∧ _›).size
                have hq1 := hL.bf.lt
                have hq2 := hL.bw.lt
                have hq3 := hL.bY.lt
                have hq4 := hGj.lt
                have hbu := bcat2 (And.left ‹Below wr.heap.size wr U1 ∧ _›) (balloc U1 (.cells #[.slice none 0 0] 22))
                have hLu := hL.below hbu
                have hGu := blk_below hGj hbu
                have hW13 : Boxed (U1.alloc (.cells #[.slice none 0 0] 22)) U1.heap.size 22 (.slice none 0 0) := Boxed.new _ _ _
                have hU13 : U1.heap.size < (U1.alloc (.cells #[.slice none 0 0] 22)).heap.size := by simp
                obtain ⟨u0, u1, _, _⟩ := hLu.bw.two
                obtain ⟨p0, p1, _, _⟩ := hLu.bx.two
                obtain ⟨q0, q1, _, _⟩ := hLu.bY.two
                have hwu := hLu.bw.lt
                go_wp2_with fail
                generalize U1.alloc (.cells #[.slice none 0 0] 22) = wu at *
                clear u0 u1 p0 p1 q0 q1
                refine (HSR.out _ hLu.bel).mono ?_
                rintro x w6 ⟨gs, rfl, hgs, hGs, hb6⟩
                have hL6 := hLu.below hb6
                have hG6 := blk_below hGu hb6
                have hW6 := Boxed.below hW13 hb6
                have x0 := hW6.cell
                have x1 := hW6.frozen
                have hL7 := hL6.far (b := U1.heap.size) (by omega) (by omega) (by omega) (.slice (some ⟨gs, 0, none⟩) ls.length ls.length)
                have hG7 := hG6.other (p := ⟨U1.heap.size, 0, none⟩) (show gr ≠ U1.heap.size by omega) (.slice (some ⟨gs, 0, none⟩) ls.length ls.length)
                have hS7 := hGs.other (p := ⟨U1.heap.size, 0, none⟩) (show gs ≠ U1.heap.size by omega) (.slice (some ⟨gs, 0, none⟩) ls.length ls.length)
                have hW7 : Boxed (w6.setCell ⟨U1.heap.size, 0, none⟩ (.slice (some ⟨gs, 0, none⟩) ls.length ls.length)) U1.heap.size 22 (.slice (some ⟨gs, 0, none⟩) ls.length ls.length) := Boxed.put9 hW6 _
                obtain ⟨u0, u1, _, _⟩ := hL7.bw.two
                have y0 := hW7.cell
                have hn2 := nilq2 gs ls.length (w6.setCell ⟨U1.heap.size, 0, none⟩ (.slice (some ⟨gs, 0, none⟩) ls.length ls.length))
                go_wp2_with fail
                generalize w6.setCell ⟨U1.heap.size, 0, none⟩ (.slice (some ⟨gs, 0, none⟩) ls.length ls.length) = w7 at *
                clear u0 u1 y0 x0 x1
                refine (homBegun_any _ (hT.below hL7.bel)).mono ?_
                rintro x w8 ⟨rfl, hb8⟩
                have hL9 := hL7.below hb8
                obtain ⟨u0, u1, _, _⟩ := hL9.bw.two
                obtain ⟨g0, g1, _, _⟩ := hL9.bf.two
                have HLA := hide (las_good 27 #[.pointer (some ⟨U1.heap.size, 0, none⟩)] (.slice (some ⟨gr, 0, none⟩) ls.length ls.length) ls ls w8 (Sl.of_blk (blk_below hG7 hb8) rfl (by omega)) (fun W => call27x _ W) (fun W hW => (hx1_ok U1.heap.size _ _ _ W (Boxed.below (Boxed.below hW7 hb8) hW)).mono (fun x w' hx => ⟨_, hx.1, (Sl.of_blk (blk_below (blk_below (blk_below hS7 hb8) hW) hx.2) rfl (by omega)), hx.2⟩)))
                rw [show decide (ls = ls) = true from decide_eq_true rfl] at HLA
                go_wp2_with fail
                refine HLA.out.mono ?_
                rintro x w9 ⟨rfl, hb9⟩
                have hB9 := bcat2 hL9.bel hb9
                go_wp2
                go_ret
                exact ⟨rfl, hB9⟩)

end Go.Proofs.YtmgengplfebmjaaDoor

namespace Go.Proofs.YtmgengplfebmjaaDoor
open Go Go.RowKit

theorem first_bad {p : Nat → Bool} : ∀ n, (¬ ∀ t, t < n → p t = true) → ∃ k, k < n ∧ (∀ t, t < k → p t = true) ∧ p k = false
  | 0, h => absurd (fun t ht => by omega) h
  | n + 1, h => by
    by_cases h' : ∀ t, t < n → p t = true
    · refine ⟨n, by omega, h', ?_⟩
      cases hp : p n with
      | false => rfl
      | true => exact absurd (fun t ht => by by_cases e : t = n
                                             · rw [e]; exact hp
                                             · exact h' t (by omega)) h
    · obtain ⟨k, h1, h2⟩ := first_bad n h'
      exact ⟨k, by omega, h2⟩
section
variable {n e m d : Nat} {zs ys : List Int} {ps : List (Nat × Nat)}
theorem leads_same (g : IsGrp n zs e) (h : IsGrp m ys d) (hp : ∀ p, p ∈ ps → p.1 < n ∧ p.2 < m) (hall : ∀ a, a < n → Mkd n zs e (fun x => decide (x ∈ ps.map Prod.fst)) a) {φ ψ : Nat → Nat} (H : Leads n zs m ys ps φ) (K : Leads n zs m ys ps ψ) : li ((List.range n).map φ) = li ((List.range n).map ψ) := by
  obtain ⟨S, hS, h1⟩ := ext_of_hom g h H.1 (fun q hq => ⟨(hp q hq).1, H.2 q hq⟩)
  obtain ⟨T, hT, h2⟩ := ext_of_hom g h K.1 (fun q hq => ⟨(hp q hq).1, K.2 q hq⟩)
  obtain rfl := Option.some.inj (hS.symm.trans hT)
  unfold li
  rw [List.map_map, List.map_map]
  refine List.map_congr_left fun x hx => ?_
  have hx := (ext_made g h hp hS).2 (hall x (List.mem_range.1 hx))
  exact (h1 x hx).symm.trans (h2 x hx)
end
/-- The places, two by two. -/
def prs (fs ts : List Int) : List (Nat × Nat) := (List.range fs.length).map fun j => ((fs[j]?.getD 0).toNat, (ts[j]?.getD 0).toNat)
theorem prs_spec {n m : Nat} {fs ts : List Int} (hl : fs.length = ts.length) (h : ∀ t, t < fs.length → (rng n fs t && rng m ts t) = true) : fs = li ((prs fs ts).map Prod.fst) ∧ ts = li ((prs fs ts).map Prod.snd) ∧ ∀ p, p ∈ prs fs ts → p.1 < n ∧ p.2 < m := by
  have hb : ∀ t, t < fs.length → (0 ≤ fs[t]?.getD 0 ∧ fs[t]?.getD 0 < (n : Int)) ∧ 0 ≤ ts[t]?.getD 0 ∧ ts[t]?.getD 0 < (m : Int) := fun t ht => by
    have := h t ht
    simpa [rng] using this
  refine ⟨?_, ?_, fun p hp => ?_⟩
  · apply List.ext_getElem
    · simp [li, prs]
    · intro j h1 h2
      have := (hb j h1).1
      rw [List.getElem?_eq_getElem h1, Option.getD_some] at this
      simp [li, prs, List.getElem?_eq_getElem h1]
      omega
  · apply List.ext_getElem
    · simp [li, prs, hl]
    · intro j h1 h2
      have := (hb j (by omega)).2
      rw [List.getElem?_eq_getElem h1, Option.getD_some] at this
      simp [li, prs, List.getElem?_eq_getElem h1]
      omega
  · obtain ⟨j, hj, rfl⟩ := List.mem_map.1 hp
    have := hb j (List.mem_range.1 hj)
    simp only
    omega
theorem hext_law (N M : Int) (v1 : Option Addr) (v2 v3 : Nat) (y1 : Option Addr) (y2 y3 : Nat) (f1 : Option Addr) (f2 f3 : Nat) (t1 : Option Addr) (t2 t3 : Nat) (zs ys fs ts : List Int) (w : World) (hv : Sl w (.slice v1 v2 v3) zs) (hy : Sl w (.slice y1 y2 y3) ys) (hf : Sl w (.slice f1 f2 f3) fs) (ht : Sl w (.slice t1 t2 t3) ts) (hT : Tab w) (hz : zs.length * 8 ≤ 140737488355328) (hz2 : ys.length * 8 ≤ 140737488355328) (hz3 : fs.length * 8 ≤ 140737488355328) (hz4 : ts.length * 8 ≤ 140737488355328) :
    Calls Tryd.prog 4 #[.agg #[.int .i64 N, .slice v1 v2 v3], .agg #[.int .i64 M, .slice y1 y2 y3], .slice f1 f2 f3, .slice t1 t2 t3] w fun e w' => e = .returned (.bool true) ∧ Below w.heap.size w w' := by
  have HTW := fun W (h : Below w.heap.size w W) => rtwo_any N M (.slice v1 v2 v3) (.slice y1 y2 y3) zs ys W (hv.below h) (hy.below h)
  by_cases ha : (twofault N zs M ys).1 = 0
  · have hg0 : (gfault N zs).1 = 0 := by
      by_cases h : (gfault N zs).1 = 0
      · exact h
      · unfold twofault at ha; rw [if_pos h] at ha; exact ha
    obtain ⟨n, e, rfl, hg, _⟩ := gfault_grp hg0
    have ht2 : twofault n zs M ys = gfault M ys := by unfold twofault; rw [if_neg (by simpa using hg0)]
    rw [ht2] at ha HTW
    obtain ⟨m, d, rfl, hh, _⟩ := gfault_grp ha
    rw [gfault_of_grp hh] at HTW
    by_cases hsz : ¬ fs.length = ts.length ∨ (n : Int) < (fs.length : Int)
    · refine hext_walk n m v1 v2 v3 y1 y2 y3 f1 f2 f3 t1 t2 t3 zs ys fs ts [] 8 0 0 0 w hv hy hf ht hT hz hz2 hz3 hz4 (fun W x y f t hW sx sy sf st => ?_) HTW (.inr (.inl ⟨rfl, rfl, hsz, rfl, rfl⟩))
      have := hex_place n e m d x y f t zs ys fs ts W sx hg sy hh sf st (by rw [xplace_8 hsz]; decide)
      rw [xplace_8 hsz] at this
      exact this.mono fun x w' hx => ⟨none, 0, 0, hx.1, fun _ => rfl, fun h => absurd h (by decide), hx.2⟩
    · have hl : fs.length = ts.length := by omega
      by_cases hr : ∀ t, t < fs.length → (rng n fs t && rng m ts t) = true
      · obtain ⟨hfs, hts, hp⟩ := prs_spec (n := n) (m := m) hl hr
        have hpl : (prs fs ts).length ≤ n := by simp [prs]; omega
        have hx0 := xplace_0 (m := (m : Int)) hsz hr
        have HG := fun W x y f t (sx : Sl W x zs) (sy : Sl W y ys) (sf : Sl W f fs) (st : Sl W t ts) (hTW : Tab W) => hex_good n e m d x y f t zs ys fs ts (prs fs ts) W sx hg sy hh sf st hTW hx0 hfs hts hp hpl
        generalize prs fs ts = ps at *
        obtain ⟨p, hpm⟩ := mkd_ex n zs e (fun x => decide (x ∈ ps.map Prod.fst))
        have hxs : ∀ x, x ∈ ps.map Prod.fst → x < n := fun x hx => by
          obtain ⟨q, hq, rfl⟩ := List.mem_map.1 hx
          exact (hp q hq).1
        have hn := hg.tab.le
        have HSP : ∀ W, Below w.heap.size w W → Calls Tryd.prog 20 #[.agg #[.int .i64 n, .slice v1 v2 v3], .slice f1 f2 f3] W fun x W' => ∃ r1 r3, x = .returned (.slice r1 (lst n p).length r3) ∧ Below W.heap.size W W' := fun W hW =>
          (span_ok n e (.slice v1 v2 v3) (.slice f1 f2 f3) zs (ps.map Prod.fst) p W (hv.below hW) hg (by rw [← hfs]; exact hf.below hW) hxs (by rw [List.length_map]; omega) hpm).mono (fun x W' hx => by
            obtain ⟨r, rfl, hr9, hb9⟩ := hx
            obtain ⟨r1, r3, rfl⟩ := own_slice hr9
            exact ⟨r1, r3, by rw [li_len], hb9⟩)
        by_cases hall : ∀ a, a < n → Mkd n zs e (fun x => decide (x ∈ ps.map Prod.fst)) a
        · have hL : ¬ (((lst n p).length : Nat) : Int) < (n : Int) := by
            have : lst n p = List.range n := by
              unfold lst
              exact List.filter_eq_self.2 fun a ha => (hpm a (List.mem_range.1 ha)).2 (hall a (List.mem_range.1 ha))
            rw [this, List.length_range]; omega
          have HSR := fun W (hW : Below w.heap.size w W) => spread_ok n e m d (.slice v1 v2 v3) (.slice y1 y2 y3) (.slice f1 f2 f3) (.slice t1 t2 t3) zs ys ps W hg hh (hv.below hW) (hy.below hW) (by rw [← hfs]; exact hf.below hW) (by rw [← hts]; exact ht.below hW) hp hall
          by_cases hφ : ∃ φ, Leads n zs m ys ps φ
          · obtain ⟨φ, hφ⟩ := hφ
            refine hext_walk n m v1 v2 v3 y1 y2 y3 f1 f2 f3 t1 t2 t3 zs ys fs ts (li ((List.range n).map φ)) 0 0 0 0 w hv hy hf ht hT hz hz2 hz3 hz4 (fun W x y f t hW sx sy sf st => ?_) HTW (.inr (.inr (.inr ⟨rfl, rfl, hsz, hr, _, HSP, .inr (.inr ⟨hL, by rw [li_len, List.length_map, List.length_range]; exact hn, fun W hW => ?_, rfl, rfl⟩)⟩)))
            · refine (HG W x y f t sx sy sf st (hT.below hW)).mono fun x w' hx => ?_
              rcases hx.1 with ⟨_, h⟩ | ⟨_, _, h⟩ | ⟨ψ, g, rfl, _, hψ, hgB, hG⟩
              · exact absurd hall h
              · exact absurd hφ (h φ)
              · rw [leads_same hg hh hp hall hψ hφ] at hG
                exact ⟨_, _, _, rfl, fun h => absurd rfl h, fun _ => ⟨g, by rw [li_len, List.length_map, List.length_range], hgB, hG⟩, hx.2⟩
            · refine (HSR W hW).mono fun x w' hx => ?_
              rcases hx.2 with ⟨_, h⟩ | ⟨ψ, g, hψ, rfl, hgB, hG⟩
              · exact absurd hφ (h φ)
              · rw [leads_same hg hh hp hall hψ hφ] at hG
                exact ⟨g, by rw [li_len, List.length_map, List.length_range], hgB, hG, hx.1⟩
          · refine hext_walk n m v1 v2 v3 y1 y2 y3 f1 f2 f3 t1 t2 t3 zs ys fs ts [] 6 0 0 0 w hv hy hf ht hT hz hz2 hz3 hz4 (fun W x y f t hW sx sy sf st => ?_) HTW (.inr (.inr (.inr ⟨rfl, rfl, hsz, hr, _, HSP, .inr (.inl ⟨hL, fun W hW => ?_, rfl, rfl⟩)⟩)))
            · refine (HG W x y f t sx sy sf st (hT.below hW)).mono fun x w' hx => ?_
              rcases hx.1 with ⟨_, h⟩ | ⟨rfl, _, h⟩ | ⟨ψ, g, _, _, hψ, _⟩
              · exact absurd hall h
              · exact ⟨none, 0, 0, rfl, fun _ => rfl, fun h => absurd h (by decide), hx.2⟩
              · exact absurd ⟨ψ, hψ⟩ hφ
            · refine (HSR W hW).mono fun x w' hx => ?_
              rcases hx.2 with ⟨h, _⟩ | ⟨ψ, g, hψ, _⟩
              · exact ⟨h, hx.1⟩
              · exact absurd ⟨ψ, hψ⟩ hφ
        · have hL : (((lst n p).length : Nat) : Int) < (n : Int) := by
            have h1 : (lst n p).length ≤ n := by
              have := List.length_filter_le p (List.range n)
              rw [List.length_range] at this
              exact this
            have h2 : (lst n p).length ≠ n := fun h9 => hall fun a ha => (hpm a ha).1 (by
              have h8 : ((List.range n).filter p).length = (List.range n).length := by rw [List.length_range]; exact h9
              exact List.length_filter_eq_length_iff.1 h8 a (List.mem_range.2 ha))
            omega
          refine hext_walk n m v1 v2 v3 y1 y2 y3 f1 f2 f3 t1 t2 t3 zs ys fs ts [] 4 0 0 0 w hv hy hf ht hT hz hz2 hz3 hz4 (fun W x y f t hW sx sy sf st => ?_) HTW (.inr (.inr (.inr ⟨rfl, rfl, hsz, hr, _, HSP, .inl ⟨hL, rfl, rfl⟩⟩)))
          refine (HG W x y f t sx sy sf st (hT.below hW)).mono fun x w' hx => ?_
          rcases hx.1 with ⟨rfl, h⟩ | ⟨_, h, _⟩ | ⟨ψ, g, _, h, _⟩
          · exact ⟨none, 0, 0, rfl, fun _ => rfl, fun h => absurd h (by decide), hx.2⟩
          · exact absurd h hall
          · exact absurd h hall
      · obtain ⟨k, hk, hlo, hbad⟩ := first_bad _ hr
        refine hext_walk n m v1 v2 v3 y1 y2 y3 f1 f2 f3 t1 t2 t3 zs ys fs ts [] 3 k 0 0 w hv hy hf ht hT hz hz2 hz3 hz4 (fun W x y f t hW sx sy sf st => ?_) HTW (.inr (.inr (.inl ⟨rfl, rfl, hsz, k, hk, hlo, hbad, rfl, rfl⟩)))
        have hx3 := xplace_3 (m := (m : Int)) hsz hk hlo hbad
        have := hex_place n e m d x y f t zs ys fs ts W sx hg sy hh sf st (by rw [hx3]; exact (by decide : (3 : Int) ≠ 0))
        rw [hx3] at this
        exact this.mono fun x w' hx => ⟨none, 0, 0, hx.1, fun _ => rfl, fun h => absurd h (by decide), hx.2⟩
  · refine hext_walk N M v1 v2 v3 y1 y2 y3 f1 f2 f3 t1 t2 t3 zs ys fs ts [] _ _ _ _ w hv hy hf ht hT hz hz2 hz3 hz4 (fun W x y f t hW sx sy sf st => ?_) HTW (.inl ⟨ha, rfl, rfl⟩)
    exact (hex_bad N M x y f t zs ys W sx sy ha).mono fun x w' hx => ⟨none, 0, 0, hx.1, fun _ => rfl, fun h => absurd h ha, hx.2⟩
theorem hext_row (N M : Int) (v y f t : Value) (zs ys fs ts : List Int) (w : World) (hv : Sl w v zs) (hy : Sl w y ys) (hf : Sl w f fs) (ht : Sl w t ts) (hT : Tab w) (hz : zs.length * 8 ≤ 140737488355328) (hz2 : ys.length * 8 ≤ 140737488355328) (hz3 : fs.length * 8 ≤ 140737488355328) (hz4 : ts.length * 8 ≤ 140737488355328) :
    Calls Tryd.prog 4 #[.agg #[.int .i64 N, v], .agg #[.int .i64 M, y], f, t] w fun e w' => e = .returned (.bool true) ∧ Below w.heap.size w w' := by
  obtain ⟨v1, v2, v3, rfl⟩ := hv.isSlice
  obtain ⟨y1, y2, y3, rfl⟩ := hy.isSlice
  obtain ⟨f1, f2, f3, rfl⟩ := hf.isSlice
  obtain ⟨t1, t2, t3, rfl⟩ := ht.isSlice
  exact hext_law N M v1 v2 v3 y1 y2 y3 f1 f2 f3 t1 t2 t3 zs ys fs ts w hv hy hf ht hT hz hz2 hz3 hz4
end Go.Proofs.YtmgengplfebmjaaDoor
