/- What makers and images are extended to, as mathematics: where the search ends well it is a homomorphism of what the makers make; and it does where there is a homomorphism. What package hom's all yields, as mathematics: each homomorphism that fits, once. Lists without a thing twice; homomorphisms keep powers and orders; lists that are one to one. Isomorphisms as mathematics: orders are kept, so both groups have the same orders as often; what hom's single yields between two groups of the same size are all isomorphisms. The isomorphism theorems as mathematics: two homomorphisms of one group onto two others that lead the same things to the one have isomorphic images. -/
import Derived.Test.YtlhjeenijcokoaaGreatDoorZ6
import Derived.Test.YtlhjeenijcokoaaGreatDoorZ4
namespace Go.Proofs.YtlhjeenijcokoaaGreatDoor
open Go Go.RowKit

section
variable {n e m d : Nat} {zs ys : List Int} {S S' : List Int × List Nat} {ps : List (Nat × Nat)} {φ : Nat → Nat}
/-- What stands stays. -/
structure Grow (S S' : List Int × List Nat) : Prop where
  pre : S.2 <+: S'.2
  val : ∀ x, x ∈ S.2 → S'.1[x]?.getD 0 = S.1[x]?.getD 0
theorem Grow.refl (S : List Int × List Nat) : Grow S S := ⟨List.prefix_rfl, fun _ _ => rfl⟩
theorem Grow.mem (h : Grow S S') {x : Nat} (hx : x ∈ S.2) : x ∈ S'.2 := h.pre.subset hx
theorem Grow.trans {T : List Int × List Nat} (h : Grow S S') (k : Grow S' T) : Grow S T := ⟨h.pre.trans k.pre, fun x hx => (k.val x (h.mem hx)).trans (h.val x hx)⟩
theorem pre_get {l k : List Nat} (h : l <+: k) {j a : Nat} (hj : l[j]? = some a) : k[j]? = some a := by
  obtain ⟨t, ht⟩ := h
  rw [← ht, List.getElem?_append_left (List.getElem?_eq_some_iff.1 hj).1]
  exact hj
/-- A product with a maker is found, and stands for the product. -/
def OkP (n : Nat) (zs : List Int) (m : Nat) (ys : List Int) (S : List Int × List Nat) (a : Nat) (p : Nat × Nat) : Prop := tm n zs a p.1 ∈ S.2 ∧ S.1[tm n zs a p.1]?.getD 0 = (tm m ys (S.1[a]?.getD 0).toNat p.2 : Int)
theorem OkP.grow {a : Nat} {p : Nat × Nat} (h : OkP n zs m ys S a p) (hg : Grow S S') (ha : a ∈ S.2) : OkP n zs m ys S' a p :=
  ⟨hg.mem h.1, by rw [hg.val _ h.1, h.2, hg.val _ ha]⟩
/-- Words of makers. -/
inductive Wd (n : Nat) (zs : List Int) (e : Nat) (ps : List (Nat × Nat)) : Nat → Prop
  | one : Wd n zs e ps e
  | mul {x : Nat} {p : Nat × Nat} : Wd n zs e ps x → p ∈ ps → Wd n zs e ps (tm n zs x p.1)
theorem exS_grow (h : XI n m S) (ht : IsTab n zs) {a : Nat} {p : Nat × Nat} (ha : a ∈ S.2) (h1 : p.1 < n) (hs : exS n zs m ys a S p = some S') : Grow S S' ∧ OkP n zs m ys S' a p ∧ ∀ x, x ∈ S'.2 → x ∈ S.2 ∨ x = tm n zs a p.1 := by
  have hc := tm_lt ht (h.lt a ha) h1
  unfold exS at hs
  split at hs
  · rename_i hm
    obtain rfl := Option.some.inj hs
    have hnc : tm n zs a p.1 ∉ S.2 := fun hin => by have := h.ok _ hin; omega
    have hv : ∀ x, x ∈ S.2 → ((S.1.set (tm n zs a p.1) (tm m ys (S.1[a]?.getD 0).toNat p.2 : Int)))[x]?.getD 0 = S.1[x]?.getD 0 := fun x hx => by
      rw [get_set (by rw [h.len]; exact hc), if_neg (fun he : x = tm n zs a p.1 => hnc (he ▸ hx))]
    refine ⟨⟨List.prefix_append _ _, hv⟩, ⟨by simp, ?_⟩, fun x hx => ?_⟩
    · show (S.1.set _ _)[tm n zs a p.1]?.getD 0 = (tm m ys ((S.1.set (tm n zs a p.1) (tm m ys (S.1[a]?.getD 0).toNat p.2 : Int))[a]?.getD 0).toNat p.2 : Int)
      rw [hv a ha, get_set (by rw [h.len]; exact hc), if_pos rfl]
    · rcases List.mem_append.1 hx with hx | hx
      · exact .inl hx
      · exact .inr (by simpa using hx)
  · rename_i hm
    split at hs
    · rename_i hv
      obtain rfl := Option.some.inj hs
      refine ⟨Grow.refl _, ⟨?_, hv⟩, fun x hx => .inl hx⟩
      by_cases hin : tm n zs a p.1 ∈ S.2
      · exact hin
      · exact absurd (h.no _ hc hin) hm
    · cases hs
theorem exI_grow (ht : IsTab n zs) (hu : IsTab m ys) {a : Nat} : ∀ (ps : List (Nat × Nat)) {S S' : List Int × List Nat}, XI n m S → a ∈ S.2 → (∀ p, p ∈ ps → p.1 < n ∧ p.2 < m) → exI n zs m ys a ps S = some S' → XI n m S' ∧ Grow S S' ∧ (∀ p, p ∈ ps → OkP n zs m ys S' a p) ∧ ∀ x, x ∈ S'.2 → x ∈ S.2 ∨ ∃ p, p ∈ ps ∧ x = tm n zs a p.1
  | [], S, S', h, ha, hp, hs => by
    obtain rfl := Option.some.inj hs
    exact ⟨h, Grow.refl _, fun p hp => by simp at hp, fun x hx => .inl hx⟩
  | p :: ps, S, S', h, ha, hp, hs => by
    obtain ⟨h1, h2⟩ := hp p (by simp)
    cases he : exS n zs m ys a S p with
    | none => simp only [exI, he] at hs; cases hs
    | some T =>
      simp only [exI, he] at hs
      obtain ⟨g1, o1, m1⟩ := exS_grow h ht ha h1 he
      have hT := (h.step hu ht ha h1 h2 he).1
      obtain ⟨r1, r2, r3, r4⟩ := exI_grow ht hu ps hT (g1.mem ha) (fun q hq => hp q (by simp [hq])) hs
      refine ⟨r1, g1.trans r2, fun q hq => ?_, fun x hx => ?_⟩
      · rcases List.mem_cons.1 hq with rfl | hq
        · exact o1.grow r2 (g1.mem ha)
        · exact r3 q hq
      · rcases r4 x hx with hx | ⟨q, hq, he⟩
        · rcases m1 x hx with hx | hx
          · exact .inl hx
          · exact .inr ⟨p, by simp, hx⟩
        · exact .inr ⟨q, by simp [hq], he⟩
theorem exO_grow (ht : IsTab n zs) (hu : IsTab m ys) (hp : ∀ p, p ∈ ps → p.1 < n ∧ p.2 < m) : ∀ (f k : Nat) {S S' : List Int × List Nat}, XI n m S → n ≤ f + k → (∀ j a, j < k → S.2[j]? = some a → ∀ p, p ∈ ps → OkP n zs m ys S a p) → (∀ x, x ∈ S.2 → Wd n zs e ps x) → exO n zs m ys ps f k S = some S' →
    XI n m S' ∧ Grow S S' ∧ (∀ a, a ∈ S'.2 → ∀ p, p ∈ ps → OkP n zs m ys S' a p) ∧ ∀ x, x ∈ S'.2 → Wd n zs e ps x
  | 0, k, S, S', h, hf, hok, hw, hs => by
    obtain rfl := Option.some.inj hs
    refine ⟨h, Grow.refl _, fun a ha p hp => ?_, hw⟩
    obtain ⟨j, hj, he⟩ := List.mem_iff_getElem.1 ha
    exact hok j a (by have := h.fits; omega) (by rw [List.getElem?_eq_getElem hj, he]) p hp
  | f + 1, k, S, S', h, hf, hok, hw, hs => by
    cases hk : S.2[k]? with
    | none =>
      simp only [exO, hk] at hs
      obtain rfl := Option.some.inj hs
      refine ⟨h, Grow.refl _, fun a ha p hp => ?_, hw⟩
      obtain ⟨j, hj, he⟩ := List.mem_iff_getElem.1 ha
      exact hok j a (by have := List.getElem?_eq_none_iff.1 hk; omega) (by rw [List.getElem?_eq_getElem hj, he]) p hp
    | some a =>
      simp only [exO, hk] at hs
      cases hi : exI n zs m ys a ps S with
      | none => rw [hi] at hs; cases hs
      | some T =>
        rw [hi] at hs
        have ha : a ∈ S.2 := List.mem_of_getElem? hk
        obtain ⟨r1, r2, r3, r4⟩ := exI_grow ht hu ps h ha hp hi
        obtain ⟨q1, q2, q3, q4⟩ := exO_grow ht hu hp f (k + 1) r1 (by omega) (fun j b hj hb p hp => by
          by_cases hjk : j < k
          · have hjl : j < S.2.length := by have := (List.getElem?_eq_some_iff.1 hk).1; omega
            have hb' : S.2[j]? = some b := by
              have h9 := pre_get r2.pre (List.getElem?_eq_getElem hjl)
              rw [hb] at h9
              rw [List.getElem?_eq_getElem hjl, ← h9]
            exact (hok j b hjk hb' p hp).grow r2 (List.mem_of_getElem? hb')
          · have : j = k := by omega
            subst this
            have hkl := (List.getElem?_eq_some_iff.1 hk).1
            have : T.2[j]? = some a := pre_get r2.pre hk
            have : b = a := by rw [hb] at this; exact Option.some.inj this
            subst this
            exact r3 p hp) (fun x hx => by
          rcases r4 x hx with hx | ⟨p, hp, rfl⟩
          · exact hw x hx
          · exact Wd.mul (hw a ha) hp) hs
        exact ⟨q1, r2.trans q2, q3, q4⟩
theorem ext_grow (g : IsGrp n zs e) (h : IsGrp m ys d) (hp : ∀ p, p ∈ ps → p.1 < n ∧ p.2 < m) (hs : ext n zs e m ys d ps = some S) : XI n m S ∧ e ∈ S.2 ∧ S.1[e]?.getD 0 = (d : Int) ∧ (∀ a, a ∈ S.2 → ∀ p, p ∈ ps → OkP n zs m ys S a p) ∧ ∀ x, x ∈ S.2 → Wd n zs e ps x := by
  have h0 := XI.start g.elt h.elt
  obtain ⟨r1, r2, r3, r4⟩ := exO_grow (e := e) g.tab h.tab hp n 0 h0 (by omega) (fun j a hj => by omega) (fun x hx => by
    have : x = e := by simpa [ex0] using hx
    rw [this]; exact Wd.one) hs
  have he : e ∈ (ex0 n e d).2 := by simp [ex0]
  refine ⟨r1, r2.mem he, ?_, r3, r4⟩
  rw [r2.val e he]
  show ((List.replicate n (-1 : Int)).set e (d : Int))[e]?.getD 0 = (d : Int)
  rw [get_set (by simpa using g.elt), if_pos rfl]
/-- What stands for a thing that is found. -/
def vl (S : List Int × List Nat) (x : Nat) : Nat := (S.1[x]?.getD 0).toNat
theorem XI.vl (h : XI n m S) {x : Nat} (hx : x ∈ S.2) : S.1[x]?.getD 0 = (vl S x : Int) ∧ vl S x < m := by
  have := h.ok x hx
  unfold Go.Proofs.YtlhjeenijcokoaaGreatDoor.vl
  omega
theorem wd_mul (g : IsGrp n zs e) (h : IsGrp m ys d) (hp : ∀ p, p ∈ ps → p.1 < n ∧ p.2 < m) (hs : ext n zs e m ys d ps = some S) {x y : Nat} (hx : x ∈ S.2) (hy : Wd n zs e ps y) : y ∈ S.2 ∧ tm n zs x y ∈ S.2 ∧ vl S (tm n zs x y) = tm m ys (vl S x) (vl S y) := by
  obtain ⟨r1, r2, r3, r4, _⟩ := ext_grow g h hp hs
  have hve : vl S e = d := by unfold vl; rw [r3]; simp
  induction hy with
  | one => exact ⟨r2, by rw [g.right x (r1.lt x hx)]; exact hx, by rw [g.right x (r1.lt x hx), hve, h.right _ (r1.vl hx).2]⟩
  | mul hw hpm ih =>
    rename_i y p
    obtain ⟨i1, i2, i3⟩ := ih
    obtain ⟨p1, p2⟩ := hp p hpm
    have o1 := r4 y i1 p hpm
    have o2 := r4 _ i2 p hpm
    have ha : tm n zs x (tm n zs y p.1) = tm n zs (tm n zs x y) p.1 := (g.ass x y p.1 (r1.lt x hx) (r1.lt y i1) p1).symm
    refine ⟨o1.1, by rw [ha]; exact o2.1, ?_⟩
    have e1 : vl S (tm n zs y p.1) = tm m ys (vl S y) p.2 := by
      have := o1.2
      unfold vl; rw [this]; simp
    have e2 : vl S (tm n zs (tm n zs x y) p.1) = tm m ys (vl S (tm n zs x y)) p.2 := by
      have := o2.2
      unfold vl; rw [this]; simp
    rw [ha, e2, i3, e1, h.ass _ _ _ (r1.vl hx).2 (r1.vl i1).2 p2]
/-- All that the makers make is found, and products are kept. -/
theorem ext_mul (g : IsGrp n zs e) (h : IsGrp m ys d) (hp : ∀ p, p ∈ ps → p.1 < n ∧ p.2 < m) (hs : ext n zs e m ys d ps = some S) {x y : Nat} (hx : x ∈ S.2) (hy : y ∈ S.2) : tm n zs x y ∈ S.2 ∧ vl S (tm n zs x y) = tm m ys (vl S x) (vl S y) :=
  (wd_mul g h hp hs hx ((ext_grow g h hp hs).2.2.2.2 y hy)).2
theorem ext_made (g : IsGrp n zs e) (h : IsGrp m ys d) (hp : ∀ p, p ∈ ps → p.1 < n ∧ p.2 < m) (hs : ext n zs e m ys d ps = some S) {x : Nat} : x ∈ S.2 ↔ Mkd n zs e (fun x => decide (x ∈ ps.map Prod.fst)) x := by
  obtain ⟨r1, r2, r3, r4, r5⟩ := ext_grow g h hp hs
  constructor
  · intro hx
    have := r5 x hx
    clear hx
    induction this with
    | one => exact (Fin.Gen.sg _).one
    | mul hw hpm ih =>
      rename_i y p
      have hy : y < n := r1.lt y (wd_mul g h hp hs r2 hw).1
      exact (Fin.Gen.sg _).mul _ _ (List.mem_range.2 hy) (List.mem_range.2 (hp p hpm).1) ih (Fin.Gen.base (List.mem_range.2 (hp p hpm).1) (decide_eq_true (List.mem_map.2 ⟨p, hpm, rfl⟩)))
  · intro hx
    refine Fin.Gen.least (P := fun x => x ∈ S.2) ⟨r2, fun a b _ _ ha hb => (ext_mul g h hp hs ha hb).1⟩ (fun y hy hY => ?_) hx
    obtain ⟨p, hpm, rfl⟩ := List.mem_map.1 (of_decide_eq_true hY)
    have := (r4 e r2 p hpm).1
    rwa [g.left p.1 (hp p hpm).1] at this
theorem ext_at (g : IsGrp n zs e) (h : IsGrp m ys d) (hp : ∀ p, p ∈ ps → p.1 < n ∧ p.2 < m) (hs : ext n zs e m ys d ps = some S) {p : Nat × Nat} (hpm : p ∈ ps) : vl S p.1 = p.2 := by
  obtain ⟨r1, r2, r3, r4, _⟩ := ext_grow g h hp hs
  have := (r4 e r2 p hpm).2
  rw [g.left p.1 (hp p hpm).1, r3] at this
  unfold vl
  rw [this, Int.toNat_natCast, Int.toNat_natCast, h.left p.2 (hp p hpm).2]
/-- Where the makers make all, it is a homomorphism. -/
theorem ext_hom (g : IsGrp n zs e) (h : IsGrp m ys d) (hp : ∀ p, p ∈ ps → p.1 < n ∧ p.2 < m) (hs : ext n zs e m ys d ps = some S) (hall : ∀ a, a < n → Mkd n zs e (fun x => decide (x ∈ ps.map Prod.fst)) a) : IsHom n zs m ys (vl S) ∧ S.1 = li ((List.range n).map (vl S)) := by
  obtain ⟨r1, _⟩ := ext_grow g h hp hs
  have hin : ∀ a, a < n → a ∈ S.2 := fun a ha => (ext_made g h hp hs).2 (hall a ha)
  refine ⟨⟨fun a ha => (r1.vl (hin a ha)).2, fun a b ha hb => (ext_mul g h hp hs (hin a ha) (hin b hb)).2⟩, ?_⟩
  apply List.ext_getElem
  · rw [r1.len]; simp [li]
  · intro i h1 h2
    rw [r1.len] at h1
    have := (r1.vl (hin i h1)).1
    rw [List.getElem?_eq_getElem (by rw [r1.len]; exact h1), Option.getD_some] at this
    rw [this]
    simp [li]
/-- Where there is a homomorphism, the search ends well, and finds it. -/
theorem exS_hom (h : XI n m S) (ht : IsTab n zs) (H : IsHom n zs m ys φ) {a : Nat} {p : Nat × Nat} (ha : a ∈ S.2) (h1 : p.1 < n) (hφ : φ p.1 = p.2) (hv : ∀ x, x ∈ S.2 → S.1[x]?.getD 0 = (φ x : Int)) : ∃ S', exS n zs m ys a S p = some S' ∧ ∀ x, x ∈ S'.2 → S'.1[x]?.getD 0 = (φ x : Int) := by
  have hc := tm_lt ht (h.lt a ha) h1
  have hval : (tm m ys (S.1[a]?.getD 0).toNat p.2 : Int) = (φ (tm n zs a p.1) : Int) := by rw [hv a ha, Int.toNat_natCast, H.mul a p.1 (h.lt a ha) h1, hφ]
  by_cases hm : S.1[tm n zs a p.1]?.getD 0 = -1
  · refine ⟨_, if_pos hm, fun x hx => ?_⟩
    show (S.1.set _ _)[x]?.getD 0 = _
    rw [get_set (by rw [h.len]; exact hc)]
    by_cases he : x = tm n zs a p.1
    · rw [if_pos he, hval, he]
    · rw [if_neg he]
      rcases List.mem_append.1 hx with hx | hx
      · exact hv x hx
      · simp at hx; exact absurd hx he
  · have hin : tm n zs a p.1 ∈ S.2 := by
      by_cases hin : tm n zs a p.1 ∈ S.2
      · exact hin
      · exact absurd (h.no _ hc hin) hm
    refine ⟨S, ?_, hv⟩
    unfold exS
    rw [if_neg hm, if_pos (by rw [hval]; exact hv _ hin)]
theorem exI_hom (ht : IsTab n zs) (hu : IsTab m ys) (H : IsHom n zs m ys φ) {a : Nat} : ∀ (ps : List (Nat × Nat)) {S : List Int × List Nat}, XI n m S → a ∈ S.2 → (∀ p, p ∈ ps → p.1 < n ∧ p.2 < m ∧ φ p.1 = p.2) → (∀ x, x ∈ S.2 → S.1[x]?.getD 0 = (φ x : Int)) → ∃ S', exI n zs m ys a ps S = some S' ∧ ∀ x, x ∈ S'.2 → S'.1[x]?.getD 0 = (φ x : Int)
  | [], S, h, ha, hp, hv => ⟨S, rfl, hv⟩
  | p :: ps, S, h, ha, hp, hv => by
    obtain ⟨h1, h2, h3⟩ := hp p (by simp)
    obtain ⟨T, hT, hvT⟩ := exS_hom h ht H ha h1 h3 hv
    obtain ⟨g1, _, _⟩ := exS_grow h ht ha h1 hT
    have hX := (h.step hu ht ha h1 h2 hT).1
    obtain ⟨S', hS', hv'⟩ := exI_hom ht hu H ps hX (g1.mem ha) (fun q hq => hp q (by simp [hq])) hvT
    exact ⟨S', by simp only [exI, hT, hS'], hv'⟩
theorem exO_hom (ht : IsTab n zs) (hu : IsTab m ys) (H : IsHom n zs m ys φ) (hp : ∀ p, p ∈ ps → p.1 < n ∧ p.2 < m ∧ φ p.1 = p.2) : ∀ (f k : Nat) {S : List Int × List Nat}, XI n m S → (∀ x, x ∈ S.2 → S.1[x]?.getD 0 = (φ x : Int)) → ∃ S', exO n zs m ys ps f k S = some S' ∧ ∀ x, x ∈ S'.2 → S'.1[x]?.getD 0 = (φ x : Int)
  | 0, k, S, h, hv => ⟨S, rfl, hv⟩
  | f + 1, k, S, h, hv => by
    cases hk : S.2[k]? with
    | none => exact ⟨S, by simp only [exO, hk], hv⟩
    | some a =>
      have ha : a ∈ S.2 := List.mem_of_getElem? hk
      obtain ⟨T, hT, hvT⟩ := exI_hom ht hu H ps h ha hp hv
      obtain ⟨r1, _⟩ := exI_grow ht hu ps h ha (fun p hq => ⟨(hp p hq).1, (hp p hq).2.1⟩) hT
      obtain ⟨S', hS', hv'⟩ := exO_hom ht hu H hp f (k + 1) r1 hvT
      exact ⟨S', by simp only [exO, hk, hT, hS'], hv'⟩
theorem ext_of_hom (g : IsGrp n zs e) (h : IsGrp m ys d) (H : IsHom n zs m ys φ) (hp : ∀ p, p ∈ ps → p.1 < n ∧ φ p.1 = p.2) : ∃ S, ext n zs e m ys d ps = some S ∧ ∀ x, x ∈ S.2 → S.1[x]?.getD 0 = (φ x : Int) :=
  exO_hom g.tab h.tab H (fun p hq => ⟨(hp p hq).1, by rw [← (hp p hq).2]; exact H.lt _ (hp p hq).1, (hp p hq).2⟩) n 0 (XI.start g.elt h.elt) (fun x hx => by
    have : x = e := by simpa [ex0] using hx
    subst this
    show ((List.replicate n (-1 : Int)).set x (d : Int))[x]?.getD 0 = _
    rw [get_set (by simpa using g.elt), if_pos rfl, IsHom.one g h H])
end
end Go.Proofs.YtlhjeenijcokoaaGreatDoor

namespace Go.Proofs.YtlhjeenijcokoaaGreatDoor
open Go Go.RowKit

section
variable {n e m d : Nat} {zs ys : List Int} {ks : List Nat} {fit : List Int → Bool} {FP : (Nat → Nat) → Prop}
theorem li_map_inj {φ ψ : Nat → Nat} (h : li ((List.range n).map φ) = li ((List.range n).map ψ)) {a : Nat} (ha : a < n) : φ a = ψ a := by
  have := congrArg (fun l : List Int => l[a]?.getD 0) h
  simp [li, ha] at this
  omega
theorem zip_mem {ks js : List Nat} (hl : js.length ≤ ks.length) {p : Nat × Nat} (hp : p ∈ (ks.take js.length).zip js) : ∃ i, ∃ h : i < js.length, p = (ks[i]'(by omega), js[i]) := by
  obtain ⟨i, hi, he⟩ := List.mem_iff_getElem.1 hp
  have hi2 : i < js.length := by rw [List.length_zip] at hi; omega
  refine ⟨i, hi2, ?_⟩
  rw [← he]
  simp
theorem zip_fst {ks js : List Nat} (hl : js.length ≤ ks.length) : ((ks.take js.length).zip js).map Prod.fst = ks.take js.length := List.map_fst_zip (by rw [List.length_take]; omega)
/-- Which lists all yields: the homomorphisms that fit, and in which the images stand for the makers. -/
theorem homF_mem (g : IsGrp n zs e) (h : IsGrp m ys d) (hk : ∀ k, k ∈ ks → k < n) (hall : ∀ a, a < n → Mkd n zs e (fun x => decide (x ∈ ks)) a)
    (h1 : ∀ φ S (ps : List (Nat × Nat)), IsHom n zs m ys φ → FP φ → (∀ p, p ∈ ps → p.1 < n ∧ φ p.1 = p.2) → ext n zs e m ys d ps = some S → fit S.1 = true)
    (h2 : ∀ φ, IsHom n zs m ys φ → fit (li ((List.range n).map φ)) = true → FP φ) :
    ∀ (f : Nat) (js : List Nat) (L : List Int), js.length ≤ ks.length → ks.length + 1 ≤ f + js.length → (∀ j, j ∈ js → j < m) →
      (L ∈ homF n zs e m ys d ks fit f js ↔ ∃ φ, IsHom n zs m ys φ ∧ FP φ ∧ L = li ((List.range n).map φ) ∧ ∀ i (hi : i < js.length) (hi2 : i < ks.length), φ ks[i] = js[i])
  | 0, js, L, hl, hf, hj => by omega
  | f + 1, js, L, hl, hf, hj => by
    have hp : ∀ p, p ∈ (ks.take js.length).zip js → p.1 < n ∧ p.2 < m := fun p hp => by
      obtain ⟨i, hi, rfl⟩ := zip_mem hl hp
      exact ⟨hk _ (List.getElem_mem _), hj _ (List.getElem_mem _)⟩
    constructor
    · intro hL
      cases hR : ext n zs e m ys d ((ks.take js.length).zip js) with
      | none => rw [homF_none hR] at hL; cases hL
      | some S =>
        cases hfit : fit S.1 with
        | false => rw [homF_unfit hR hfit] at hL; cases hL
        | true =>
          by_cases hle : js.length = ks.length
          · rw [homF_full hR hfit hle] at hL
            have hL : L = S.1 := by simpa using hL
            obtain ⟨H, hS⟩ := ext_hom g h hp hR (by rw [zip_fst hl, hle, List.take_length]; exact hall)
            refine ⟨vl S, H, h2 _ H (by rw [← hS]; exact hfit), by rw [hL]; exact hS, fun i hi hi2 => ?_⟩
            have hm : (ks[i], js[i]) ∈ (ks.take js.length).zip js := by
              rw [hle, List.take_length]
              exact List.mem_iff_getElem.2 ⟨i, by rw [List.length_zip]; omega, by simp⟩
            exact ext_at g h hp hR hm
          · rw [homF_on hR hfit hle] at hL
            obtain ⟨b, hb, hL⟩ := List.mem_flatMap.1 hL
            obtain ⟨φ, H, hF, hLe, hag⟩ := (homF_mem g h hk hall h1 h2 f (js ++ [b]) L (by simp; omega) (by simp; omega) (fun j hjm => by
              rcases List.mem_append.1 hjm with hjm | hjm
              · exact hj j hjm
              · simp at hjm; rw [hjm]; exact List.mem_range.1 hb)).1 hL
            refine ⟨φ, H, hF, hLe, fun i hi hi2 => ?_⟩
            have := hag i (by simp; omega) hi2
            rwa [List.getElem_append_left hi] at this
    · rintro ⟨φ, H, hF, rfl, hag⟩
      have hpφ : ∀ p, p ∈ (ks.take js.length).zip js → p.1 < n ∧ φ p.1 = p.2 := fun p hp => by
        obtain ⟨i, hi, rfl⟩ := zip_mem hl hp
        exact ⟨hk _ (List.getElem_mem _), hag i hi (by omega)⟩
      obtain ⟨S, hR, hv⟩ := ext_of_hom g h H hpφ
      have hfit := h1 φ S _ H hF hpφ hR
      by_cases hle : js.length = ks.length
      · rw [homF_full hR hfit hle]
        obtain ⟨_, hS⟩ := ext_hom g h hp hR (by rw [zip_fst hl, hle, List.take_length]; exact hall)
        obtain ⟨r1, _⟩ := ext_grow g h hp hR
        have hin : ∀ a, a < n → a ∈ S.2 := fun a ha => (ext_made g h hp hR).2 (by rw [zip_fst hl, hle, List.take_length]; exact hall a ha)
        have : li ((List.range n).map φ) = S.1 := by
          rw [hS]
          unfold li
          rw [List.map_map, List.map_map]
          refine List.map_congr_left fun a ha => ?_
          have ha := List.mem_range.1 ha
          have h9 := hv a (hin a ha)
          show (φ a : Int) = (vl S a : Int)
          unfold vl
          omega
        rw [this]
        simp
      · rw [homF_on hR hfit hle]
        have hkl : js.length < ks.length := by omega
        refine List.mem_flatMap.2 ⟨φ ks[js.length], List.mem_range.2 (H.lt _ (hk _ (List.getElem_mem _))), ?_⟩
        refine (homF_mem g h hk hall h1 h2 f (js ++ [φ ks[js.length]]) _ (by simp; omega) (by simp; omega) (fun j hjm => by
          rcases List.mem_append.1 hjm with hjm | hjm
          · exact hj j hjm
          · simp at hjm; rw [hjm]; exact H.lt _ (hk _ (List.getElem_mem _)))).2 ⟨φ, H, hF, rfl, fun i hi hi2 => ?_⟩
        by_cases hij : i < js.length
        · rw [List.getElem_append_left hij]; exact hag i hij hi2
        · have : i = js.length := by simp at hi; omega
          subst this
          simp
theorem nodup_flat {F : Nat → List (List Int)} : ∀ k, (∀ b, b < k → (F b).Nodup) → (∀ b c L, b < k → c < k → L ∈ F b → L ∈ F c → b = c) → ((List.range k).flatMap F).Nodup
  | 0, _, _ => by simp
  | k + 1, h1, h2 => by
    rw [List.range_succ, List.flatMap_append]
    refine List.nodup_append.2 ⟨nodup_flat k (fun b hb => h1 b (by omega)) (fun b c L hb hc => h2 b c L (by omega) (by omega)), by simpa using h1 k (by omega), fun x hx y hy he => ?_⟩
    subst he
    obtain ⟨b, hb, hx⟩ := List.mem_flatMap.1 hx
    have hy : x ∈ F k := by simpa using hy
    have hb := List.mem_range.1 hb
    have := h2 b k x (by omega) (by omega) hx hy
    omega
/-- Each once. -/
theorem homF_nodup (g : IsGrp n zs e) (h : IsGrp m ys d) (hk : ∀ k, k ∈ ks → k < n) (hall : ∀ a, a < n → Mkd n zs e (fun x => decide (x ∈ ks)) a)
    (h1 : ∀ φ S (ps : List (Nat × Nat)), IsHom n zs m ys φ → FP φ → (∀ p, p ∈ ps → p.1 < n ∧ φ p.1 = p.2) → ext n zs e m ys d ps = some S → fit S.1 = true)
    (h2 : ∀ φ, IsHom n zs m ys φ → fit (li ((List.range n).map φ)) = true → FP φ) :
    ∀ (f : Nat) (js : List Nat), js.length ≤ ks.length → ks.length + 1 ≤ f + js.length → (∀ j, j ∈ js → j < m) → (homF n zs e m ys d ks fit f js).Nodup
  | 0, js, hl, hf, hj => by omega
  | f + 1, js, hl, hf, hj => by
    cases hR : ext n zs e m ys d ((ks.take js.length).zip js) with
    | none => rw [homF_none hR]; simp
    | some S =>
      cases hfit : fit S.1 with
      | false => rw [homF_unfit hR hfit]; simp
      | true =>
        by_cases hle : js.length = ks.length
        · rw [homF_full hR hfit hle]; simp
        · rw [homF_on hR hfit hle]
          have hkl : js.length < ks.length := by omega
          have hjb : ∀ b, b < m → ∀ j, j ∈ js ++ [b] → j < m := fun b hb j hjm => by
            rcases List.mem_append.1 hjm with hjm | hjm
            · exact hj j hjm
            · simp at hjm; rw [hjm]; exact hb
          refine nodup_flat m (fun b hb => homF_nodup g h hk hall h1 h2 f (js ++ [b]) (by simp; omega) (by simp; omega) (hjb b hb)) (fun b c L hb hc hLb hLc => ?_)
          obtain ⟨φ, _, _, e1, a1⟩ := (homF_mem g h hk hall h1 h2 f (js ++ [b]) L (by simp; omega) (by simp; omega) (hjb b hb)).1 hLb
          obtain ⟨ψ, _, _, e2, a2⟩ := (homF_mem g h hk hall h1 h2 f (js ++ [c]) L (by simp; omega) (by simp; omega) (hjb c hc)).1 hLc
          have h9 := a1 js.length (by simp) hkl
          have h8 := a2 js.length (by simp) hkl
          have h7 := li_map_inj (e1.symm.trans e2) (hk _ (List.getElem_mem hkl))
          simp at h9 h8
          omega
end
end Go.Proofs.YtlhjeenijcokoaaGreatDoor

namespace Go.Proofs.YtlhjeenijcokoaaGreatDoor
open Go Go.RowKit

section
variable {n e m d : Nat} {zs ys : List Int} {φ ψ : Nat → Nat}
theorem hom_pw (g : IsGrp n zs e) (h : IsGrp m ys d) (H : IsHom n zs m ys φ) {a : Nat} (ha : a < n) : ∀ k, φ (pw n zs e a k) = pw m ys d (φ a) k
  | 0 => IsHom.one g h H
  | k + 1 => by
    show φ (tm n zs (pw n zs e a k) a) = tm m ys (pw m ys d (φ a) k) (φ a)
    rw [H.mul _ _ (pw_lt g ha k) ha, hom_pw g h H ha k]
end
section
variable {n e m d : Nat} {zs ys : List Int} {φ ψ : Nat → Nat}
theorem hom_ord (g : IsGrp n zs e) (h : IsGrp m ys d) (H : IsHom n zs m ys φ) {a : Nat} (ha : a < n) : ordN m ys d (φ a) ∣ ordN n zs e a :=
  ord_dvd h (H.lt a ha) (by rw [← hom_pw g h H ha, pw_ord g ha, IsHom.one g h H])
end
/-- Does each number below n stand there? -/
def o1 (n : Nat) (xs : List Int) : Bool := (List.range n).all fun i => decide ((i : Int) ∈ xs)
theorem o1_iff {n : Nat} {xs : List Int} : o1 n xs = true ↔ ∀ i, i < n → (i : Int) ∈ xs := by simp [o1]
section
variable {n e : Nat} {zs : List Int}
theorem hom_list_at {φ : Nat → Nat} {a : Nat} (ha : a < n) : (li ((List.range n).map φ))[a]?.getD 0 = (φ a : Int) := by simp [li, ha]
end
end Go.Proofs.YtlhjeenijcokoaaGreatDoor

namespace Go.Proofs.YtlhjeenijcokoaaGreatDoor
open Go Go.RowKit

section
variable {n e m d : Nat} {zs ys : List Int} {φ : Nat → Nat}
/-- A homomorphism that has no thing twice. -/
structure IsIso (n : Nat) (zs : List Int) (m : Nat) (ys : List Int) (φ : Nat → Nat) : Prop where
  hom : IsHom n zs m ys φ
  inj : ∀ a b, a < n → b < n → φ a = φ b → a = b
theorem iso_of_ker (g : IsGrp n zs e) (h : IsGrp m ys d) (H : IsHom n zs m ys φ) (hk : ∀ a, a < n → φ a = d → a = e) : IsIso n zs m ys φ := by
  refine ⟨H, fun a b ha hb hab => ?_⟩
  obtain ⟨i1, i2, i3, _⟩ := iv_spec g hb
  have h1 := H.mul a (iv n zs e b) ha i1
  have h2 := H.mul b (iv n zs e b) hb i1
  rw [i2, IsHom.one g h H] at h2
  rw [hab, ← h2] at h1
  have h3 := hk _ (tm_lt g.tab ha i1) h1
  have h4 : tm n zs (tm n zs a (iv n zs e b)) b = tm n zs e b := congrArg (fun t => tm n zs t b) h3
  rw [g.ass a _ b ha i1 hb, i3, g.right a ha, g.left b hb] at h4
  exact h4
theorem IsIso.ker (g : IsGrp n zs e) (h : IsGrp m ys d) (A : IsIso n zs m ys φ) {a : Nat} (ha : a < n) (hae : φ a = d) : a = e := A.inj a e ha g.elt (by rw [hae, IsHom.one g h A.hom])
theorem IsIso.ord (g : IsGrp n zs e) (h : IsGrp m ys d) (A : IsIso n zs m ys φ) {a : Nat} (ha : a < n) : ordN m ys d (φ a) = ordN n zs e a := by
  refine Nat.dvd_antisymm (hom_ord g h A.hom ha) (ord_dvd g ha (A.ker g h (pw_lt g ha _) ?_))
  rw [hom_pw g h A.hom ha, pw_ord h (A.hom.lt a ha)]
theorem IsIso.hits (A : IsIso n zs m ys φ) (hn : m ≤ n) {y : Nat} (hy : y < m) : ∃ a, a < n ∧ φ a = y := Classical.byContradiction fun hno => by
  have hnd : ((List.range n).map φ).Nodup := by
    rw [List.nodup_iff_pairwise_ne, List.pairwise_map]
    exact (List.nodup_iff_pairwise_ne.1 List.nodup_range).imp_of_mem fun {a b} ha hb hne h9 => hne (A.inj a b (List.mem_range.1 ha) (List.mem_range.1 hb) h9)
  have hsub : ∀ z, z ∈ (List.range n).map φ → z ∈ (List.range m).erase y := fun z hz => by
    obtain ⟨a, ha, rfl⟩ := List.mem_map.1 hz
    have ha := List.mem_range.1 ha
    exact (List.mem_erase_of_ne (fun h9 => hno ⟨a, ha, h9⟩)).2 (List.mem_range.2 (A.hom.lt a ha))
  have := nodup_len _ _ hnd hsub
  rw [List.length_map, List.length_erase_of_mem (List.mem_range.2 hy), List.length_range, List.length_range] at this
  omega
theorem IsIso.perm (A : IsIso n zs m ys φ) (hn : n = m) : ((List.range n).map φ).Perm (List.range m) := by
  have hnd : ((List.range n).map φ).Nodup := by
    rw [List.nodup_iff_pairwise_ne, List.pairwise_map]
    exact (List.nodup_iff_pairwise_ne.1 List.nodup_range).imp_of_mem fun {a b} ha hb hne h9 => hne (A.inj a b (List.mem_range.1 ha) (List.mem_range.1 hb) h9)
  refine (List.perm_ext_iff_of_nodup hnd List.nodup_range).2 fun z => ?_
  rw [List.mem_map, List.mem_range]
  constructor
  · rintro ⟨a, ha, rfl⟩
    exact A.hom.lt a (List.mem_range.1 ha)
  · intro hz
    obtain ⟨a, ha, h9⟩ := A.hits (by omega) hz
    exact ⟨a, List.mem_range.2 ha, h9⟩
/-- Both groups have each order as often. -/
theorem IsIso.orders (g : IsGrp n zs e) (h : IsGrp m ys d) (A : IsIso n zs m ys φ) (hn : n = m) : ((List.range n).map (ordN n zs e)).Perm ((List.range m).map (ordN m ys d)) := by
  have h1 : (List.range n).map (ordN n zs e) = ((List.range n).map φ).map (ordN m ys d) := by
    rw [List.map_map]
    exact List.map_congr_left fun a ha => (A.ord g h (List.mem_range.1 ha)).symm
  rw [h1]
  exact (A.perm hn).map _
theorem IsIso.o1 (A : IsIso n zs m ys φ) (hn : n = m) : o1 m (li ((List.range n).map φ)) = true := by
  rw [o1_iff]
  intro i hi
  obtain ⟨a, ha, h9⟩ := A.hits (by omega) hi
  exact List.mem_map.2 ⟨i, List.mem_map.2 ⟨a, List.mem_range.2 ha, h9⟩, rfl⟩
/-- A homomorphism that hits all of as many things is an isomorphism. -/
theorem iso_of_o1 (H : IsHom n zs m ys φ) (hn : n = m) (ho : o1 m (li ((List.range n).map φ)) = true) : IsIso n zs m ys φ := by
  rw [o1_iff] at ho
  refine ⟨H, fun a b ha hb hab => Classical.byContradiction fun hne => ?_⟩
  have hsub : ∀ z, z ∈ List.range m → z ∈ ((List.range n).erase b).map φ := fun z hz => by
    obtain ⟨t, ht, htz⟩ := List.mem_map.1 (ho z (List.mem_range.1 hz))
    obtain ⟨c, hc, rfl⟩ := List.mem_map.1 ht
    have hcz : φ c = z := by have htz : (φ c : Int) = z := htz; omega
    by_cases hcb : c = b
    · exact List.mem_map.2 ⟨a, (List.mem_erase_of_ne hne).2 (List.mem_range.2 ha), by rw [hab, ← hcb]; exact hcz⟩
    · exact List.mem_map.2 ⟨c, (List.mem_erase_of_ne hcb).2 hc, hcz⟩
  have := nodup_len _ _ List.nodup_range hsub
  rw [List.length_map, List.length_erase_of_mem (List.mem_range.2 hb), List.length_range, List.length_range] at this
  omega
theorem sng_fit2 (g : IsGrp n zs e) (h : IsGrp m ys d) {S : List Int × List Nat} {ps : List (Nat × Nat)} (H : IsHom n zs m ys φ) (hF : ∀ a, a < n → φ a = d → a = e) (hps : ∀ p, p ∈ ps → p.1 < n ∧ φ p.1 = p.2) (hS : ext n zs e m ys d ps = some S) : sngq n e S.1 d = true := by
  have hp : ∀ p, p ∈ ps → p.1 < n ∧ p.2 < m := fun p hp => ⟨(hps p hp).1, by rw [← (hps p hp).2]; exact H.lt _ (hps p hp).1⟩
  obtain ⟨r1, r2, r3, _⟩ := ext_grow g h hp hS
  obtain ⟨S', hS', hv⟩ := ext_of_hom g h H hps
  rw [hS] at hS'
  injection hS' with hS'
  subst hS'
  unfold sngq
  refine decide_eq_true (bs_ext fun a ha => ?_)
  unfold kerq
  by_cases hin : a ∈ S.2
  · rw [hv a hin]
    by_cases hae : a = e
    · subst hae
      rw [IsHom.one g h H]
      simp
    · rw [decide_eq_false hae]
      refine decide_eq_false fun h9 => hae (hF a ha ?_)
      omega
  · have hae : ¬ a = e := fun h9 => hin (by rw [h9]; exact r2)
    rw [decide_eq_false hae]
    refine decide_eq_false fun h9 => ?_
    have := r1.no a ha hin
    rw [this] at h9
    omega
theorem sng_ker2 (hf : sngq n e (li ((List.range n).map φ)) d = true) {a : Nat} (ha : a < n) (hae : φ a = d) : a = e := by
  have := bs_inj (of_decide_eq_true hf) a ha
  unfold kerq at this
  rw [hom_list_at ha, hae] at this
  simpa using this
/-- What single yields: by whatever makers, the isomorphisms into the other group. -/
theorem iso_mem (g : IsGrp n zs e) (h : IsGrp m ys d) {ks : List Nat} (hk : ∀ k, k ∈ ks → k < n) (hall : ∀ a, a < n → Mkd n zs e (fun x => decide (x ∈ ks)) a) {L : List Int} : L ∈ homF n zs e m ys d ks (fun ms => sngq n e ms d) (ks.length + 1) [] ↔ ∃ φ, IsIso n zs m ys φ ∧ L = li ((List.range n).map φ) := by
  have key := homF_mem (FP := fun φ => ∀ a, a < n → φ a = d → a = e) (fit := fun ms => sngq n e ms d) g h hk hall
    (fun φ S ps H hF hps hS => sng_fit2 g h H hF hps hS)
    (fun φ H hf a ha hae => sng_ker2 hf ha hae)
    (ks.length + 1) [] L (by simp) (by simp) (by simp)
  rw [key]
  constructor
  · rintro ⟨φ, H, hF, hL, _⟩
    exact ⟨φ, iso_of_ker g h H hF, hL⟩
  · rintro ⟨φ, A, hL⟩
    exact ⟨φ, A.hom, fun a ha hae => A.ker g h ha hae, hL, fun i hi => by simp at hi⟩
theorem iso_none (g : IsGrp n zs e) (h : IsGrp m ys d) {ks : List Nat} (hk : ∀ k, k ∈ ks → k < n) (hall : ∀ a, a < n → Mkd n zs e (fun x => decide (x ∈ ks)) a) : homF n zs e m ys d ks (fun ms => sngq n e ms d) (ks.length + 1) [] = [] ↔ ¬ ∃ φ, IsIso n zs m ys φ := by
  rw [List.eq_nil_iff_forall_not_mem]
  constructor
  · rintro h1 ⟨φ, A⟩
    exact h1 _ ((iso_mem g h hk hall).2 ⟨φ, A, rfl⟩)
  · intro h1 L hL
    obtain ⟨φ, A, _⟩ := (iso_mem g h hk hall).1 hL
    exact h1 ⟨φ, A⟩
/-- A group is isomorphic to itself. -/
theorem iso_id : IsIso n zs n zs id := ⟨⟨fun _ ha => ha, fun _ _ _ _ => rfl⟩, fun _ _ _ _ h => h⟩
end
end Go.Proofs.YtlhjeenijcokoaaGreatDoor

namespace Go.Proofs.YtlhjeenijcokoaaGreatDoor
open Go Go.RowKit

section
variable {n e m d k c : Nat} {zs ys xs : List Int} {π ψ : Nat → Nat}
/-- Where two things go to the same, their quotient goes to the one. -/
theorem hom_same_iff (g : IsGrp n zs e) (h : IsGrp m ys d) (H : IsHom n zs m ys π) {a b : Nat} (ha : a < n) (hb : b < n) : π a = π b ↔ π (tm n zs a (iv n zs e b)) = d := by
  obtain ⟨i1, i2, i3, _⟩ := iv_spec g hb
  have h1 := H.mul a (iv n zs e b) ha i1
  have h2 := H.mul b (iv n zs e b) hb i1
  rw [i2, IsHom.one g h H] at h2
  constructor
  · intro hab
    rw [h1, hab, ← h2]
  · intro hd
    have h3 := H.mul _ b (tm_lt g.tab ha i1) hb
    rw [hd, h.left _ (H.lt b hb), g.ass a _ b ha i1 hb, i3, g.right a ha] at h3
    exact h3
/-- A homomorphism onto. -/
structure IsOnto (n : Nat) (zs : List Int) (m : Nat) (ys : List Int) (π : Nat → Nat) : Prop where
  hom : IsHom n zs m ys π
  hits : ∀ y, y < m → ∃ a, a < n ∧ π a = y
theorem IsOnto.comp {ρ : Nat → Nat} (A : IsOnto n zs m ys π) (B : IsOnto m ys k xs ρ) : IsOnto n zs k xs (fun a => ρ (π a)) :=
  ⟨⟨fun a ha => B.hom.lt _ (A.hom.lt a ha), fun a b ha hb => by
    show ρ (π (tm n zs a b)) = _
    rw [A.hom.mul a b ha hb, B.hom.mul _ _ (A.hom.lt a ha) (A.hom.lt b hb)]⟩, fun y hy => by
    obtain ⟨b, hb, h1⟩ := B.hits y hy
    obtain ⟨a, ha, h2⟩ := A.hits b hb
    exact ⟨a, ha, by show ρ (π a) = y; rw [h2, h1]⟩⟩
/-- Two images with the same kernel are isomorphic. -/
theorem iso_glue (g : IsGrp n zs e) (h : IsGrp m ys d) (j : IsGrp k xs c) (A : IsOnto n zs m ys π) (B : IsOnto n zs k xs ψ) (hk : ∀ a, a < n → (π a = d ↔ ψ a = c)) : m = k ∧ ∃ φ, IsIso m ys k xs φ := by
  have key : ∀ a b, a < n → b < n → (π a = π b ↔ ψ a = ψ b) := fun a b ha hb => by
    obtain ⟨i1, _⟩ := iv_spec g hb
    rw [hom_same_iff g h A.hom ha hb, hom_same_iff g j B.hom ha hb]
    exact hk _ (tm_lt g.tab ha i1)
  have hs : ∃ s : Nat → Nat, ∀ y, y < m → s y < n ∧ π (s y) = y := ⟨fun y => if hy : y < m then Classical.choose (A.hits y hy) else 0, fun y hy => by
    simp only [dif_pos hy]
    exact Classical.choose_spec (A.hits y hy)⟩
  obtain ⟨s, hs⟩ := hs
  have hI : IsIso m ys k xs (fun y => ψ (s y)) := by
    refine ⟨⟨fun y hy => B.hom.lt _ (hs y hy).1, fun y z hy hz => ?_⟩, fun y z hy hz hyz => ?_⟩
    · show ψ (s (tm m ys y z)) = tm k xs (ψ (s y)) (ψ (s z))
      obtain ⟨h1, h2⟩ := hs y hy
      obtain ⟨h3, h4⟩ := hs z hz
      obtain ⟨h5, h6⟩ := hs (tm m ys y z) (tm_lt h.tab hy hz)
      rw [← B.hom.mul _ _ h1 h3, ← key _ _ h5 (tm_lt g.tab h1 h3), h6, A.hom.mul _ _ h1 h3, h2, h4]
    · have h1 := (key _ _ (hs y hy).1 (hs z hz).1).2 hyz
      rw [(hs y hy).2, (hs z hz).2] at h1
      exact h1
  refine ⟨?_, _, hI⟩
  have l1 : m ≤ k := by
    have hnd : ((List.range m).map fun y => ψ (s y)).Nodup := by
      rw [List.nodup_iff_pairwise_ne, List.pairwise_map]
      exact (List.nodup_iff_pairwise_ne.1 List.nodup_range).imp_of_mem fun {a b} ha hb hne h9 => hne (hI.inj a b (List.mem_range.1 ha) (List.mem_range.1 hb) h9)
    have := nodup_len _ (List.range k) hnd (fun z hz => by
      obtain ⟨a, ha, rfl⟩ := List.mem_map.1 hz
      exact List.mem_range.2 (hI.hom.lt a (List.mem_range.1 ha)))
    rwa [List.length_map, List.length_range, List.length_range] at this
  have l2 : k ≤ m := by
    have := nodup_len (List.range k) ((List.range m).map fun y => ψ (s y)) List.nodup_range (fun z hz => by
      obtain ⟨a, ha, h1⟩ := B.hits z (List.mem_range.1 hz)
      have hy := A.hom.lt a ha
      refine List.mem_map.2 ⟨π a, List.mem_range.2 hy, ?_⟩
      show ψ (s (π a)) = z
      rw [← h1, ← key _ _ (hs _ hy).1 ha, (hs _ hy).2])
    rwa [List.length_map, List.length_range, List.length_range] at this
  omega
end
end Go.Proofs.YtlhjeenijcokoaaGreatDoor
