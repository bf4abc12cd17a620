/- What the law HomAll answers: true, at every two tables; homomorphisms, what makers and images are extended to, orders of lists as mathematics; hom.All at everything; the document's Makers, Spread, Homs, Less, Rising and Lists. -/
import Derived.Test.YtmgengplfebmjaaDoorHz
import Derived.Test.YtmgengplfebmjaaDoorHy
import Derived.Test.YtmgengplfebmjaaDoorSpn
import Derived.Test.YtmgengplfebmjaaDoorCsa
namespace Go.Proofs.YtmgengplfebmjaaDoor
open Go Go.RowKit

section
variable {n e m d : Nat} {zs ys : List Int} {S S' : List Int × List Nat} {ps : List (Nat × Nat)} {φ : Nat → Nat}
/-- What stands stays. -/
structure Grow (S S' : List Int × List Nat) : Prop where
  pre : S.2 <+: S'.2
  val : ∀ x, x ∈ S.2 → S'.1[x]?.getD 0 = S.1[x]?.getD 0
theorem Grow.refl (S : List Int × List Nat) : Grow S S := ⟨List.prefix_rfl, fun _ _ => rfl⟩
theorem Grow.mem (h : Grow S S') {x : Nat} (hx : x ∈ S.2) : x ∈ S'.2 := h.pre.subset hx
theorem Grow.trans {T : List Int × List Nat} (h : Grow S S') (k : Grow S' T) : Grow S T := ⟨h.pre.trans k.pre, fun x hx => (k.val x (h.mem hx)).trans (h.val x hx)⟩
theorem pre_get {l k : List Nat} (h : l <+: k) {j a : Nat} (hj : l[j]? = some a) : k[j]? = some a := by
  obtain ⟨t, ht⟩ := h
  rw [← ht, List.getElem?_append_left (List.getElem?_eq_some_iff.1 hj).1]
  exact hj
/-- A product with a maker is found, and stands for the product. -/
def OkP (n : Nat) (zs : List Int) (m : Nat) (ys : List Int) (S : List Int × List Nat) (a : Nat) (p : Nat × Nat) : Prop := tm n zs a p.1 ∈ S.2 ∧ S.1[tm n zs a p.1]?.getD 0 = (tm m ys (S.1[a]?.getD 0).toNat p.2 : Int)
theorem OkP.grow {a : Nat} {p : Nat × Nat} (h : OkP n zs m ys S a p) (hg : Grow S S') (ha : a ∈ S.2) : OkP n zs m ys S' a p :=
  ⟨hg.mem h.1, by rw [hg.val _ h.1, h.2, hg.val _ ha]⟩
/-- Words of makers. -/
inductive Wd (n : Nat) (zs : List Int) (e : Nat) (ps : List (Nat × Nat)) : Nat → Prop
  | one : Wd n zs e ps e
  | mul {x : Nat} {p : Nat × Nat} : Wd n zs e ps x → p ∈ ps → Wd n zs e ps (tm n zs x p.1)
theorem exS_grow (h : XI n m S) (ht : IsTab n zs) {a : Nat} {p : Nat × Nat} (ha : a ∈ S.2) (h1 : p.1 < n) (hs : exS n zs m ys a S p = some S') : Grow S S' ∧ OkP n zs m ys S' a p ∧ ∀ x, x ∈ S'.2 → x ∈ S.2 ∨ x = tm n zs a p.1 := by
  have hc := tm_lt ht (h.lt a ha) h1
  unfold exS at hs
  split at hs
  · rename_i hm
    obtain rfl := Option.some.inj hs
    have hnc : tm n zs a p.1 ∉ S.2 := fun hin => by have := h.ok _ hin; omega
    have hv : ∀ x, x ∈ S.2 → ((S.1.set (tm n zs a p.1) (tm m ys (S.1[a]?.getD 0).toNat p.2 : Int)))[x]?.getD 0 = S.1[x]?.getD 0 := fun x hx => by
      rw [get_set (by rw [h.len]; exact hc), if_neg (fun he : x = tm n zs a p.1 => hnc (he ▸ hx))]
    refine ⟨⟨List.prefix_append _ _, hv⟩, ⟨by simp, ?_⟩, fun x hx => ?_⟩
    · show (S.1.set _ _)[tm n zs a p.1]?.getD 0 = (tm m ys ((S.1.set (tm n zs a p.1) (tm m ys (S.1[a]?.getD 0).toNat p.2 : Int))[a]?.getD 0).toNat p.2 : Int)
      rw [hv a ha, get_set (by rw [h.len]; exact hc), if_pos rfl]
    · rcases List.mem_append.1 hx with hx | hx
      · exact .inl hx
      · exact .inr (by simpa using hx)
  · rename_i hm
    split at hs
    · rename_i hv
      obtain rfl := Option.some.inj hs
      refine ⟨Grow.refl _, ⟨?_, hv⟩, fun x hx => .inl hx⟩
      by_cases hin : tm n zs a p.1 ∈ S.2
      · exact hin
      · exact absurd (h.no _ hc hin) hm
    · cases hs
theorem exI_grow (ht : IsTab n zs) (hu : IsTab m ys) {a : Nat} : ∀ (ps : List (Nat × Nat)) {S S' : List Int × List Nat}, XI n m S → a ∈ S.2 → (∀ p, p ∈ ps → p.1 < n ∧ p.2 < m) → exI n zs m ys a ps S = some S' → XI n m S' ∧ Grow S S' ∧ (∀ p, p ∈ ps → OkP n zs m ys S' a p) ∧ ∀ x, x ∈ S'.2 → x ∈ S.2 ∨ ∃ p, p ∈ ps ∧ x = tm n zs a p.1
  | [], S, S', h, ha, hp, hs => by
    obtain rfl := Option.some.inj hs
    exact ⟨h, Grow.refl _, fun p hp => by simp at hp, fun x hx => .inl hx⟩
  | p :: ps, S, S', h, ha, hp, hs => by
    obtain ⟨h1, h2⟩ := hp p (by simp)
    cases he : exS n zs m ys a S p with
    | none => simp only [exI, he] at hs; cases hs
    | some T =>
      simp only [exI, he] at hs
      obtain ⟨g1, o1, m1⟩ := exS_grow h ht ha h1 he
      have hT := (h.step hu ht ha h1 h2 he).1
      obtain ⟨r1, r2, r3, r4⟩ := exI_grow ht hu ps hT (g1.mem ha) (fun q hq => hp q (by simp [hq])) hs
      refine ⟨r1, g1.trans r2, fun q hq => ?_, fun x hx => ?_⟩
      · rcases List.mem_cons.1 hq with rfl | hq
        · exact o1.grow r2 (g1.mem ha)
        · exact r3 q hq
      · rcases r4 x hx with hx | ⟨q, hq, he⟩
        · rcases m1 x hx with hx | hx
          · exact .inl hx
          · exact .inr ⟨p, by simp, hx⟩
        · exact .inr ⟨q, by simp [hq], he⟩
theorem exO_grow (ht : IsTab n zs) (hu : IsTab m ys) (hp : ∀ p, p ∈ ps → p.1 < n ∧ p.2 < m) : ∀ (f k : Nat) {S S' : List Int × List Nat}, XI n m S → n ≤ f + k → (∀ j a, j < k → S.2[j]? = some a → ∀ p, p ∈ ps → OkP n zs m ys S a p) → (∀ x, x ∈ S.2 → Wd n zs e ps x) → exO n zs m ys ps f k S = some S' →
    XI n m S' ∧ Grow S S' ∧ (∀ a, a ∈ S'.2 → ∀ p, p ∈ ps → OkP n zs m ys S' a p) ∧ ∀ x, x ∈ S'.2 → Wd n zs e ps x
  | 0, k, S, S', h, hf, hok, hw, hs => by
    obtain rfl := Option.some.inj hs
    refine ⟨h, Grow.refl _, fun a ha p hp => ?_, hw⟩
    obtain ⟨j, hj, he⟩ := List.mem_iff_getElem.1 ha
    exact hok j a (by have := h.fits; omega) (by rw [List.getElem?_eq_getElem hj, he]) p hp
  | f + 1, k, S, S', h, hf, hok, hw, hs => by
    cases hk : S.2[k]? with
    | none =>
      simp only [exO, hk] at hs
      obtain rfl := Option.some.inj hs
      refine ⟨h, Grow.refl _, fun a ha p hp => ?_, hw⟩
      obtain ⟨j, hj, he⟩ := List.mem_iff_getElem.1 ha
      exact hok j a (by have := List.getElem?_eq_none_iff.1 hk; omega) (by rw [List.getElem?_eq_getElem hj, he]) p hp
    | some a =>
      simp only [exO, hk] at hs
      cases hi : exI n zs m ys a ps S with
      | none => rw [hi] at hs; cases hs
      | some T =>
        rw [hi] at hs
        have ha : a ∈ S.2 := List.mem_of_getElem? hk
        obtain ⟨r1, r2, r3, r4⟩ := exI_grow ht hu ps h ha hp hi
        obtain ⟨q1, q2, q3, q4⟩ := exO_grow ht hu hp f (k + 1) r1 (by omega) (fun j b hj hb p hp => by
          by_cases hjk : j < k
          · have hjl : j < S.2.length := by have := (List.getElem?_eq_some_iff.1 hk).1; omega
            have hb' : S.2[j]? = some b := by
              have h9 := pre_get r2.pre (List.getElem?_eq_getElem hjl)
              rw [hb] at h9
              rw [List.getElem?_eq_getElem hjl, ← h9]
            exact (hok j b hjk hb' p hp).grow r2 (List.mem_of_getElem? hb')
          · have : j = k := by omega
            subst this
            have hkl := (List.getElem?_eq_some_iff.1 hk).1
            have : T.2[j]? = some a := pre_get r2.pre hk
            have : b = a := by rw [hb] at this; exact Option.some.inj this
            subst this
            exact r3 p hp) (fun x hx => by
          rcases r4 x hx with hx | ⟨p, hp, rfl⟩
          · exact hw x hx
          · exact Wd.mul (hw a ha) hp) hs
        exact ⟨q1, r2.trans q2, q3, q4⟩
theorem ext_grow (g : IsGrp n zs e) (h : IsGrp m ys d) (hp : ∀ p, p ∈ ps → p.1 < n ∧ p.2 < m) (hs : ext n zs e m ys d ps = some S) : XI n m S ∧ e ∈ S.2 ∧ S.1[e]?.getD 0 = (d : Int) ∧ (∀ a, a ∈ S.2 → ∀ p, p ∈ ps → OkP n zs m ys S a p) ∧ ∀ x, x ∈ S.2 → Wd n zs e ps x := by
  have h0 := XI.start g.elt h.elt
  obtain ⟨r1, r2, r3, r4⟩ := exO_grow (e := e) g.tab h.tab hp n 0 h0 (by omega) (fun j a hj => by omega) (fun x hx => by
    have : x = e := by simpa [ex0] using hx
    rw [this]; exact Wd.one) hs
  have he : e ∈ (ex0 n e d).2 := by simp [ex0]
  refine ⟨r1, r2.mem he, ?_, r3, r4⟩
  rw [r2.val e he]
  show ((List.replicate n (-1 : Int)).set e (d : Int))[e]?.getD 0 = (d : Int)
  rw [get_set (by simpa using g.elt), if_pos rfl]
/-- What stands for a thing that is found. -/
def vl (S : List Int × List Nat) (x : Nat) : Nat := (S.1[x]?.getD 0).toNat
theorem XI.vl (h : XI n m S) {x : Nat} (hx : x ∈ S.2) : S.1[x]?.getD 0 = (vl S x : Int) ∧ vl S x < m := by
  have := h.ok x hx
  unfold Go.Proofs.YtmgengplfebmjaaDoor.vl
  omega
theorem wd_mul (g : IsGrp n zs e) (h : IsGrp m ys d) (hp : ∀ p, p ∈ ps → p.1 < n ∧ p.2 < m) (hs : ext n zs e m ys d ps = some S) {x y : Nat} (hx : x ∈ S.2) (hy : Wd n zs e ps y) : y ∈ S.2 ∧ tm n zs x y ∈ S.2 ∧ vl S (tm n zs x y) = tm m ys (vl S x) (vl S y) := by
  obtain ⟨r1, r2, r3, r4, _⟩ := ext_grow g h hp hs
  have hve : vl S e = d := by unfold vl; rw [r3]; simp
  induction hy with
  | one => exact ⟨r2, by rw [g.right x (r1.lt x hx)]; exact hx, by rw [g.right x (r1.lt x hx), hve, h.right _ (r1.vl hx).2]⟩
  | mul hw hpm ih =>
    rename_i y p
    obtain ⟨i1, i2, i3⟩ := ih
    obtain ⟨p1, p2⟩ := hp p hpm
    have o1 := r4 y i1 p hpm
    have o2 := r4 _ i2 p hpm
    have ha : tm n zs x (tm n zs y p.1) = tm n zs (tm n zs x y) p.1 := (g.ass x y p.1 (r1.lt x hx) (r1.lt y i1) p1).symm
    refine ⟨o1.1, by rw [ha]; exact o2.1, ?_⟩
    have e1 : vl S (tm n zs y p.1) = tm m ys (vl S y) p.2 := by
      have := o1.2
      unfold vl; rw [this]; simp
    have e2 : vl S (tm n zs (tm n zs x y) p.1) = tm m ys (vl S (tm n zs x y)) p.2 := by
      have := o2.2
      unfold vl; rw [this]; simp
    rw [ha, e2, i3, e1, h.ass _ _ _ (r1.vl hx).2 (r1.vl i1).2 p2]
/-- All that the makers make is found, and products are kept. -/
theorem ext_mul (g : IsGrp n zs e) (h : IsGrp m ys d) (hp : ∀ p, p ∈ ps → p.1 < n ∧ p.2 < m) (hs : ext n zs e m ys d ps = some S) {x y : Nat} (hx : x ∈ S.2) (hy : y ∈ S.2) : tm n zs x y ∈ S.2 ∧ vl S (tm n zs x y) = tm m ys (vl S x) (vl S y) :=
  (wd_mul g h hp hs hx ((ext_grow g h hp hs).2.2.2.2 y hy)).2
theorem ext_made (g : IsGrp n zs e) (h : IsGrp m ys d) (hp : ∀ p, p ∈ ps → p.1 < n ∧ p.2 < m) (hs : ext n zs e m ys d ps = some S) {x : Nat} : x ∈ S.2 ↔ Mkd n zs e (fun x => decide (x ∈ ps.map Prod.fst)) x := by
  obtain ⟨r1, r2, r3, r4, r5⟩ := ext_grow g h hp hs
  constructor
  · intro hx
    have := r5 x hx
    clear hx
    induction this with
    | one => exact (Fin.Gen.sg _).one
    | mul hw hpm ih =>
      rename_i y p
      have hy : y < n := r1.lt y (wd_mul g h hp hs r2 hw).1
      exact (Fin.Gen.sg _).mul _ _ (List.mem_range.2 hy) (List.mem_range.2 (hp p hpm).1) ih (Fin.Gen.base (List.mem_range.2 (hp p hpm).1) (decide_eq_true (List.mem_map.2 ⟨p, hpm, rfl⟩)))
  · intro hx
    refine Fin.Gen.least (P := fun x => x ∈ S.2) ⟨r2, fun a b _ _ ha hb => (ext_mul g h hp hs ha hb).1⟩ (fun y hy hY => ?_) hx
    obtain ⟨p, hpm, rfl⟩ := List.mem_map.1 (of_decide_eq_true hY)
    have := (r4 e r2 p hpm).1
    rwa [g.left p.1 (hp p hpm).1] at this
theorem ext_at (g : IsGrp n zs e) (h : IsGrp m ys d) (hp : ∀ p, p ∈ ps → p.1 < n ∧ p.2 < m) (hs : ext n zs e m ys d ps = some S) {p : Nat × Nat} (hpm : p ∈ ps) : vl S p.1 = p.2 := by
  obtain ⟨r1, r2, r3, r4, _⟩ := ext_grow g h hp hs
  have := (r4 e r2 p hpm).2
  rw [g.left p.1 (hp p hpm).1, r3] at this
  unfold vl
  rw [this, Int.toNat_natCast, Int.toNat_natCast, h.left p.2 (hp p hpm).2]
/-- Where the makers make all, it is a homomorphism. -/
theorem ext_hom (g : IsGrp n zs e) (h : IsGrp m ys d) (hp : ∀ p, p ∈ ps → p.1 < n ∧ p.2 < m) (hs : ext n zs e m ys d ps = some S) (hall : ∀ a, a < n → Mkd n zs e (fun x => decide (x ∈ ps.map Prod.fst)) a) : IsHom n zs m ys (vl S) ∧ S.1 = li ((List.range n).map (vl S)) := by
  obtain ⟨r1, _⟩ := ext_grow g h hp hs
  have hin : ∀ a, a < n → a ∈ S.2 := fun a ha => (ext_made g h hp hs).2 (hall a ha)
  refine ⟨⟨fun a ha => (r1.vl (hin a ha)).2, fun a b ha hb => (ext_mul g h hp hs (hin a ha) (hin b hb)).2⟩, ?_⟩
  apply List.ext_getElem
  · rw [r1.len]; simp [li]
  · intro i h1 h2
    rw [r1.len] at h1
    have := (r1.vl (hin i h1)).1
    rw [List.getElem?_eq_getElem (by rw [r1.len]; exact h1), Option.getD_some] at this
    rw [this]
    simp [li]
/-- Where there is a homomorphism, the search ends well, and finds it. -/
theorem exS_hom (h : XI n m S) (ht : IsTab n zs) (H : IsHom n zs m ys φ) {a : Nat} {p : Nat × Nat} (ha : a ∈ S.2) (h1 : p.1 < n) (hφ : φ p.1 = p.2) (hv : ∀ x, x ∈ S.2 → S.1[x]?.getD 0 = (φ x : Int)) : ∃ S', exS n zs m ys a S p = some S' ∧ ∀ x, x ∈ S'.2 → S'.1[x]?.getD 0 = (φ x : Int) := by
  have hc := tm_lt ht (h.lt a ha) h1
  have hval : (tm m ys (S.1[a]?.getD 0).toNat p.2 : Int) = (φ (tm n zs a p.1) : Int) := by rw [hv a ha, Int.toNat_natCast, H.mul a p.1 (h.lt a ha) h1, hφ]
  by_cases hm : S.1[tm n zs a p.1]?.getD 0 = -1
  · refine ⟨_, if_pos hm, fun x hx => ?_⟩
    show (S.1.set _ _)[x]?.getD 0 = _
    rw [get_set (by rw [h.len]; exact hc)]
    by_cases he : x = tm n zs a p.1
    · rw [if_pos he, hval, he]
    · rw [if_neg he]
      rcases List.mem_append.1 hx with hx | hx
      · exact hv x hx
      · simp at hx; exact absurd hx he
  · have hin : tm n zs a p.1 ∈ S.2 := by
      by_cases hin : tm n zs a p.1 ∈ S.2
      · exact hin
      · exact absurd (h.no _ hc hin) hm
    refine ⟨S, ?_, hv⟩
    unfold exS
    rw [if_neg hm, if_pos (by rw [hval]; exact hv _ hin)]
theorem exI_hom (ht : IsTab n zs) (hu : IsTab m ys) (H : IsHom n zs m ys φ) {a : Nat} : ∀ (ps : List (Nat × Nat)) {S : List Int × List Nat}, XI n m S → a ∈ S.2 → (∀ p, p ∈ ps → p.1 < n ∧ p.2 < m ∧ φ p.1 = p.2) → (∀ x, x ∈ S.2 → S.1[x]?.getD 0 = (φ x : Int)) → ∃ S', exI n zs m ys a ps S = some S' ∧ ∀ x, x ∈ S'.2 → S'.1[x]?.getD 0 = (φ x : Int)
  | [], S, h, ha, hp, hv => ⟨S, rfl, hv⟩
  | p :: ps, S, h, ha, hp, hv => by
    obtain ⟨h1, h2, h3⟩ := hp p (by simp)
    obtain ⟨T, hT, hvT⟩ := exS_hom h ht H ha h1 h3 hv
    obtain ⟨g1, _, _⟩ := exS_grow h ht ha h1 hT
    have hX := (h.step hu ht ha h1 h2 hT).1
    obtain ⟨S', hS', hv'⟩ := exI_hom ht hu H ps hX (g1.mem ha) (fun q hq => hp q (by simp [hq])) hvT
    exact ⟨S', by simp only [exI, hT, hS'], hv'⟩
theorem exO_hom (ht : IsTab n zs) (hu : IsTab m ys) (H : IsHom n zs m ys φ) (hp : ∀ p, p ∈ ps → p.1 < n ∧ p.2 < m ∧ φ p.1 = p.2) : ∀ (f k : Nat) {S : List Int × List Nat}, XI n m S → (∀ x, x ∈ S.2 → S.1[x]?.getD 0 = (φ x : Int)) → ∃ S', exO n zs m ys ps f k S = some S' ∧ ∀ x, x ∈ S'.2 → S'.1[x]?.getD 0 = (φ x : Int)
  | 0, k, S, h, hv => ⟨S, rfl, hv⟩
  | f + 1, k, S, h, hv => by
    cases hk : S.2[k]? with
    | none => exact ⟨S, by simp only [exO, hk], hv⟩
    | some a =>
      have ha : a ∈ S.2 := List.mem_of_getElem? hk
      obtain ⟨T, hT, hvT⟩ := exI_hom ht hu H ps h ha hp hv
      obtain ⟨r1, _⟩ := exI_grow ht hu ps h ha (fun p hq => ⟨(hp p hq).1, (hp p hq).2.1⟩) hT
      obtain ⟨S', hS', hv'⟩ := exO_hom ht hu H hp f (k + 1) r1 hvT
      exact ⟨S', by simp only [exO, hk, hT, hS'], hv'⟩
theorem ext_of_hom (g : IsGrp n zs e) (h : IsGrp m ys d) (H : IsHom n zs m ys φ) (hp : ∀ p, p ∈ ps → p.1 < n ∧ φ p.1 = p.2) : ∃ S, ext n zs e m ys d ps = some S ∧ ∀ x, x ∈ S.2 → S.1[x]?.getD 0 = (φ x : Int) :=
  exO_hom g.tab h.tab H (fun p hq => ⟨(hp p hq).1, by rw [← (hp p hq).2]; exact H.lt _ (hp p hq).1, (hp p hq).2⟩) n 0 (XI.start g.elt h.elt) (fun x hx => by
    have : x = e := by simpa [ex0] using hx
    subst this
    show ((List.replicate n (-1 : Int)).set x (d : Int))[x]?.getD 0 = _
    rw [get_set (by simpa using g.elt), if_pos rfl, IsHom.one g h H])
end
end Go.Proofs.YtmgengplfebmjaaDoor

namespace Go.Proofs.YtmgengplfebmjaaDoor
open Go Go.RowKit

section
variable {n e m d : Nat} {zs ys : List Int} {ks : List Nat} {fit : List Int → Bool} {FP : (Nat → Nat) → Prop}
theorem li_map_inj {φ ψ : Nat → Nat} (h : li ((List.range n).map φ) = li ((List.range n).map ψ)) {a : Nat} (ha : a < n) : φ a = ψ a := by
  have := congrArg (fun l : List Int => l[a]?.getD 0) h
  simp [li, ha] at this
  omega
theorem zip_mem {ks js : List Nat} (hl : js.length ≤ ks.length) {p : Nat × Nat} (hp : p ∈ (ks.take js.length).zip js) : ∃ i, ∃ h : i < js.length, p = (ks[i]'(by omega), js[i]) := by
  obtain ⟨i, hi, he⟩ := List.mem_iff_getElem.1 hp
  have hi2 : i < js.length := by rw [List.length_zip] at hi; omega
  refine ⟨i, hi2, ?_⟩
  rw [← he]
  simp
theorem zip_fst {ks js : List Nat} (hl : js.length ≤ ks.length) : ((ks.take js.length).zip js).map Prod.fst = ks.take js.length := List.map_fst_zip (by rw [List.length_take]; omega)
/-- Which lists all yields: the homomorphisms that fit, and in which the images stand for the makers. -/
theorem homF_mem (g : IsGrp n zs e) (h : IsGrp m ys d) (hk : ∀ k, k ∈ ks → k < n) (hall : ∀ a, a < n → Mkd n zs e (fun x => decide (x ∈ ks)) a)
    (h1 : ∀ φ S (ps : List (Nat × Nat)), IsHom n zs m ys φ → FP φ → (∀ p, p ∈ ps → p.1 < n ∧ φ p.1 = p.2) → ext n zs e m ys d ps = some S → fit S.1 = true)
    (h2 : ∀ φ, IsHom n zs m ys φ → fit (li ((List.range n).map φ)) = true → FP φ) :
    ∀ (f : Nat) (js : List Nat) (L : List Int), js.length ≤ ks.length → ks.length + 1 ≤ f + js.length → (∀ j, j ∈ js → j < m) →
      (L ∈ homF n zs e m ys d ks fit f js ↔ ∃ φ, IsHom n zs m ys φ ∧ FP φ ∧ L = li ((List.range n).map φ) ∧ ∀ i (hi : i < js.length) (hi2 : i < ks.length), φ ks[i] = js[i])
  | 0, js, L, hl, hf, hj => by omega
  | f + 1, js, L, hl, hf, hj => by
    have hp : ∀ p, p ∈ (ks.take js.length).zip js → p.1 < n ∧ p.2 < m := fun p hp => by
      obtain ⟨i, hi, rfl⟩ := zip_mem hl hp
      exact ⟨hk _ (List.getElem_mem _), hj _ (List.getElem_mem _)⟩
    constructor
    · intro hL
      cases hR : ext n zs e m ys d ((ks.take js.length).zip js) with
      | none => rw [homF_none hR] at hL; cases hL
      | some S =>
        cases hfit : fit S.1 with
        | false => rw [homF_unfit hR hfit] at hL; cases hL
        | true =>
          by_cases hle : js.length = ks.length
          · rw [homF_full hR hfit hle] at hL
            have hL : L = S.1 := by simpa using hL
            obtain ⟨H, hS⟩ := ext_hom g h hp hR (by rw [zip_fst hl, hle, List.take_length]; exact hall)
            refine ⟨vl S, H, h2 _ H (by rw [← hS]; exact hfit), by rw [hL]; exact hS, fun i hi hi2 => ?_⟩
            have hm : (ks[i], js[i]) ∈ (ks.take js.length).zip js := by
              rw [hle, List.take_length]
              exact List.mem_iff_getElem.2 ⟨i, by rw [List.length_zip]; omega, by simp⟩
            exact ext_at g h hp hR hm
          · rw [homF_on hR hfit hle] at hL
            obtain ⟨b, hb, hL⟩ := List.mem_flatMap.1 hL
            obtain ⟨φ, H, hF, hLe, hag⟩ := (homF_mem g h hk hall h1 h2 f (js ++ [b]) L (by simp; omega) (by simp; omega) (fun j hjm => by
              rcases List.mem_append.1 hjm with hjm | hjm
              · exact hj j hjm
              · simp at hjm; rw [hjm]; exact List.mem_range.1 hb)).1 hL
            refine ⟨φ, H, hF, hLe, fun i hi hi2 => ?_⟩
            have := hag i (by simp; omega) hi2
            rwa [List.getElem_append_left hi] at this
    · rintro ⟨φ, H, hF, rfl, hag⟩
      have hpφ : ∀ p, p ∈ (ks.take js.length).zip js → p.1 < n ∧ φ p.1 = p.2 := fun p hp => by
        obtain ⟨i, hi, rfl⟩ := zip_mem hl hp
        exact ⟨hk _ (List.getElem_mem _), hag i hi (by omega)⟩
      obtain ⟨S, hR, hv⟩ := ext_of_hom g h H hpφ
      have hfit := h1 φ S _ H hF hpφ hR
      by_cases hle : js.length = ks.length
      · rw [homF_full hR hfit hle]
        obtain ⟨_, hS⟩ := ext_hom g h hp hR (by rw [zip_fst hl, hle, List.take_length]; exact hall)
        obtain ⟨r1, _⟩ := ext_grow g h hp hR
        have hin : ∀ a, a < n → a ∈ S.2 := fun a ha => (ext_made g h hp hR).2 (by rw [zip_fst hl, hle, List.take_length]; exact hall a ha)
        have : li ((List.range n).map φ) = S.1 := by
          rw [hS]
          unfold li
          rw [List.map_map, List.map_map]
          refine List.map_congr_left fun a ha => ?_
          have ha := List.mem_range.1 ha
          have h9 := hv a (hin a ha)
          show (φ a : Int) = (vl S a : Int)
          unfold vl
          omega
        rw [this]
        simp
      · rw [homF_on hR hfit hle]
        have hkl : js.length < ks.length := by omega
        refine List.mem_flatMap.2 ⟨φ ks[js.length], List.mem_range.2 (H.lt _ (hk _ (List.getElem_mem _))), ?_⟩
        refine (homF_mem g h hk hall h1 h2 f (js ++ [φ ks[js.length]]) _ (by simp; omega) (by simp; omega) (fun j hjm => by
          rcases List.mem_append.1 hjm with hjm | hjm
          · exact hj j hjm
          · simp at hjm; rw [hjm]; exact H.lt _ (hk _ (List.getElem_mem _)))).2 ⟨φ, H, hF, rfl, fun i hi hi2 => ?_⟩
        by_cases hij : i < js.length
        · rw [List.getElem_append_left hij]; exact hag i hij hi2
        · have : i = js.length := by simp at hi; omega
          subst this
          simp
theorem nodup_flat {F : Nat → List (List Int)} : ∀ k, (∀ b, b < k → (F b).Nodup) → (∀ b c L, b < k → c < k → L ∈ F b → L ∈ F c → b = c) → ((List.range k).flatMap F).Nodup
  | 0, _, _ => by simp
  | k + 1, h1, h2 => by
    rw [List.range_succ, List.flatMap_append]
    refine List.nodup_append.2 ⟨nodup_flat k (fun b hb => h1 b (by omega)) (fun b c L hb hc => h2 b c L (by omega) (by omega)), by simpa using h1 k (by omega), fun x hx y hy he => ?_⟩
    subst he
    obtain ⟨b, hb, hx⟩ := List.mem_flatMap.1 hx
    have hy : x ∈ F k := by simpa using hy
    have hb := List.mem_range.1 hb
    have := h2 b k x (by omega) (by omega) hx hy
    omega
/-- Each once. -/
theorem homF_nodup (g : IsGrp n zs e) (h : IsGrp m ys d) (hk : ∀ k, k ∈ ks → k < n) (hall : ∀ a, a < n → Mkd n zs e (fun x => decide (x ∈ ks)) a)
    (h1 : ∀ φ S (ps : List (Nat × Nat)), IsHom n zs m ys φ → FP φ → (∀ p, p ∈ ps → p.1 < n ∧ φ p.1 = p.2) → ext n zs e m ys d ps = some S → fit S.1 = true)
    (h2 : ∀ φ, IsHom n zs m ys φ → fit (li ((List.range n).map φ)) = true → FP φ) :
    ∀ (f : Nat) (js : List Nat), js.length ≤ ks.length → ks.length + 1 ≤ f + js.length → (∀ j, j ∈ js → j < m) → (homF n zs e m ys d ks fit f js).Nodup
  | 0, js, hl, hf, hj => by omega
  | f + 1, js, hl, hf, hj => by
    cases hR : ext n zs e m ys d ((ks.take js.length).zip js) with
    | none => rw [homF_none hR]; simp
    | some S =>
      cases hfit : fit S.1 with
      | false => rw [homF_unfit hR hfit]; simp
      | true =>
        by_cases hle : js.length = ks.length
        · rw [homF_full hR hfit hle]; simp
        · rw [homF_on hR hfit hle]
          have hkl : js.length < ks.length := by omega
          have hjb : ∀ b, b < m → ∀ j, j ∈ js ++ [b] → j < m := fun b hb j hjm => by
            rcases List.mem_append.1 hjm with hjm | hjm
            · exact hj j hjm
            · simp at hjm; rw [hjm]; exact hb
          refine nodup_flat m (fun b hb => homF_nodup g h hk hall h1 h2 f (js ++ [b]) (by simp; omega) (by simp; omega) (hjb b hb)) (fun b c L hb hc hLb hLc => ?_)
          obtain ⟨φ, _, _, e1, a1⟩ := (homF_mem g h hk hall h1 h2 f (js ++ [b]) L (by simp; omega) (by simp; omega) (hjb b hb)).1 hLb
          obtain ⟨ψ, _, _, e2, a2⟩ := (homF_mem g h hk hall h1 h2 f (js ++ [c]) L (by simp; omega) (by simp; omega) (hjb c hc)).1 hLc
          have h9 := a1 js.length (by simp) hkl
          have h8 := a2 js.length (by simp) hkl
          have h7 := li_map_inj (e1.symm.trans e2) (hk _ (List.getElem_mem hkl))
          simp at h9 h8
          omega
end
end Go.Proofs.YtmgengplfebmjaaDoor

namespace Go.Proofs.YtmgengplfebmjaaDoor
open Go Go.RowKit

section
variable {n m d : Nat} {ys : List Int} {ks : List Nat}
/-- The table of adding, modulo n. -/
def rngT (n : Nat) : List Int := mkT n (fun a b => (a + b) % n)
theorem rng_grp (h1 : 1 ≤ n) (h2 : n ≤ 60) : IsGrp n (rngT n) 0 := by
  refine grp_mk h1 h2 (fun a b _ _ => Nat.mod_lt _ (by omega)) (by omega) (fun a ha => ?_) (fun a ha => ?_) (fun a b c ha hb hc => ?_) (fun a ha => ?_)
  · show (0 + a) % n = a
    rw [Nat.zero_add]; exact Nat.mod_eq_of_lt ha
  · show (a + 0) % n = a
    rw [Nat.add_zero]; exact Nat.mod_eq_of_lt ha
  · show ((a + b) % n + c) % n = (a + (b + c) % n) % n
    rw [Nat.mod_add_mod, Nat.add_mod_mod, Nat.add_assoc]
  · refine ⟨(n - a) % n, Nat.mod_lt _ (by omega), ?_⟩
    show (a + (n - a) % n) % n = 0
    rw [Nat.add_mod_mod, show a + (n - a) = n by omega, Nat.mod_self]
theorem rng_tm {a b : Nat} (ha : a < n) (hb : b < n) : tm n (rngT n) a b = (a + b) % n := tm_mk ha hb
theorem hom_pow (h1 : 1 ≤ n) (h2 : n ≤ 60) (h : IsGrp m ys d) {φ : Nat → Nat} (H : IsHom n (rngT n) m ys φ) : ∀ k, k < n → φ k = pw m ys d (φ (1 % n)) k
  | 0, _ => IsHom.one (rng_grp h1 h2) h H
  | k + 1, hk => by
    have hm1 : 1 % n = 1 := Nat.mod_eq_of_lt (by omega)
    have h9 := H.mul k 1 (by omega) (by omega)
    rw [rng_tm (by omega) (by omega), Nat.mod_eq_of_lt hk] at h9
    rw [h9, hom_pow h1 h2 h H k (by omega), hm1]
    rfl
theorem pw_modn (h : IsGrp m ys d) {c : Nat} (hc : c < m) (hd : n % ordN m ys d c = 0) (x : Nat) : pw m ys d c (x % n) = pw m ys d c x := by
  obtain ⟨k, hk⟩ := Nat.dvd_of_mod_eq_zero hd
  have hn : ∀ q, pw m ys d c (n * q) = d := fun q => by rw [hk, Nat.mul_assoc]; exact pw_ord_mul h hc _
  have := pw_add h hc (n * (x / n)) (x % n)
  rw [Nat.div_add_mod, hn, h.left _ (pw_lt h hc _)] at this
  exact this.symm
theorem pow_hom (h : IsGrp m ys d) {c : Nat} (hc : c < m) (hd : n % ordN m ys d c = 0) : IsHom n (rngT n) m ys (pw m ys d c) ∧ pw m ys d c (1 % n) = c := by
  refine ⟨⟨fun a _ => pw_lt h hc a, fun a b ha hb => by rw [rng_tm ha hb, pw_modn h hc hd, pw_add h hc]⟩, ?_⟩
  rw [pw_modn h hc hd]
  show tm m ys d c = c
  exact h.left c hc
theorem hom_div (h1 : 1 ≤ n) (h2 : n ≤ 60) (h : IsGrp m ys d) {φ : Nat → Nat} (H : IsHom n (rngT n) m ys φ) : n % ordN m ys d (φ (1 % n)) = 0 := by
  have hl := H.lt (1 % n) (Nat.mod_lt _ (by omega))
  refine Nat.mod_eq_zero_of_dvd (ord_dvd h hl ?_)
  obtain ⟨k, rfl⟩ : ∃ k, n = k + 1 := ⟨n - 1, by omega⟩
  have h9 := H.mul k (1 % (k + 1)) (by omega) (Nat.mod_lt _ (by omega))
  rw [rng_tm (by omega) (Nat.mod_lt _ (by omega)), Nat.add_mod_mod, Nat.mod_self, IsHom.one (rng_grp h1 h2) h H, hom_pow h1 h2 h H k (by omega)] at h9
  exact h9.symm
/-- All that is yielded for a cyclic group. -/
theorem cyc_many (h1 : 1 ≤ n) (h2 : n ≤ 60) (h : IsGrp m ys d) (hk : ∀ k, k ∈ ks → k < n) (hall : ∀ a, a < n → Mkd n (rngT n) 0 (fun x => decide (x ∈ ks)) a) :
    (homF n (rngT n) 0 m ys d ks (fun _ => true) (ks.length + 1) []).length = (lst m (fun a => decide (n % ordN m ys d a = 0))).length := by
  have hmem := fun L => homF_mem (fit := fun _ => true) (FP := fun _ => True) (rng_grp h1 h2) h hk hall (fun _ _ _ _ _ _ _ => rfl) (fun _ _ _ => trivial) (ks.length + 1) [] L (by simp) (by simp) (by simp)
  have hnd := homF_nodup (fit := fun _ => true) (FP := fun _ => True) (rng_grp h1 h2) h hk hall (fun _ _ _ _ _ _ _ => rfl) (fun _ _ _ => trivial) (ks.length + 1) [] (by simp) (by simp) (by simp)
  generalize homF n (rngT n) 0 m ys d ks (fun _ => true) (ks.length + 1) [] = Ls at *
  have h1n : 1 % n < n := Nat.mod_lt _ (by omega)
  have hval : ∀ φ : Nat → Nat, ((li ((List.range n).map φ))[1 % n]?.getD 0).toNat = φ (1 % n) := fun φ => by simp [li, h1n]
  rw [show Ls.length = (Ls.map fun L => (L[1 % n]?.getD 0).toNat).length by rw [List.length_map]]
  refine Fin.bij_len id ?_ (List.nodup_range.sublist List.filter_sublist) (fun c hc => ?_) (fun _ _ _ _ h => h) (fun c hc => ?_)
  · refine List.pairwise_map.2 (hnd.imp_of_mem ?_)
    intro L L' hL hL' hne heq
    obtain ⟨φ, H, _, rfl, _⟩ := (hmem L).1 hL
    obtain ⟨ψ, H', _, rfl, _⟩ := (hmem L').1 hL'
    rw [hval, hval] at heq
    refine hne ?_
    unfold li
    rw [List.map_map, List.map_map]
    refine List.map_congr_left fun a ha => ?_
    have ha := List.mem_range.1 ha
    show (φ a : Int) = (ψ a : Int)
    rw [hom_pow h1 h2 h H a ha, hom_pow h1 h2 h H' a ha, heq]
  · obtain ⟨L, hL, rfl⟩ := List.mem_map.1 hc
    obtain ⟨φ, H, _, rfl, _⟩ := (hmem L).1 hL
    rw [hval]
    exact mem_lst.2 ⟨H.lt _ h1n, decide_eq_true (hom_div h1 h2 h H)⟩
  · obtain ⟨hcm, hcd⟩ := mem_lst.1 hc
    obtain ⟨H, he⟩ := pow_hom h hcm (of_decide_eq_true hcd)
    refine ⟨c, List.mem_map.2 ⟨_, (hmem _).2 ⟨_, H, trivial, rfl, fun i hi => by simp at hi⟩, ?_⟩, rfl⟩
    rw [hval, he]
end
end Go.Proofs.YtmgengplfebmjaaDoor

namespace Go.Proofs.YtmgengplfebmjaaDoor
open Go Go.RowKit

theorem rng_get {n a b : Nat} (ha : a < n) (hb : b < n) : (rngT n)[a * n + b]?.getD 0 = (((a + b) % n : Nat) : Int) := by
  obtain ⟨e1, e2⟩ := dm' (a := a) hb
  unfold rngT
  rw [mkT_get (place_lt ha hb), e1, e2]
set_option maxRecDepth 100000 in
set_option maxHeartbeats 8000000 in
theorem ring_ok (n : Nat) (w : World) (hn1 : 1 ≤ n) (hn : n ≤ 60) :
    Calls Tryd.prog 45 #[.int .i64 n] w fun x w' => ∃ r, x = .returned (.agg #[.int .i64 n, r]) ∧ Row w' w.heap.size r (rngT n) ∧ Below w.heap.size w w' := by
  obtain ⟨i0, hi, hz0, hz1, hz2⟩ := info_parts info3b
  obtain ⟨T, hT⟩ : ∃ T, T = rngT n := ⟨_, rfl⟩
  have HTL := hide (show T.length = n * n by rw [hT]; exact mkT_len _ _)
  have HTG := hide (fun a b (ha : a < n) (hb : b < n) => show T[a * n + b]?.getD 0 = (((a + b) % n : Nat) : Int) by rw [hT]; exact rng_get ha hb)
  rw [← hT]
  clear hT
  have hnn : n * n ≤ 3600 := Nat.mul_le_mul hn hn
  have HNN := hide hnn
  clear hnn
  have hB0 : Below w.heap.size w ((w.alloc (.cells #[.int .i64 0, .slice none 0 0] 24)).alloc (.cells #[.int .i64 n, .slice none 0 0] 24)) := (balloc w _).alloc (by simp) _
  have hR0 : Blk ((w.alloc (.cells #[.int .i64 0, .slice none 0 0] 24)).alloc (.cells #[.int .i64 n, .slice none 0 0] 24)) w.heap.size 24 [.int .i64 0, .slice none 0 0] := (blk0 _ _).alloc _
  have hX0 : Blk ((w.alloc (.cells #[.int .i64 0, .slice none 0 0] 24)).alloc (.cells #[.int .i64 n, .slice none 0 0] 24)) (w.heap.size + 1) 24 [.int .i64 n, .slice none 0 0] := by
    have := blk0 (w := w.alloc (.cells #[.int .i64 0, .slice none 0 0] 24)) (T := 24) (.int .i64 n) (.slice none 0 0)
    rwa [World.size_alloc] at this
  go_enter Tryd.func45, Tryd.ntmps45
  go_wp2
  go_loopw [4] (fun i wr => ∃ (a : Nat) (r : Value), a ≤ n ∧ i = .int .i64 a ∧ Row wr (w.heap.size + 1 + 1) r (T.take (a * n)) ∧ Blk wr w.heap.size 24 [.int .i64 0, .slice none 0 0] ∧ Blk wr (w.heap.size + 1) 24 [.int .i64 n, r] ∧ Below w.heap.size w wr) (fun i _ => n - (intOf i).toNat)
  case atStart => exact ⟨0, .slice none 0 0, by omega, rfl, by simpa using nil_row _ _, hR0, hX0, hB0⟩
  case round =>
    obtain ⟨a, r, ha, rfl, hrow, hR, hX, hB⟩ := hrel
    clear hR0 hX0 hB0
    by_cases hlta : a < n
    · have hai : (a : Int) < (n : Int) := by omega
      go_wp2
      go_loopw [5] (fun i wr => ∃ (b : Nat) (r : Value), b ≤ n ∧ i = .int .i64 b ∧ Row wr (w.heap.size + 1 + 1) r (T.take (a * n + b)) ∧ Blk wr w.heap.size 24 [.int .i64 0, .slice none 0 0] ∧ Blk wr (w.heap.size + 1) 24 [.int .i64 n, r] ∧ Below w.heap.size w wr) (fun i _ => n - (intOf i).toNat)
      case atStart => exact ⟨0, r, by omega, rfl, hrow, hR, hX, hB⟩
      case round =>
        obtain ⟨b, r', hb, rfl, hrow', hR', hX', hB'⟩ := hrel
        clear hrow hR hX hB
        by_cases hltb : b < n
        · have hbi : (b : Int) < (n : Int) := by omega
          have HV := hide (HTG.out a b hlta hltb)
          have hpl : a * n + b < n * n := place_lt hlta hltb
          have hlen : (T.take (a * n + b)).length = a * n + b := by rw [List.length_take, HTL.out]; omega
          have hsn : T.take (a * n + (b + 1)) = T.take (a * n + b) ++ [(((a + b) % n : Nat) : Int)] := by
            rw [← Nat.add_assoc, take_snoc' (by rw [HTL.out]; exact hpl), HV.out]
          have HSN := hide hsn
          have HLL := hide (show (T.take (a * n + b)).length ≤ 3600 by have := HNN.out; omega)
          have hown : wr.ownsRow (w.heap.size + 1 + 1) 3 1 r' (T.take (a * n + b)).length ((T.take (a * n + b)).map (Value.int .i64)) := hrow'
          clear hsn hlen hrow' HV hpl
          generalize T.take (a * n + b) = xs at *
          obtain ⟨q9, hq9⟩ : ∃ q9 : Nat, (a + b) % n = q9 := ⟨_, rfl⟩
          rw [hq9] at HSN
          have hwp : IntKind.i64.wrap ((a : Int) + (b : Int)) = (a : Int) + (b : Int) := by rw [IntKind.wrap_i64]; omega
          have hrm : ((a : Int) + (b : Int)).tmod (n : Int) = (q9 : Int) := by rw [← hq9]; exact tmod_nat n (by omega)
          have hqn : q9 < n := by rw [← hq9]; exact Nat.mod_lt _ (by omega)
          have hwq : IntKind.i64.wrap (q9 : Int) = (q9 : Int) := by rw [IntKind.wrap_i64]; omega
          have hn0 : ¬ n = 0 := by omega
          have hn0i : ¬ (n : Int) = 0 := by omega
          clear hq9
          obtain ⟨rx, rcap, rfl⟩ := own_slice hown
          obtain ⟨x0, x1, fx0, fx1⟩ := hX'.two
          have hs2 := hX'.lt
          go_wp2_with fail
          have hS0 : (fun W => Below w.heap.size w W) wr.drew := bdrew hB'
          refine wp_region_held_drew (S := (fun W => Below w.heap.size w W)) (by kernel_rfl) hS0 (fun hHeld => ?_)
          refine wpAnyH_take (i := 0) (oi := ({ dst := some 18, op := Go.Op.fieldAddr 24 (Go.Operand.tmp 3) 1, type := 0, pos := _, after := #[], guard := none } : Oper)) (v := ?_) rfl (by kernel_rfl) (by kernel_rfl) (by kernel_rfl) (fun _ _ _ h => h) (Or.inl ⟨by rfl, ?_⟩) (by assumption) ?_
          rotate_left
          · (intro w hSw; (try dsimp only at hSw); go_simp; try with_reducible rfl)
          simp only [Act.put, List.setIfInBounds_toArray, List.set_cons_zero, List.set_cons_succ]
          refine wpAnyH_take (i := 2) (oi := ({ dst := some 20, op := Go.Op.move (Go.Operand.tmp 4), type := 3, pos := _, after := #[], guard := none } : Oper)) (v := ?_) rfl (by kernel_rfl) (by kernel_rfl) (by kernel_rfl) (fun _ _ _ h => h) (Or.inl ⟨by rfl, ?_⟩) (by assumption) ?_
          rotate_left
          · (intro w hSw; (try dsimp only at hSw); go_simp; try with_reducible rfl)
          simp only [Act.put, List.setIfInBounds_toArray, List.set_cons_zero, List.set_cons_succ]
          refine wpAnyH_take (i := 3) (oi := ({ dst := some 21, op := Go.Op.move (Go.Operand.tmp 5), type := 3, pos := _, after := #[], guard := none } : Oper)) (v := ?_) rfl (by kernel_rfl) (by kernel_rfl) (by kernel_rfl) (fun _ _ _ h => h) (Or.inl ⟨by rfl, ?_⟩) (by assumption) ?_
          rotate_left
          · (intro w hSw; (try dsimp only at hSw); go_simp; try with_reducible rfl)
          simp only [Act.put, List.setIfInBounds_toArray, List.set_cons_zero, List.set_cons_succ]
          refine wpAnyH_take (i := 4) (oi := ({ dst := some 22, op := Go.Op.binOp Go.BinOp.add 3 (Go.Operand.tmp 20) (Go.Operand.tmp 21) 3, type := 3, pos := _, after := #[{ on := 2, ground := Go.Ground.data }, { on := 3, ground := Go.Ground.data }], guard := none } : Oper)) (v := ?_) rfl (by kernel_rfl) (by kernel_rfl) (by kernel_rfl) (fun _ _ _ h => h) (Or.inl ⟨by rfl, ?_⟩) (by assumption) ?_
          rotate_left
          · (intro w hSw; (try dsimp only at hSw); go_simp; try with_reducible rfl)
          simp only [Act.put, List.setIfInBounds_toArray, List.set_cons_zero, List.set_cons_succ]
          refine wpAnyH_take (i := 5) (oi := ({ dst := some 23, op := Go.Op.move (Go.Operand.tmp 0), type := 3, pos := _, after := #[], guard := none } : Oper)) (v := ?_) rfl (by kernel_rfl) (by kernel_rfl) (by kernel_rfl) (fun _ _ _ h => h) (Or.inl ⟨by rfl, ?_⟩) (by assumption) ?_
          rotate_left
          · (intro w hSw; (try dsimp only at hSw); go_simp; try with_reducible rfl)
          simp only [Act.put, List.setIfInBounds_toArray, List.set_cons_zero, List.set_cons_succ]
          refine wpAnyH_take (i := 6) (oi := ({ dst := some 24, op := Go.Op.binOp Go.BinOp.rem 3 (Go.Operand.tmp 22) (Go.Operand.tmp 23) 3, type := 3, pos := _, after := #[{ on := 4, ground := Go.Ground.data }, { on := 5, ground := Go.Ground.data }], guard := none } : Oper)) (v := ?_) rfl (by kernel_rfl) (by kernel_rfl) (by kernel_rfl) (fun _ _ _ h => h) (Or.inl ⟨by rfl, ?_⟩) (by assumption) ?_
          rotate_left
          · (intro w hSw; (try dsimp only at hSw); go_simp; try with_reducible rfl)
          simp only [Act.put, List.setIfInBounds_toArray, List.set_cons_zero, List.set_cons_succ]
          refine wpAnyH_ready (rs := [1, 7]) (by kernel_rfl) (by simp) (AllReadyH.cons (o := ({ dst := some 19, op := Go.Op.load 22 (Go.Operand.tmp 18), type := 22, pos := _, after := #[{ on := 0, ground := Go.Ground.data }], guard := none } : Oper)) rfl (fun K hK => ?_) (AllReadyH.cons (o := ({ dst := some 25, op := Go.Op.buildSlice 22 1 #[(0, Go.Operand.tmp 24)], type := 22, pos := _, after := #[{ on := 6, ground := Go.Ground.data }], guard := none } : Oper)) rfl (fun K hK => ?_) AllReadyH.nil))
          · go_simp
            refine hK.out _ _ hHeld (fun hHeld => ?_)
            clear hK
            try simp only [Act.put, List.setIfInBounds_toArray, List.set_cons_zero, List.set_cons_succ]
            refine wpAnyH_ready (rs := [7]) (by kernel_rfl) (by simp) (AllReadyH.cons (o := ({ dst := some 25, op := Go.Op.buildSlice 22 1 #[(0, Go.Operand.tmp 24)], type := 22, pos := _, after := #[{ on := 6, ground := Go.Ground.data }], guard := none } : Oper)) rfl (fun K hK => ?_) AllReadyH.nil)
            go_simp
            refine hK.out _ _ (show Below w.heap.size w (wr.drew.alloc (.cells #[.int .i64 (q9 : Int)] 3)) from (bdrew hB').alloc (bdrew hB').size _) (fun hHeld => ?_)
            clear hK
            try simp only [Act.put, List.setIfInBounds_toArray, List.set_cons_zero, List.set_cons_succ]
            refine wpAnyH_ready (rs := [8]) (by kernel_rfl) (by simp) (AllReadyH.cons (o := ({ dst := some 26, op := Go.Op.call { callee := Go.Callee.builtin Go.Builtin.append, args := #[Go.Operand.tmp 19, Go.Operand.tmp 25], argTypes := #[22, 22] }, type := 22, pos := _, after := #[{ on := 1, ground := Go.Ground.data }, { on := 7, ground := Go.Ground.data }], guard := none } : Oper)) rfl (fun K hK => ?_) AllReadyH.nil)
            refine step_append_lies _ rfl _ _ 22 rfl (w.heap.size + 1 + 1) 3 i0 (.int .i64 0) 1 8 under22b hi hz0 hz1 hz2 rfl (by decide) _ _ _ rfl (World.ownsRow.alloc hown _) ⟨wr.heap.size, 0, none⟩ 1 1 [.int .i64 q9] rfl rfl (cell_one_new _ _ _) (by simp [Value.oneCell']) (by decide) (by unfold maxLen; have := HLL.out; omega) (by have := HLL.out; omega) (by simp; omega) _ rfl ?_
            intro g9 cap9 w9 hown9 hgrow hloc _
            have hk9 : ∀ k, k < w.heap.size + 1 + 1 → w9.heap[k]? = wr.heap[k]? := fun k hk => (hgrow.block k (by simp; omega) (fun e9 => by have := owns_ge hown k e9.symm; omega)).trans (Below.heap_alloc _ _ k (show k < wr.heap.size by omega))
            have hX9 : Blk w9 (w.heap.size + 1) 24 [.int .i64 n, .slice rx xs.length rcap] := hX'.of_eq (hk9 _ (by omega))
            have hR9 : Blk w9 w.heap.size 24 [.int .i64 0, .slice none 0 0] := hR'.of_eq (hk9 _ (by omega))
            have hcw := hX9.two.2.1
            have hfw := hX9.two.2.2.2
            have hB9 : Below w.heap.size w w9 := ((bdrew hB').alloc (bdrew hB').size _).grown hgrow (by have := hB'.size; simp; omega) (fun t e9 => by have := owns_ge hown t e9; omega)
            have hB3 := hB9.setCell (p := ⟨w.heap.size + 1, 1, none⟩) (by simp) (.slice (some ⟨g9, 0, none⟩) (xs.length + 1) cap9)
            refine hK.out _ _ hB9 (fun hHeld => ?_)
            clear hK
            try simp only [Act.put, List.setIfInBounds_toArray, List.set_cons_zero, List.set_cons_succ]
            refine wpAnyH_take (i := 9) (oi := ({ dst := some 27, op := Go.Op.fieldAddr 24 (Go.Operand.tmp 3) 1, type := 0, pos := _, after := #[{ on := 0, ground := Go.Ground.phase }, { on := 1, ground := Go.Ground.phase }, { on := 2, ground := Go.Ground.phase }, { on := 3, ground := Go.Ground.phase }, { on := 4, ground := Go.Ground.phase }, { on := 5, ground := Go.Ground.phase }, { on := 6, ground := Go.Ground.phase }, { on := 7, ground := Go.Ground.phase }, { on := 8, ground := Go.Ground.phase }], guard := none } : Oper)) (v := ?_) rfl (by kernel_rfl) (by kernel_rfl) (by kernel_rfl) (fun _ _ _ h => h) (Or.inl ⟨by rfl, ?_⟩) (by assumption) ?_
            rotate_left
            · (intro w hSw; (try dsimp only at hSw); go_simp; try with_reducible rfl)
            simp only [Act.put, List.setIfInBounds_toArray, List.set_cons_zero, List.set_cons_succ]
            refine wpAnyH_ready (rs := [10]) (by kernel_rfl) (by simp) (AllReadyH.cons (o := ({ dst := none, op := Go.Op.store 22 (Go.Operand.tmp 27) (Go.Operand.tmp 26), type := 0, pos := _, after := #[{ on := 9, ground := Go.Ground.data }, { on := 8, ground := Go.Ground.data }, { on := 8, ground := Go.Ground.chain }, { on := 0, ground := Go.Ground.phase }, { on := 1, ground := Go.Ground.phase }, { on := 2, ground := Go.Ground.phase }, { on := 3, ground := Go.Ground.phase }, { on := 4, ground := Go.Ground.phase }, { on := 5, ground := Go.Ground.phase }, { on := 6, ground := Go.Ground.phase }, { on := 7, ground := Go.Ground.phase }, { on := 8, ground := Go.Ground.phase }], guard := none } : Oper)) rfl (fun K hK => ?_) AllReadyH.nil)
            go_simp
            refine hK.out _ _ hB3 (fun hHeld => ?_)
            clear hK
            try simp only [Act.put, List.setIfInBounds_toArray, List.set_cons_zero, List.set_cons_succ]
            refine wpAnyH_done (by kernel_rfl) ?_ _
            have hX3 := hX9.set 1 (.slice (some ⟨g9, 0, none⟩) (xs.length + 1) cap9)
            have hR3 := hR9.other (p := ⟨w.heap.size + 1, 1, none⟩) (by simp) (.slice (some ⟨g9, 0, none⟩) (xs.length + 1) cap9)
            have hrow9 : Row w9 (w.heap.size + 1 + 1) (.slice (some ⟨g9, 0, none⟩) (xs.length + 1) cap9) (T.take (a * n + (b + 1))) := by
              unfold Row
              rw [HSN.out]
              simpa using hown9
            have hrow3 := row_keep (W' := w9.setCell ⟨w.heap.size + 1, 1, none⟩ (.slice (some ⟨g9, 0, none⟩) (xs.length + 1) cap9)) hrow9 (fun g h1 _ => Below.heap_setCell _ _ _ g (by simp; omega))
            clear hown9 hgrow hown hrow9 hk9 hloc
            go_wp2
            go_roundw
            case rel => exact ⟨b + 1, _, by omega, by go_num, hrow3, hR3, hX3, hB3⟩
            case measure => simp [intOf]; omega
          · go_simp
            refine hK.out _ _ (show Below w.heap.size w (wr.drew.alloc (.cells #[.int .i64 (q9 : Int)] 3)) from (bdrew hB').alloc (bdrew hB').size _) (fun hHeld => ?_)
            clear hK
            try simp only [Act.put, List.setIfInBounds_toArray, List.set_cons_zero, List.set_cons_succ]
            refine wpAnyH_ready (rs := [1]) (by kernel_rfl) (by simp) (AllReadyH.cons (o := ({ dst := some 19, op := Go.Op.load 22 (Go.Operand.tmp 18), type := 22, pos := _, after := #[{ on := 0, ground := Go.Ground.data }], guard := none } : Oper)) rfl (fun K hK => ?_) AllReadyH.nil)
            have x1a := (Blk.alloc (show Blk wr.drew (w.heap.size + 1) 24 [.int .i64 n, .slice rx xs.length rcap] from hX') (.cells #[.int .i64 q9] 3)).two.2.1
            go_simp
            refine hK.out _ _ hHeld (fun hHeld => ?_)
            clear hK
            try simp only [Act.put, List.setIfInBounds_toArray, List.set_cons_zero, List.set_cons_succ]
            refine wpAnyH_ready (rs := [8]) (by kernel_rfl) (by simp) (AllReadyH.cons (o := ({ dst := some 26, op := Go.Op.call { callee := Go.Callee.builtin Go.Builtin.append, args := #[Go.Operand.tmp 19, Go.Operand.tmp 25], argTypes := #[22, 22] }, type := 22, pos := _, after := #[{ on := 1, ground := Go.Ground.data }, { on := 7, ground := Go.Ground.data }], guard := none } : Oper)) rfl (fun K hK => ?_) AllReadyH.nil)
            refine step_append_lies _ rfl _ _ 22 rfl (w.heap.size + 1 + 1) 3 i0 (.int .i64 0) 1 8 under22b hi hz0 hz1 hz2 rfl (by decide) _ _ _ rfl (World.ownsRow.alloc hown _) ⟨wr.heap.size, 0, none⟩ 1 1 [.int .i64 q9] rfl rfl (cell_one_new _ _ _) (by simp [Value.oneCell']) (by decide) (by unfold maxLen; have := HLL.out; omega) (by have := HLL.out; omega) (by simp; omega) _ rfl ?_
            intro g9 cap9 w9 hown9 hgrow hloc _
            have hk9 : ∀ k, k < w.heap.size + 1 + 1 → w9.heap[k]? = wr.heap[k]? := fun k hk => (hgrow.block k (by simp; omega) (fun e9 => by have := owns_ge hown k e9.symm; omega)).trans (Below.heap_alloc _ _ k (show k < wr.heap.size by omega))
            have hX9 : Blk w9 (w.heap.size + 1) 24 [.int .i64 n, .slice rx xs.length rcap] := hX'.of_eq (hk9 _ (by omega))
            have hR9 : Blk w9 w.heap.size 24 [.int .i64 0, .slice none 0 0] := hR'.of_eq (hk9 _ (by omega))
            have hcw := hX9.two.2.1
            have hfw := hX9.two.2.2.2
            have hB9 : Below w.heap.size w w9 := ((bdrew hB').alloc (bdrew hB').size _).grown hgrow (by have := hB'.size; simp; omega) (fun t e9 => by have := owns_ge hown t e9; omega)
            have hB3 := hB9.setCell (p := ⟨w.heap.size + 1, 1, none⟩) (by simp) (.slice (some ⟨g9, 0, none⟩) (xs.length + 1) cap9)
            refine hK.out _ _ hB9 (fun hHeld => ?_)
            clear hK
            try simp only [Act.put, List.setIfInBounds_toArray, List.set_cons_zero, List.set_cons_succ]
            refine wpAnyH_take (i := 9) (oi := ({ dst := some 27, op := Go.Op.fieldAddr 24 (Go.Operand.tmp 3) 1, type := 0, pos := _, after := #[{ on := 0, ground := Go.Ground.phase }, { on := 1, ground := Go.Ground.phase }, { on := 2, ground := Go.Ground.phase }, { on := 3, ground := Go.Ground.phase }, { on := 4, ground := Go.Ground.phase }, { on := 5, ground := Go.Ground.phase }, { on := 6, ground := Go.Ground.phase }, { on := 7, ground := Go.Ground.phase }, { on := 8, ground := Go.Ground.phase }], guard := none } : Oper)) (v := ?_) rfl (by kernel_rfl) (by kernel_rfl) (by kernel_rfl) (fun _ _ _ h => h) (Or.inl ⟨by rfl, ?_⟩) (by assumption) ?_
            rotate_left
            · (intro w hSw; (try dsimp only at hSw); go_simp; try with_reducible rfl)
            simp only [Act.put, List.setIfInBounds_toArray, List.set_cons_zero, List.set_cons_succ]
            refine wpAnyH_ready (rs := [10]) (by kernel_rfl) (by simp) (AllReadyH.cons (o := ({ dst := none, op := Go.Op.store 22 (Go.Operand.tmp 27) (Go.Operand.tmp 26), type := 0, pos := _, after := #[{ on := 9, ground := Go.Ground.data }, { on := 8, ground := Go.Ground.data }, { on := 8, ground := Go.Ground.chain }, { on := 0, ground := Go.Ground.phase }, { on := 1, ground := Go.Ground.phase }, { on := 2, ground := Go.Ground.phase }, { on := 3, ground := Go.Ground.phase }, { on := 4, ground := Go.Ground.phase }, { on := 5, ground := Go.Ground.phase }, { on := 6, ground := Go.Ground.phase }, { on := 7, ground := Go.Ground.phase }, { on := 8, ground := Go.Ground.phase }], guard := none } : Oper)) rfl (fun K hK => ?_) AllReadyH.nil)
            go_simp
            refine hK.out _ _ hB3 (fun hHeld => ?_)
            clear hK
            try simp only [Act.put, List.setIfInBounds_toArray, List.set_cons_zero, List.set_cons_succ]
            refine wpAnyH_done (by kernel_rfl) ?_ _
            have hX3 := hX9.set 1 (.slice (some ⟨g9, 0, none⟩) (xs.length + 1) cap9)
            have hR3 := hR9.other (p := ⟨w.heap.size + 1, 1, none⟩) (by simp) (.slice (some ⟨g9, 0, none⟩) (xs.length + 1) cap9)
            have hrow9 : Row w9 (w.heap.size + 1 + 1) (.slice (some ⟨g9, 0, none⟩) (xs.length + 1) cap9) (T.take (a * n + (b + 1))) := by
              unfold Row
              rw [HSN.out]
              simpa using hown9
            have hrow3 := row_keep (W' := w9.setCell ⟨w.heap.size + 1, 1, none⟩ (.slice (some ⟨g9, 0, none⟩) (xs.length + 1) cap9)) hrow9 (fun g h1 _ => Below.heap_setCell _ _ _ g (by simp; omega))
            clear hown9 hgrow hown hrow9 hk9 hloc
            go_wp2
            go_roundw
            case rel => exact ⟨b + 1, _, by omega, by go_num, hrow3, hR3, hX3, hB3⟩
            case measure => simp [intOf]; omega
        · have hbi : ¬ (b : Int) < (n : Int) := by omega
          have hbn : b = n := by omega
          have hrow8 : Row wr (w.heap.size + 1 + 1) r' (T.take ((a + 1) * n)) := by rw [Nat.add_mul, Nat.one_mul]; rw [hbn] at hrow'; exact hrow'
          clear hbn hrow'
          go_wp2
          go_roundw
          case rel => exact ⟨a + 1, r', by omega, by go_num, hrow8, hR', hX', hB'⟩
          case measure => simp [intOf]; omega
    · have hai : ¬ (a : Int) < (n : Int) := by omega
      have han : a = n := by omega
      have hTT : T.take (a * n) = T := List.take_of_length_le (by rw [HTL.out, han]; exact Nat.le_refl _)
      rw [hTT] at hrow
      clear hTT han
      have hown : wr.ownsRow (w.heap.size + 1 + 1) 3 1 r T.length (T.map (Value.int .i64)) := hrow
      obtain ⟨rx, rcap, rfl⟩ := own_slice hown
      obtain ⟨x0, x1, fx0, fx1⟩ := hX.two
      obtain ⟨r0, r1, fr0, fr1⟩ := hR.two
      have hR8 : Blk ((wr.setCell ⟨w.heap.size, 0, none⟩ (.int .i64 n)).setCell ⟨w.heap.size, 1, none⟩ (.slice rx T.length rcap)) w.heap.size 24 [.int .i64 n, .slice rx T.length rcap] := (hR.set 0 _).set 1 _
      have hB8 := (hB.setCell (p := ⟨w.heap.size, 0, none⟩) (by simp) (.int .i64 n)).setCell (p := ⟨w.heap.size, 1, none⟩) (by simp) (.slice rx T.length rcap)
      have hrow8 := owns_mono (row_keep (W' := (wr.setCell ⟨w.heap.size, 0, none⟩ (.int .i64 n)).setCell ⟨w.heap.size, 1, none⟩ (.slice rx T.length rcap)) hrow (fun g h1 _ => by rw [Below.heap_setCell _ _ _ g (by simp; omega), Below.heap_setCell _ _ _ g (by simp; omega)])) (show w.heap.size ≤ w.heap.size + 1 + 1 by omega)
      clear hown hrow
      go_wp2
      generalize (wr.setCell ⟨w.heap.size, 0, none⟩ (.int .i64 n)).setCell ⟨w.heap.size, 1, none⟩ (.slice rx T.length rcap) = W at hR8 hB8 hrow8 ⊢
      obtain ⟨z0, z1, _, _⟩ := hR8.two
      exact bodyPost_ret (v := .agg #[.int .i64 n, .slice rx T.length rcap]) (by simp [results, Tryd.results45, go_sem, z0, z1]) rfl ⟨_, rfl, hrow8, hB8⟩
end Go.Proofs.YtmgengplfebmjaaDoor

namespace Go.Proofs.YtmgengplfebmjaaDoor
open Go Go.RowKit

theorem call73 (a : Value) (W : World) : Sem.run Tryd.prog (callFunc 73 (#[a] ++ #[])) W = .ok (.enter 73 (#[a] ++ #[])) W := by kernel_rfl
theorem fit_true (mv : Value) (w : World) : Calls Tryd.prog 73 (#[mv] ++ #[]) w fun x w' => x = .returned (.bool true) ∧ Below w.heap.size w w' := by
  show Calls Tryd.prog 73 #[mv] w _
  go_enter Tryd.func73, Tryd.ntmps73
  go_wp2
  go_ret
  exact ⟨rfl, Below.refl _ _⟩
set_option maxRecDepth 100000 in
set_option maxHeartbeats 8000000 in
theorem hall_good (n e m d : Nat) (v y : Value) (zs ys : List Int) (w : World) (hv : Sl w v zs) (hg : IsGrp n zs e) (hy : Sl w y ys) (hh : IsGrp m ys d) (hT : Tab w) (h24 : n ≤ 24) (h24' : m ≤ 24) (hmany : ∀ ks, LM n zs e ks → (∀ a, a < n → Mkd n zs e (fun x => decide (x ∈ ks)) a) → (homF n zs e m ys d ks (fun _ => true) (ks.length + 1) []).length ≤ 1000) :
    Calls Tryd.prog 28 #[.agg #[.int .i64 n, v], .agg #[.int .i64 m, y]] w fun x w' => ∃ (ks : List Nat) (r : Value) (vs : List Value), x = .returned (.tuple #[r, .agg #[.int .i64 0, .int .i64 0]]) ∧ LM n zs e ks ∧ (∀ a, a < n → Mkd n zs e (fun x => decide (x ∈ ks)) a) ∧ w'.ownsRow w.heap.size 22 1 r vs.length vs ∧ Lsts w' w.heap.size r vs (homF n zs e m ys d ks (fun _ => true) (ks.length + 1) []) ∧ Below w.heap.size w w' := by
  obtain ⟨va, vl, vc, rfl⟩ := hv.isSlice
  obtain ⟨ya, yl, yc, rfl⟩ := hy.isSlice
  have hn := hg.tab.le
  obtain ⟨w0, BG⟩ := BegF.new w n m (.slice va vl vc) (.slice ya yl yc)
  have HCK := hide (pair_good n e m d (.slice va vl vc) (.slice ya yl yc) zs ys w0 (hv.below BG.bel) hg (hy.below BG.bel) hh)
  obtain ⟨c0, c1, _, _⟩ := BG.box.two
  obtain ⟨d0, d1, _, _⟩ := BG.boy.two
  rw [BG.eq] at c0 c1 d0 d1
  go_enter Tryd.func28, Tryd.ntmps28
  go_wp2_with fail
  rw [← BG.eq]
  clear c0 c1 d0 d1
  refine HCK.out.mono ?_
  rintro x w1 ⟨iv9, jv9, rfl, hSI, hSJ, hb1⟩
  obtain ⟨ia, il, ic, rfl⟩ := hSI.sl.isSlice
  obtain ⟨ja, jl, jc, rfl⟩ := hSJ.sl.isSlice
  obtain ⟨w2, hw2⟩ : ∃ w2, w2 = (w1.alloc (.cells #[.int .i64 n, .slice va vl vc, .int .i64 e, .slice ia il ic, .int .i64 m, .slice ya yl yc, .int .i64 d, .slice ja jl jc] 83)).alloc (.cells #[.int .i64 0, .int .i64 0] 27) := ⟨_, rfl⟩
  have hb2 : Below w1.heap.size w1 w2 := by rw [hw2]; exact (balloc w1 _).alloc (by simp) _
  have hB1 : Below w0.heap.size w0 w2 := bcat2 hb1 hb2
  have hF1 : Blk w2 (w1.heap.size + 1) 27 [.int .i64 0, .int .i64 0] := by
    rw [hw2]
    have := blk0 (w := w1.alloc (.cells #[.int .i64 n, .slice va vl vc, .int .i64 e, .slice ia il ic, .int .i64 m, .slice ya yl yc, .int .i64 d, .slice ja jl jc] 83)) (T := 27) (.int .i64 0) (.int .i64 0)
    rwa [World.size_alloc] at this
  have hH2 : Blk w2 w1.heap.size 83 [.int .i64 n, .slice va vl vc, .int .i64 e, .slice ia il ic, .int .i64 m, .slice ya yl yc, .int .i64 d, .slice ja jl jc] := by
    rw [hw2]; exact Blk.alloc (World.alloc_heap_new _ _) _
  have hBw2 := bcat BG.bel hB1 BG.bel.size
  have hR2 := blk_below BG.res hB1
  have hX2 := blk_below BG.box hB1
  have hY2 := blk_below BG.boy hB1
  have hGA : GA w2 n (.slice va vl vc) e (.slice ia il ic) zs := ⟨hg, hv.below hBw2, hSI.sl.below hb2⟩
  have HLM := hide (fun W (h : Below w2.heap.size w2 W) => lm_ok' n e (.slice va vl vc) (.slice ia il ic) zs W (hGA.below h) ((hT.below hBw2).below h))
  have HSG := hide (fun W k1 k2 k3 => allf_ok n e m d (.slice va vl vc) (.slice ia il ic) (.slice ya yl yc) (.slice ja jl jc) k1 k2 k3 73 #[] W)
  have HLI := hide (fun (W : World) (ks : List Nat) (k1 : Option Addr) (k3 kb pb fb A : Nat) (h : Below w2.heap.size w2 W) (hk : Sl W (.slice k1 ks.length k3) (li ks)) (hLM : LM n zs e ks) (hgen : ∀ a, a < n → Mkd n zs e (fun x => decide (x ∈ ks)) a)
      (hA : Alls A W [.int .i64 n, .slice va vl vc, .int .i64 e, .slice ia il ic, .int .i64 m, .slice ya yl yc, .int .i64 d, .slice ja jl jc] (.slice k1 ks.length k3) (.func (.func 73) #[] #[]) kb pb fb) =>
    show Calls Tryd.prog 70 #[.func (.func 101) #[] #[.pointer (some ⟨kb, 0, none⟩), .pointer (some ⟨pb, 0, none⟩), .pointer (some ⟨fb, 0, none⟩)]] W (fun x w' => ∃ (r : Value) (vs : List Value), x = .returned (.tuple #[r, .agg #[.int .i64 0, .int .i64 0]]) ∧ w'.ownsRow W.heap.size 22 1 r vs.length vs ∧ Lsts w' W.heap.size r vs (homF n zs e m ys d ks (fun _ => true) (ks.length + 1) []) ∧ Below W.heap.size W w') from
      (listed_ok (f0 := 73) (fit := fun _ => true) hg hh (hGA.below h).mul ((hy.below hBw2).below h) hk hLM.lt hLM.fits hA (fun a W => call73 a W) (fun W9 g ms hW9 hb9 hl9 => fit_true _ W9)).mono (fun x w' hp => by
        obtain ⟨r, vs, h1, h2, h3⟩ := hp.ok (hmany ks hLM hgen)
        exact ⟨r, vs, h1, h2, h3, hp.bel⟩))
  obtain ⟨t0, t1, _, _⟩ := hF1.two
  obtain ⟨g0, g1, _, _⟩ := hX2.two
  obtain ⟨k0, k1, _, _⟩ := hY2.two
  rw [hw2] at t0 t1 g0 g1 k0 k1
  have hmx : ¬ ((24 : Int) < max (n : Int) (m : Int)) := by omega
  clear hmany
  go_wp2_with fail
  rw [← hw2]
  clear hw2 t0 t1 g0 g1 k0 k1
  have hS : ∀ W9, Below w2.heap.size w2 W9 → ((fun W9 => Below w2.heap.size w2 W9 ∧ W9.cell? ⟨w1.heap.size, 0, none⟩ = some (.int .i64 n) ∧ W9.cell? ⟨w1.heap.size, 1, none⟩ = some (.slice va vl vc) ∧ W9.cell? ⟨w1.heap.size, 2, none⟩ = some (.int .i64 e) ∧ W9.cell? ⟨w1.heap.size, 3, none⟩ = some (.slice ia il ic) ∧ W9.cell? ⟨w1.heap.size, 4, none⟩ = some (.int .i64 m) ∧ W9.cell? ⟨w1.heap.size, 5, none⟩ = some (.slice ya yl yc) ∧ W9.cell? ⟨w1.heap.size, 6, none⟩ = some (.int .i64 d) ∧ W9.cell? ⟨w1.heap.size, 7, none⟩ = some (.slice ja jl jc) ∧ W9.cell? ⟨w.heap.size + 1 + 1, 0, none⟩ = some (.int .i64 0) ∧ W9.cell? ⟨w.heap.size + 1 + 1, 1, none⟩ = some (.int .i64 0) ∧ W9.frozen? ⟨w.heap.size + 1 + 1, 0, none⟩ = false ∧ W9.frozen? ⟨w.heap.size + 1 + 1, 1, none⟩ = false ∧ W9.setCell ⟨w.heap.size + 1 + 1, 0, none⟩ (.int .i64 0) = W9 ∧ W9.setCell ⟨w.heap.size + 1 + 1, 1, none⟩ (.int .i64 0) = W9) W9) := fun W9 h => by
    obtain ⟨_, h0, h1, h2, h3, h4, h5, h6, h7⟩ := Eight.mk' hH2
    obtain ⟨y0, y1, fy0, fy1⟩ := (blk_below hR2 h).two
    obtain ⟨s0, s1⟩ := (blk_below hR2 h).self
    exact ⟨h, below_cell h h0, below_cell h h1, below_cell h h2, below_cell h h3, below_cell h h4, below_cell h h5, below_cell h h6, below_cell h h7, y0, y1, fy0, fy1, s0, s1⟩
  have hS0 := hS _ (bdrew (Below.refl _ w2))
  go_region_held3 (fun W9 => Below w2.heap.size w2 W9 ∧ W9.cell? ⟨w1.heap.size, 0, none⟩ = some (.int .i64 n) ∧ W9.cell? ⟨w1.heap.size, 1, none⟩ = some (.slice va vl vc) ∧ W9.cell? ⟨w1.heap.size, 2, none⟩ = some (.int .i64 e) ∧ W9.cell? ⟨w1.heap.size, 3, none⟩ = some (.slice ia il ic) ∧ W9.cell? ⟨w1.heap.size, 4, none⟩ = some (.int .i64 m) ∧ W9.cell? ⟨w1.heap.size, 5, none⟩ = some (.slice ya yl yc) ∧ W9.cell? ⟨w1.heap.size, 6, none⟩ = some (.int .i64 d) ∧ W9.cell? ⟨w1.heap.size, 7, none⟩ = some (.slice ja jl jc) ∧ W9.cell? ⟨w.heap.size + 1 + 1, 0, none⟩ = some (.int .i64 0) ∧ W9.cell? ⟨w.heap.size + 1 + 1, 1, none⟩ = some (.int .i64 0) ∧ W9.frozen? ⟨w.heap.size + 1 + 1, 0, none⟩ = false ∧ W9.frozen? ⟨w.heap.size + 1 + 1, 1, none⟩ = false ∧ W9.setCell ⟨w.heap.size + 1 + 1, 0, none⟩ (.int .i64 0) = W9 ∧ W9.setCell ⟨w.heap.size + 1 + 1, 1, none⟩ (.int .i64 0) = W9)
    (first | exact hS0 | assumption | exact hS _ (bcat2 (And.left ‹_›) hl3) | exact hS _ (bcat2 (And.left ‹_›) hl4) | exact hS _ (bcat2 (And.left ‹_›) hl5))
    (first
      | (go_at_call 72; refine (HLM.out _ (And.left ‹_›)).mono ?_; rintro e3 w3 ⟨ks, k1, k3, rfl, hK3, hLM, hgen, hl3⟩)
      | (go_at_call 71; refine (HSG.out _ _ _ _).mono ?_; rintro e4 w4 ⟨kb, pb, fb, rfl, hA4, hl4⟩)
      | (go_at_call 70; refine (HLI.out _ ks _ _ _ _ _ _ (And.left ‹_›) (hK3.below hl4) hLM hgen hA4).mono ?_; rintro e5 w5 ⟨r, vs, rfl, hrow5, hls5, hl5⟩))
  obtain ⟨hB5, _, _, _, _, _, _, _, _, y0, y1, _⟩ := ‹Below w2.heap.size w2 w5 ∧ _›
  have hwb := hBw2.size
  have hw24 : w2.heap.size ≤ w4.heap.size := Nat.le_trans hl3.size hl4.size
  go_wp2
  exact bodyPost_ret (v := .tuple #[r, .agg #[.int .i64 0, .int .i64 0]]) (by simp [results, Tryd.results28, go_sem, y0, y1]) rfl ⟨ks, r, vs, rfl, hLM, hgen, owns_mono hrow5 (by omega), hls5.mono (by omega), bcat2 hBw2 hB5⟩
end Go.Proofs.YtmgengplfebmjaaDoor

namespace Go.Proofs.YtmgengplfebmjaaDoor
open Go Go.RowKit

section
variable {n e m d : Nat} {zs ys : List Int} {ps : List (Nat × Nat)} {M0 M : List Int} {again : Bool} {a i : Nat}
/-- How many are not known yet. -/
def neg (M : List Int) : Nat := (M.filter fun x => decide (x < 0)).length
theorem neg_set : ∀ {M : List Int} {c : Nat} {z : Int}, c < M.length → M[c]?.getD 0 < 0 → 0 ≤ z → neg (M.set c z) < neg M
  | [], c, z, h, _, _ => by simp at h
  | x :: M, 0, z, h, h1, h2 => by
    have h1 : x < 0 := by simpa using h1
    simp only [neg, List.set_cons_zero, List.filter_cons, decide_eq_true h1, if_true, List.length_cons]
    rw [if_neg (by simp; omega)]
    omega
  | x :: M, c + 1, z, h, h1, h2 => by
    have h9 := neg_set (M := M) (c := c) (z := z) (by simpa using h) (by simpa using h1) h2
    simp only [neg] at h9
    simp only [neg, List.set_cons_succ, List.filter_cons]
    split <;> simp <;> omega
/-- A homomorphism in which images stand for makers. -/
def Leads (n : Nat) (zs : List Int) (m : Nat) (ys : List Int) (ps : List (Nat × Nat)) (φ : Nat → Nat) : Prop := IsHom n zs m ys φ ∧ ∀ p, p ∈ ps → φ p.1 = p.2
/-- How the document's search stands. -/
structure Spd (n : Nat) (zs : List Int) (e m : Nat) (ys : List Int) (d : Nat) (ps : List (Nat × Nat)) (M0 M : List Int) (again : Bool) (a i : Nat) : Prop where
  len : M.length = n
  val : ∀ x, x < n → M[x]?.getD 0 = -1 ∨ (0 ≤ M[x]?.getD 0 ∧ M[x]?.getD 0 < m)
  one : M[e]?.getD 0 = d
  hom : ∀ φ, Leads n zs m ys ps φ → ∀ x, x < n → 0 ≤ M[x]?.getD 0 → M[x]?.getD 0 = (φ x : Int)
  more : again = true → neg M < neg M0
  same : again = false → M = M0
  done : again = false → ∀ x k p, x < n → ps[k]? = some p → (x < a ∨ (x = a ∧ k < i)) → 0 ≤ M[x]?.getD 0 → M[tm n zs p.1 x]?.getD 0 = (tm m ys p.2 (M[x]?.getD 0).toNat : Int)
theorem Spd.start (h : Spd n zs e m ys d ps M0 M again a i) : Spd n zs e m ys d ps M M false 0 0 :=
  ⟨h.len, h.val, h.one, h.hom, fun h => (by cases h), fun _ => rfl, fun _ _ _ _ _ _ h => by omega⟩
theorem Spd.begin (g : IsGrp n zs e) (h : IsGrp m ys d) : Spd n zs e m ys d ps ((List.replicate n (-1)).set e (d : Int)) ((List.replicate n (-1)).set e (d : Int)) false 0 0 := by
  have hat : ∀ x, x < n → ((List.replicate n (-1 : Int)).set e (d : Int))[x]?.getD 0 = if x = e then (d : Int) else -1 := fun x hx => by
    rw [get_set (by simpa using g.elt)]
    split
    · rfl
    · simp [hx]
  refine ⟨by simp, fun x hx => ?_, by rw [hat e g.elt, if_pos rfl], fun φ hφ x hx h0 => ?_, fun h => (by cases h), fun _ => rfl, fun _ _ _ _ _ _ h => by omega⟩
  · rw [hat x hx]
    have := h.elt
    split
    · right; omega
    · left; rfl
  · rw [hat x hx] at h0 ⊢
    split at h0
    · rename_i he
      subst he
      rw [if_pos rfl, IsHom.one g h hφ.1]
    · omega
theorem Spd.skip (h : Spd n zs e m ys d ps M0 M again a i) (hno : ∀ p, ps[i]? = some p → 0 ≤ M[a]?.getD 0 → M[tm n zs p.1 a]?.getD 0 = (tm m ys p.2 (M[a]?.getD 0).toNat : Int)) : Spd n zs e m ys d ps M0 M again a (i + 1) :=
  ⟨h.len, h.val, h.one, h.hom, h.more, h.same, fun hag x k p hx hk hxk h1 => by
    by_cases e9 : x = a ∧ k = i
    · obtain ⟨rfl, rfl⟩ := e9; exact hno p hk h1
    · exact h.done hag x k p hx hk (by omega) h1⟩
theorem Spd.row (h : Spd n zs e m ys d ps M0 M again a i) (hi : ps.length ≤ i ∨ M[a]?.getD 0 < 0) : Spd n zs e m ys d ps M0 M again (a + 1) 0 :=
  ⟨h.len, h.val, h.one, h.hom, h.more, h.same, fun hag x k p hx hk hxk h1 => by
    have hkl := (List.getElem?_eq_some_iff.1 hk).1
    by_cases hxa : x = a
    · subst hxa; exact h.done hag x k p hx hk (by omega) h1
    · exact h.done hag x k p hx hk (by omega) h1⟩
theorem Leads.at {φ : Nat → Nat} (H : Leads n zs m ys ps φ) {p : Nat × Nat} (hp : p ∈ ps) (h1 : p.1 < n) (ha : a < n) : φ (tm n zs p.1 a) = tm m ys p.2 (φ a) := by
  rw [H.1.mul _ _ h1 ha, H.2 p hp]
theorem Spd.put (ht : IsTab n zs) (hu : IsTab m ys) (h : Spd n zs e m ys d ps M0 M again a i) {p : Nat × Nat} (hp : p ∈ ps) (h1 : p.1 < n) (h2 : p.2 < m) (ha : a < n) (h0 : 0 ≤ M[a]?.getD 0) (hn : M[tm n zs p.1 a]?.getD 0 < 0) : Spd n zs e m ys d ps M0 (M.set (tm n zs p.1 a) (tm m ys p.2 (M[a]?.getD 0).toNat : Int)) true a (i + 1) := by
  have hb := tm_lt ht h1 ha
  have hy : tm m ys p.2 (M[a]?.getD 0).toNat < m := tm_lt hu h2 (by have := h.val a ha; omega)
  have hat : ∀ x, (M.set (tm n zs p.1 a) (tm m ys p.2 (M[a]?.getD 0).toNat : Int))[x]?.getD 0 = if x = tm n zs p.1 a then (tm m ys p.2 (M[a]?.getD 0).toNat : Int) else M[x]?.getD 0 := fun x => get_set (by rw [h.len]; exact hb)
  refine ⟨by simp [h.len], fun x hx => ?_, ?_, fun φ H x hx h9 => ?_, fun _ => ?_, fun h => (by cases h), fun h => by cases h⟩
  · rw [hat]
    split
    · right; omega
    · exact h.val x hx
  · rw [hat, if_neg, h.one]
    intro he
    rw [← he, h.one] at hn
    omega
  · rw [hat] at h9 ⊢
    by_cases hx9 : x = tm n zs p.1 a
    · rw [if_pos hx9, hx9, H.at hp h1 ha]
      have := h.hom φ H a ha h0
      rw [this, Int.toNat_natCast]
    · rw [if_neg hx9] at h9 ⊢
      exact h.hom φ H x hx h9
  · have hl := neg_set (M := M) (c := tm n zs p.1 a) (z := (tm m ys p.2 (M[a]?.getD 0).toNat : Int)) (by rw [h.len]; exact hb) hn (by omega)
    cases hag : again
    · rw [← h.same hag]; exact hl
    · have := h.more hag; omega
theorem Spd.clash (ht : IsTab n zs) (h : Spd n zs e m ys d ps M0 M again a i) {p : Nat × Nat} (hp : p ∈ ps) (h1 : p.1 < n) (ha : a < n) (h0 : 0 ≤ M[a]?.getD 0) (hn : ¬ M[tm n zs p.1 a]?.getD 0 < 0) (hne : ¬ M[tm n zs p.1 a]?.getD 0 = (tm m ys p.2 (M[a]?.getD 0).toNat : Int)) (φ : Nat → Nat) : ¬ Leads n zs m ys ps φ := fun H => by
  have e1 := h.hom φ H a ha h0
  have e2 := h.hom φ H _ (tm_lt ht h1 ha) (by omega)
  apply hne
  rw [e2, H.at hp h1 ha, e1, Int.toNat_natCast]
theorem Spd.fin (g : IsGrp n zs e) (hh : IsGrp m ys d) (h : Spd n zs e m ys d ps M0 M false a i) (ha : n ≤ a) (hp : ∀ p, p ∈ ps → p.1 < n ∧ p.2 < m) (hall : ∀ x, x < n → Mkd n zs e (fun x => decide (x ∈ ps.map Prod.fst)) x) : ∃ φ, Leads n zs m ys ps φ ∧ M = li ((List.range n).map φ) := by
  let f : Nat → Nat := fun x => (M[x]?.getD 0).toNat
  have hfd : f e = d := by show (M[e]?.getD 0).toNat = d; rw [h.one]; simp
  have hfl : ∀ x, x < n → 0 ≤ M[x]?.getD 0 → f x < m ∧ M[x]?.getD 0 = (f x : Int) := fun x hx h0 => by
    have := h.val x hx
    show (M[x]?.getD 0).toNat < m ∧ M[x]?.getD 0 = ((M[x]?.getD 0).toNat : Int)
    omega
  have hst : ∀ p, p ∈ ps → ∀ x, x < n → 0 ≤ M[x]?.getD 0 → 0 ≤ M[tm n zs p.1 x]?.getD 0 ∧ f (tm n zs p.1 x) = tm m ys p.2 (f x) := fun p hpm x hx h0 => by
    obtain ⟨k, hk⟩ := List.mem_iff_getElem?.1 hpm
    have := h.done rfl x k p hx hk (by omega) h0
    refine ⟨by rw [this]; omega, ?_⟩
    show (M[tm n zs p.1 x]?.getD 0).toNat = _
    rw [this, Int.toNat_natCast]
  have hone : 0 ≤ M[e]?.getD 0 := by rw [h.one]; omega
  have hbase : ∀ p, p ∈ ps → 0 ≤ M[p.1]?.getD 0 ∧ f p.1 = p.2 := fun p hpm => by
    have h9 := hst p hpm e g.elt hone
    rw [g.right p.1 (hp p hpm).1, hfd, hh.right p.2 (hp p hpm).2] at h9
    exact h9
  have S : Fin.Sg (List.range n) (tm n zs) e (fun y => y ∈ List.range n → 0 ≤ M[y]?.getD 0 ∧ ∀ x, x < n → 0 ≤ M[x]?.getD 0 → 0 ≤ M[tm n zs y x]?.getD 0 ∧ f (tm n zs y x) = tm m ys (f y) (f x)) := by
    refine ⟨fun _ => ⟨hone, fun x hx h0 => ?_⟩, fun u v hu hv h1 h2 _ => ?_⟩
    · rw [g.left x hx, hfd, hh.left _ (hfl x hx h0).1]
      exact ⟨h0, rfl⟩
    · obtain ⟨u1, u2⟩ := h1 hu
      obtain ⟨v1, v2⟩ := h2 hv
      have hu := List.mem_range.1 hu
      have hv := List.mem_range.1 hv
      obtain ⟨p1, p2⟩ := u2 v hv v1
      refine ⟨p1, fun x hx h0 => ?_⟩
      obtain ⟨q1, q2⟩ := v2 x hx h0
      obtain ⟨r1, r2⟩ := u2 _ (tm_lt g.tab hv hx) q1
      rw [g.ass u v x hu hv hx]
      refine ⟨r1, ?_⟩
      rw [r2, q2, p2, hh.ass _ _ _ (hfl u hu u1).1 (hfl v hv v1).1 (hfl x hx h0).1]
  have hS : ∀ y, y < n → 0 ≤ M[y]?.getD 0 ∧ ∀ x, x < n → 0 ≤ M[x]?.getD 0 → 0 ≤ M[tm n zs y x]?.getD 0 ∧ f (tm n zs y x) = tm m ys (f y) (f x) := fun y hy => hall y hy _ S (fun z hz hq _ => by
    obtain ⟨p, hpm, rfl⟩ := List.mem_map.1 (of_decide_eq_true hq)
    refine ⟨(hbase p hpm).1, fun x hx h0 => ?_⟩
    rw [(hbase p hpm).2]
    exact hst p hpm x hx h0) (List.mem_range.2 hy)
  refine ⟨f, ⟨⟨fun x hx => (hfl x hx (hS x hx).1).1, fun x y hx hy => ((hS x hx).2 y hy (hS y hy).1).2⟩, fun p hpm => (hbase p hpm).2⟩, ?_⟩
  apply List.ext_getElem
  · rw [h.len]; simp [li]
  · intro j h1 h2
    rw [h.len] at h1
    have := (hfl j h1 (hS j h1).1).2
    rw [List.getElem?_eq_getElem (by rw [h.len]; exact h1), Option.getD_some] at this
    rw [this]
    simp [li]
end
end Go.Proofs.YtmgengplfebmjaaDoor

namespace Go.Proofs.YtmgengplfebmjaaDoor
open Go Go.RowKit

theorem rpl_set {x : Int} {n k : Nat} (h : k < n) : (rpl x n k).set k x = rpl x n (k + 1) := by
  unfold rpl
  rw [List.set_append_right _ _ (by simp)]
  obtain ⟨j, hj⟩ : ∃ j, n - k = j + 1 := ⟨n - k - 1, by omega⟩
  rw [hj, List.length_replicate, Nat.sub_self, List.replicate_succ, List.set_cons_zero, show n - (k + 1) = j by omega, List.replicate_succ' (n := k), List.append_assoc]
  rfl
/-- How many of a block's cells are below nought. -/
def cntN (ib : Nat) (W : World) : Nat := match W.heap[ib]? with
  | some (.cells c _ _) => (c.toList.filter fun v => match v with | .int _ z => decide (z < 0) | _ => false).length
  | _ => 0
theorem cntN_blk {ib : Nat} {M : List Int} {W : World} (h : Blk W ib 3 (M.map (Value.int .i64))) : cntN ib W = neg M := by
  unfold cntN
  rw [show W.heap[ib]? = _ from h]
  unfold neg
  simp only [List.filter_map, List.length_map]
  rfl
/-- What lies there all the while. -/
structure SdS (w wr : World) (n : Nat) (v : Value) (m : Nat) (y : Value) (M : List Int) : Prop where
  bg : BoxG wr w.heap.size n v
  bh : BoxG wr (w.heap.size + 1) m y
  mm : Blk wr (w.heap.size + 2) 3 (M.map (Value.int .i64))
  bel : Below w.heap.size w wr
section
variable {w wr : World} {n m : Nat} {v y : Value} {M : List Int}
theorem SdS.below {W : World} (h : SdS w wr n v m y M) (hb : Below wr.heap.size wr W) : SdS w W n v m y M := ⟨blk_below h.bg hb, blk_below h.bh hb, blk_below h.mm hb, bcat2 h.bel hb⟩
theorem SdS.put (h : SdS w wr n v m y M) (c : Nat) (i : Int) : SdS w (wr.setCell ⟨w.heap.size + 2, c, none⟩ (.int .i64 i)) n v m y (M.set c i) :=
  ⟨h.bg.other (p := ⟨w.heap.size + 2, c, none⟩) (by simp) _, h.bh.other (p := ⟨w.heap.size + 2, c, none⟩) (by simp) _, h.mm.setInt c i, h.bel.setCell (p := ⟨w.heap.size + 2, c, none⟩) (by simp) _⟩
theorem SdS.cells (h : SdS w wr n v m y M) : wr.cell? ⟨w.heap.size, 0, none⟩ = some (.int .i64 n) ∧ wr.cell? ⟨w.heap.size, 1, none⟩ = some v ∧ wr.cell? ⟨w.heap.size + 1, 0, none⟩ = some (.int .i64 m) ∧ wr.cell? ⟨w.heap.size + 1, 1, none⟩ = some y := ⟨h.bg.two.1, h.bg.two.2.1, h.bh.two.1, h.bh.two.2.1⟩
end
set_option maxRecDepth 100000 in
set_option maxHeartbeats 8000000 in
theorem spread_ok (n e m d : Nat) (v y kv iv : Value) (zs ys : List Int) (ps : List (Nat × Nat)) (w : World) (hg : IsGrp n zs e) (hh : IsGrp m ys d) (hv : Sl w v zs) (hy : Sl w y ys) (hk : Sl w kv (li (ps.map Prod.fst))) (hi : Sl w iv (li (ps.map Prod.snd))) (hp : ∀ p, p ∈ ps → p.1 < n ∧ p.2 < m) (hall : ∀ x, x < n → Mkd n zs e (fun x => decide (x ∈ ps.map Prod.fst)) x) :
    Calls Tryd.prog 24 #[.agg #[.int .i64 n, v], .agg #[.int .i64 m, y], kv, iv] w fun x w' => Below w.heap.size w w' ∧ ((x = .returned (.slice none 0 0) ∧ ∀ φ, ¬ Leads n zs m ys ps φ) ∨ ∃ φ g, Leads n zs m ys ps φ ∧ x = .returned (.slice (some ⟨g, 0, none⟩) n n) ∧ w.heap.size ≤ g ∧ Blk w' g 3 ((li ((List.range n).map φ)).map (Value.int .i64))) := by
  obtain ⟨i0, hi3, hz0, hz1, hz2⟩ := info_parts info3b
  have hn := hg.tab.le
  have hen := hg.elt
  have hdm := hh.elt
  have hm := hh.tab.le
  obtain ⟨w0, hw0⟩ : ∃ w0, w0 = (w.alloc (.cells #[.int .i64 n, v] 24)).alloc (.cells #[.int .i64 m, y] 24) := ⟨_, rfl⟩
  have hB0 : Below w.heap.size w w0 := by rw [hw0]; exact (balloc w _).alloc (by simp) _
  have hG0 : BoxG w0 w.heap.size n v := by rw [hw0]; exact Blk.alloc (blk0 _ _) _
  have hH0 : BoxG w0 (w.heap.size + 1) m y := by
    rw [hw0]
    have := blk0 (w := w.alloc (.cells #[.int .i64 n, v] 24)) (T := 24) (.int .i64 m) y
    rwa [World.size_alloc] at this
  have hs0 : w0.heap.size = w.heap.size + 2 := by rw [hw0]; simp
  obtain ⟨c0, c1, _, _⟩ := hG0.two
  have HE1 := hide (fun W (h : Below w.heap.size w W) => E_ok n v zs W hg.tab (hv.below h))
  have HE2 := hide (fun W (h : Below w.heap.size w W) => E_ok m y ys W hh.tab (hy.below h))
  rw [hg.one] at HE1
  rw [hh.one] at HE2
  have HM1 := hide (fun W a b (h : Below w.heap.size w W) (ha : a < n) (hb : b < n) => M_ok n v zs a b W hg.tab (hv.below h) ha hb)
  have HM2 := hide (fun W a b (h : Below w.heap.size w W) (ha : a < m) (hb : b < m) => M_ok m y ys a b W hh.tab (hy.below h) ha hb)
  obtain ⟨ka, kc, kb, ko, rfl, hkr, hkb, hk3, hk4⟩ := hk
  obtain ⟨ia, ic, ib, io, rfl, hir, hib, _, _⟩ := hi
  have hl1 : (li (ps.map Prod.fst)).length = ps.length := by rw [li_len, List.length_map]
  have hl2 : (li (ps.map Prod.snd)).length = ps.length := by rw [li_len, List.length_map]
  have hpl : ps.length ≤ 9223372036854775807 := by rw [hl1] at hk3; unfold maxLen at hk4; omega
  have HKA := hide (fun (h : 0 < ps.length) => hkr.at_ (by omega))
  have HIA := hide (fun (h : 0 < ps.length) => hir.at_ (by omega))
  have HKC := hide (fun j (h : j < ps.length) => show w.cell? ⟨kb, ko + j, none⟩ = some (.int .i64 (ps[j].1 : Int)) by
    have := hkr.cell j (by omega)
    rwa [li_get (by simpa using h), List.getElem_map] at this)
  have HIC := hide (fun j (h : j < ps.length) => show w.cell? ⟨ib, io + j, none⟩ = some (.int .i64 (ps[j].2 : Int)) by
    have := hir.cell j (by omega)
    rwa [li_get (by simpa using h), List.getElem_map] at this)
  rw [hl1, hl2] at *
  clear hkr hir hl1 hl2
  have HP := hide hp
  have HALL := hide hall
  have HBEG := hide (Spd.begin (ps := ps) hg hh)
  clear hp hall
  rw [hw0] at c0 c1
  go_enter Tryd.func24, Tryd.ntmps24
  go_wp2_with (first
    | (at_make; refine wpList_make_full _ rfl _ _ 22 rfl (w.heap.size + 2) 3 i0 (.int .i64 0) 1 under22b hi3 hz0 hz1 _ _ _ _ n rfl rfl rfl rfl (by rw [hz2]; omega) (by unfold maxLen; omega) (by simp) ?_))
  rw [← hw0]
  intro w2 hown hgr
  have hM2 : Blk w2 (w.heap.size + 2) 3 ((rpl (-1) n 0).map (Value.int .i64)) := by
    have := Blk.of_owns hown
    rw [made_rep] at this
    rw [rpl_map]
    simpa using this
  have hQ2 : SdS w w2 n v m y (rpl (-1) n 0) := ⟨hG0.grown hgr (by simp), hH0.grown hgr (by simp), hM2, hB0.grown hgr hB0.size (by simp)⟩
  clear hown hgr c0 c1 hG0 hH0 hB0 hM2 hw0 hs0
  go_wp2
  go_loopw [10] (fun i wr => ∃ k : Nat, k ≤ n ∧ i = .int .i64 k ∧ SdS w wr n v m y (rpl (-1) n k)) (fun i _ => n - (intOf i).toNat)
  case atStart => exact ⟨0, Nat.zero_le _, rfl, hQ2⟩
  case round =>
    obtain ⟨k, hk, rfl, hQ⟩ := hrel
    clear hQ2
    obtain ⟨c0, c1, c2, c3⟩ := hQ.cells
    by_cases hlt : k < n
    · have hki : (k : Int) < (n : Int) := by omega
      have hck := hQ.mm.int (y := k) (by rw [rpl_len hk]; exact hlt)
      have hfk := hQ.mm.frozen k
      have hP := hQ.put k (-1)
      rw [rpl_set hlt] at hP
      go_wp2
      go_roundw
      case rel => exact ⟨k + 1, by omega, by go_num, hP⟩
      case measure => simp [intOf]; omega
    · have hkn : n = k := by omega
      subst hkn
      have hrp : rpl (-1) n n = List.replicate n (-1) := by unfold rpl; simp
      rw [hrp] at hQ
      have hei : (e : Int) < (n : Int) := by omega
      have hS : ∀ U, Below wr.heap.size wr U → (Below w.heap.size w U ∧ U.cell? ⟨w.heap.size, 0, none⟩ = some (.int .i64 n) ∧ U.cell? ⟨w.heap.size, 1, none⟩ = some v ∧ U.cell? ⟨w.heap.size + 1, 0, none⟩ = some (.int .i64 m) ∧ U.cell? ⟨w.heap.size + 1, 1, none⟩ = some y) := fun U hU => ⟨(hQ.below hU).bel, (hQ.below hU).cells⟩
      have hS3 : ∀ U, Below wr.heap.size wr U → (Below w.heap.size w (U.setCell ⟨w.heap.size + 2, e, none⟩ (.int .i64 d)) ∧ (U.setCell ⟨w.heap.size + 2, e, none⟩ (.int .i64 d)).cell? ⟨w.heap.size, 0, none⟩ = some (.int .i64 n) ∧ (U.setCell ⟨w.heap.size + 2, e, none⟩ (.int .i64 d)).cell? ⟨w.heap.size, 1, none⟩ = some v ∧ (U.setCell ⟨w.heap.size + 2, e, none⟩ (.int .i64 d)).cell? ⟨w.heap.size + 1, 0, none⟩ = some (.int .i64 m) ∧ (U.setCell ⟨w.heap.size + 2, e, none⟩ (.int .i64 d)).cell? ⟨w.heap.size + 1, 1, none⟩ = some y) := fun U hU => ⟨((hQ.below hU).put e d).bel, ((hQ.below hU).put e d).cells⟩
      have hS0 := hS _ (bdrew (Below.refl _ wr))
      have hk1 : Hid True := trivial
      go_wp2_with fail
      clear c0 c1 c2 c3
      go_region_held3 (fun U => Below w.heap.size w U ∧ U.cell? ⟨w.heap.size, 0, none⟩ = some (.int .i64 n) ∧ U.cell? ⟨w.heap.size, 1, none⟩ = some v ∧ U.cell? ⟨w.heap.size + 1, 0, none⟩ = some (.int .i64 m) ∧ U.cell? ⟨w.heap.size + 1, 1, none⟩ = some y)
        (first | exact hS0 | assumption | exact hS3 _ hx2 | exact hS _ hx2 | exact hS _ hx1)
        (first
          | (go_at_call 58; clear hk1; refine (HE1.out _ (And.left ‹_›)).mono ?_; rintro e1 U1 ⟨rfl, hl1⟩; have hx1 := undrew' hl1)
          | (go_at_call 58; refine (HE2.out _ (And.left ‹_›)).mono ?_; rintro e2 U2 ⟨rfl, hl2⟩; have hx2 := bcat2 hx1 hl2; have hc1 := (hQ.below hx2).mm.int (y := e) (by simpa using hen); have hf1 := (hQ.below hx2).mm.frozen e))
      all_goals (
        have hP9 := (hQ.below hx2).put e d
        clear hS hS3 hS0 hc1 hf1
        generalize U2.setCell ⟨w.heap.size + 2, e, none⟩ (.int .i64 d) = w4 at *
        clear hx2 hx1 hl1 hl2 hQ)
      have hb0 := HBEG.out
      generalize (List.replicate n (-1)).set e (d : Int) = M1 at hP9 hb0
      go_wp2
      go_loopw [11] (fun s wr => ∃ (ag : Bool) (M : List Int), s = .bool ag ∧ SdS w wr n v m y M ∧ Spd n zs e m ys d ps M M false 0 0 ∧ (ag = false → ∃ φ, Leads n zs m ys ps φ ∧ M = li ((List.range n).map φ))) (fun s wr => if boolOf s then cntN (w.heap.size + 2) wr + 1 else 0)
      case atStart => exact ⟨true, M1, rfl, hP9, hb0, fun h => by cases h⟩
      case round =>
        clear hP9 hb0
        obtain ⟨ag, M0, rfl, hZ0, hN0, hfin⟩ := hrel
        have HCN := hide (cntN_blk hZ0.mm)
        cases ag with
        | false =>
          obtain ⟨φ, hφ, rfl⟩ := hfin rfl
          go_wp2
          go_ret
          refine ⟨hZ0.bel, .inr ⟨φ, hφ, ?_⟩⟩
          exact ⟨w.heap.size + 2, rfl, by omega, hZ0.mm⟩
        | true =>
          clear hfin
          go_wp2
          go_loopw [11, 12] (fun s i wx => ∃ (ag' : Bool) (M : List Int) (a : Nat), a ≤ n ∧ s = .bool ag' ∧ i = .int .i64 a ∧ SdS w wx n v m y M ∧ Spd n zs e m ys d ps M0 M ag' a 0) (fun _ i _ => n - (intOf i).toNat)
          case atStart => exact ⟨false, M0, 0, by omega, rfl, rfl, hZ0, hN0⟩
          case round =>
            clear hZ0 hN0
            obtain ⟨ag', M, a, ha, rfl, rfl, hZ, hN⟩ := hrel
            obtain ⟨c0, c1, c2, c3⟩ := hZ.cells
            by_cases hla : a < n
            · have hai : (a : Int) < (n : Int) := by omega
              go_wp2
              clear c0 c1 c2 c3
              go_loopw [11, 13] (fun s i wx => ∃ (ag' : Bool) (M : List Int) (j : Nat), j ≤ ps.length ∧ s = .bool ag' ∧ i = .int .i64 j ∧ SdS w wx n v m y M ∧ Spd n zs e m ys d ps M0 M ag' a j) (fun _ i _ => ps.length - (intOf i).toNat)
              case atStart => exact ⟨ag', M, 0, Nat.zero_le _, rfl, rfl, hZ, hN⟩
              case round =>
                clear hZ hN
                obtain ⟨ag', M, j, hj, rfl, rfl, hZ, hN⟩ := hrel
                obtain ⟨c0, c1, c2, c3⟩ := hZ.cells
                have hca := hZ.mm.int (y := a) (by rw [hN.len]; exact hla)
                by_cases hlj : j < ps.length
                · have hji : (j : Int) < (ps.length : Int) := by omega
                  by_cases hneg : M[a]?.getD 0 < 0
                  · have hm1 : M[a]?.getD 0 = -1 := by have := hN.val a hla; omega
                    have HNR := hide (hN.row (.inr hneg))
                    rw [hm1] at hca
                    clear hm1 hneg hN
                    go_wp2
                    go_roundw
                    case rel => exact ⟨ag', M, a + 1, by omega, rfl, by go_num, hZ, HNR.out⟩
                    case measure => simp [intOf]; omega
                  · obtain ⟨q, hq⟩ : ∃ q, ps[j]? = some q := ⟨_, List.getElem?_eq_getElem hlj⟩
                    have hql : ps[j] = q := by rw [List.getElem?_eq_getElem hlj] at hq; exact Option.some.inj hq
                    have hqm := List.mem_of_getElem? hq
                    obtain ⟨hp1, hp2⟩ := HP.out q hqm
                    have hck := below_cell hZ.bel (HKC.out j hlj)
                    have hci := below_cell hZ.bel (HIC.out j hlj)
                    rw [hql] at hck hci
                    obtain rfl := HKA.out (by omega)
                    obtain rfl := HIA.out (by omega)
                    have h0 : 0 ≤ M[a]?.getD 0 := by omega
                    have hea : M[a]?.getD 0 = ((M[a]?.getD 0).toNat : Int) := by omega
                    have hfa : (M[a]?.getD 0).toNat < m := by have := hN.val a hla; omega
                    have hbn := tm_lt hg.tab hp1 hla
                    have hcb := hZ.mm.int (y := tm n zs q.1 a) (by rw [hN.len]; exact hbn)
                    have HSK := hide (fun (h : M[tm n zs q.1 a]?.getD 0 = (tm m ys q.2 (M[a]?.getD 0).toNat : Int)) => hN.skip (fun p hp' _ => by rw [hq] at hp'; obtain rfl := Option.some.inj hp'; exact h))
                    have HPU := hide (fun (h : M[tm n zs q.1 a]?.getD 0 < 0) => hN.put hg.tab hh.tab hqm hp1 hp2 hla h0 h)
                    have HCL := hide (fun (h : ¬ M[tm n zs q.1 a]?.getD 0 < 0) (h2 : ¬ M[tm n zs q.1 a]?.getD 0 = (tm m ys q.2 (M[a]?.getD 0).toNat : Int)) => hN.clash hg.tab hqm hp1 hla h0 h h2)
                    have HQ1 := hide (fun W (h : Below w.heap.size w W) => HM1.out W q.1 a h hp1 hla)
                    have HQ2 := hide (fun W (h : Below w.heap.size w W) => HM2.out W q.2 _ h hp2 hfa)
                    rw [hea] at hca
                    have HN := hide hN
                    clear hea h0 hneg hN hq hql hqm
                    generalize (M[a]?.getD 0).toNat = fa at *
                    generalize hzz : M[tm n zs q.1 a]?.getD 0 = z at *
                    generalize tm m ys q.2 fa = im at *
                    generalize tm n zs q.1 a = b at *
                    obtain ⟨pk, pi⟩ := q
                    simp only at hck hci HQ1 HQ2 hp1 hp2
                    clear hzz
                    have hbi : (b : Int) < (n : Int) := by omega
                    have hfi : (0 : Int) ≤ (fa : Int) := by omega
                    have HZ := hide hZ
                    have hBw := hZ.bel
                    have hS' : ∀ W, Below wr.heap.size wr W → (Below wr.heap.size wr W ∧ W.cell? ⟨w.heap.size, 0, none⟩ = some (.int .i64 n) ∧ W.cell? ⟨w.heap.size, 1, none⟩ = some v ∧ W.cell? ⟨kb, ko + j, none⟩ = some (.int .i64 (pk : Int))) := fun W h => ⟨h, below_cell h c0, below_cell h c1, below_cell h hck⟩
                    have hS1 := hS' _ (bdrew (Below.refl _ wr))
                    go_wp2_with fail
                    clear hck c0 c1 hZ
                    go_region_held3 (fun W => Below wr.heap.size wr W ∧ W.cell? ⟨w.heap.size, 0, none⟩ = some (.int .i64 n) ∧ W.cell? ⟨w.heap.size, 1, none⟩ = some v ∧ W.cell? ⟨kb, ko + j, none⟩ = some (.int .i64 (pk : Int)))
                      (first | exact hS1 | assumption | exact hS' _ (bcat2 (And.left ‹_›) hl1))
                      (first | (go_at_call 59; refine (HQ1.out _ (bcat2 hBw (And.left ‹_›))).mono ?_; rintro e1 U1 ⟨rfl, hl1⟩))
                    have hb1 := And.left ‹Below wr.heap.size wr U1 ∧ _›
                    have hZ1 := HZ.out.below hb1
                    have hci1 := below_cell hb1 hci
                    have hca1 := below_cell hb1 hca
                    have hcb1 := below_cell hb1 hcb
                    obtain ⟨c0, c1, c2, c3⟩ := hZ1.cells
                    clear hS' hS1 hl1 hb1 hci hca hcb
                    have HZ1 := hide hZ1
                    have hBw1 := hZ1.bel
                    clear HZ hBw
                    have hS' : ∀ W, Below U1.heap.size U1 W → (Below U1.heap.size U1 W ∧ W.cell? ⟨w.heap.size + 1, 0, none⟩ = some (.int .i64 m) ∧ W.cell? ⟨w.heap.size + 1, 1, none⟩ = some y ∧ W.cell? ⟨ib, io + j, none⟩ = some (.int .i64 (pi : Int)) ∧ W.cell? ⟨w.heap.size + 2, a, none⟩ = some (.int .i64 (fa : Int))) := fun W h => ⟨h, below_cell h c2, below_cell h c3, below_cell h hci1, below_cell h hca1⟩
                    have hS1 := hS' _ (bdrew (Below.refl _ U1))
                    go_wp2_with fail
                    clear hci1 hca1 c0 c1 c2 c3 hZ1
                    go_region_held3 (fun W => Below U1.heap.size U1 W ∧ W.cell? ⟨w.heap.size + 1, 0, none⟩ = some (.int .i64 m) ∧ W.cell? ⟨w.heap.size + 1, 1, none⟩ = some y ∧ W.cell? ⟨ib, io + j, none⟩ = some (.int .i64 (pi : Int)) ∧ W.cell? ⟨w.heap.size + 2, a, none⟩ = some (.int .i64 (fa : Int)))
                      (first | exact hS1 | assumption | exact hS' _ (bcat2 (And.left ‹_›) hl1))
                      (first | (go_at_call 59; refine (HQ2.out _ (bcat2 hBw1 (And.left ‹_›))).mono ?_; rintro e2 U2 ⟨rfl, hl1⟩))
                    have hb2 := And.left ‹Below U1.heap.size U1 U2 ∧ _›
                    have hZ2 := HZ1.out.below hb2
                    have hcb2 := below_cell hb2 hcb1
                    clear hS' hS1 hl1 hb2 hcb1 HZ1 hBw1
                    have hf2 := hZ2.mm.frozen b
                    by_cases hz : z < 0
                    · have HPX := hide (HPU.out hz)
                      have hP := hZ2.put b (im : Int)
                      clear HPU HSK HCL
                      go_wp2
                      go_roundw
                      case rel => exact ⟨true, _, j + 1, by omega, rfl, by go_num, hP, HPX.out⟩
                      case measure => simp [intOf]; omega
                    · by_cases hz2' : z = (im : Int)
                      · have HPX := hide (HSK.out hz2')
                        clear HPU HSK HCL
                        subst hz2'
                        go_wp2
                        go_roundw
                        case rel => exact ⟨ag', M, j + 1, by omega, rfl, by go_num, hZ2, HPX.out⟩
                        case measure => simp [intOf]; omega
                      · have HPX := hide (HCL.out (by omega) hz2')
                        have hne2 : (z != (im : Int)) = true := by simpa using hz2'
                        clear HPU HSK HCL
                        go_wp2
                        go_ret
                        exact ⟨hZ2.bel, .inl ⟨rfl, HPX.out⟩⟩
                · have HNR := hide (hN.row (.inl (by omega)))
                  clear hN
                  have hjn : ¬ (j : Int) < (ps.length : Int) := by omega
                  go_wp2
                  go_roundw
                  case rel => exact ⟨ag', M, a + 1, by omega, rfl, by go_num, hZ, HNR.out⟩
                  case measure => simp [intOf]; omega
            · have hst9 := hN.start
              have HMO := hide hN.more
              have HFN : Hid (ag' = false → ∃ φ, Leads n zs m ys ps φ ∧ M = li ((List.range n).map φ)) := fun hag => by subst hag; exact hN.fin hg hh (by omega) HP.out HALL.out
              have HC9 := hide (cntN_blk hZ.mm)
              go_wp2
              go_roundw
              case rel => exact ⟨ag', M, rfl, hZ, hst9, HFN.out⟩
              case measure =>
                simp only [boolOf, HC9.out, HCN.out]
                cases hag : ag' with
                | false => simp
                | true => have := HMO.out hag; simp; omega
end Go.Proofs.YtmgengplfebmjaaDoor

namespace Go.Proofs.YtmgengplfebmjaaDoor
open Go Go.RowKit

theorem dd_mem {ls : List (List Int)} {x : List Int} : x ∈ dd ls ↔ x ∈ ls := by
  unfold dd kpt
  constructor
  · intro h
    obtain ⟨j, hj, rfl⟩ := List.mem_map.1 h
    have hj := List.mem_range.1 (List.mem_filter.1 hj).1
    rw [List.getElem?_eq_getElem hj, Option.getD_some]
    exact List.getElem_mem hj
  · intro h
    obtain ⟨i, hi, he⟩ := List.mem_iff_getElem.1 h
    have key : ∀ i, ∀ hi : i < ls.length, ∃ j, j < ls.length ∧ nw ls j = true ∧ ls[j]?.getD [] = ls[i] := by
      intro i
      induction i with
      | zero => exact fun hi => ⟨0, hi, by simp [nw], by rw [List.getElem?_eq_getElem hi]; rfl⟩
      | succ i ih =>
        intro hi
        by_cases hn : nw ls (i + 1) = true
        · exact ⟨i + 1, hi, hn, by rw [List.getElem?_eq_getElem hi]; rfl⟩
        · obtain ⟨j, h1, h2, h3⟩ := ih (by omega)
          refine ⟨j, h1, h2, ?_⟩
          have : ls[i + 1]?.getD [] = ls[i]?.getD [] := by
            simp only [nw, Nat.add_sub_cancel, Bool.or_eq_true, decide_eq_true_eq, not_or, Bool.not_eq_true', decide_eq_false_iff_not, Decidable.not_not] at hn
            exact hn.2
          rw [List.getElem?_eq_getElem hi, List.getElem?_eq_getElem (show i < ls.length by omega), Option.getD_some, Option.getD_some] at this
          rw [h3, this]
    obtain ⟨j, h1, h2, h3⟩ := key i hi
    exact List.mem_map.2 ⟨j, List.mem_filter.2 ⟨List.mem_range.2 h1, h2⟩, by rw [h3, he]⟩
theorem dd_nodup {ls : List (List Int)} (hs : srt ls) : (dd ls).Nodup := by
  unfold dd
  refine List.pairwise_map.2 ?_
  have h1 : (kpt ls ls.length).Pairwise (· < ·) := List.pairwise_lt_range.sublist List.filter_sublist
  refine h1.imp_of_mem ?_
  intro i j hi hj hij heq
  obtain ⟨_, hn⟩ := List.mem_filter.1 hj
  have hjl := List.mem_range.1 (List.mem_filter.1 hj).1
  have hne : ¬ ls[j]?.getD [] = ls[j - 1]?.getD [] := by
    simp only [nw, Bool.or_eq_true, decide_eq_true_eq, Bool.not_eq_true', decide_eq_false_iff_not] at hn
    rcases hn with hn | hn
    · omega
    · exact hn
  -- i ≤ j - 1 < j, the ends are the same, so the one between is the same
  have a1 : ¬ cmpL (ls[j]?.getD []) (ls[j - 1]?.getD []) < 0 := hs (j - 1) j (by omega) hjl
  by_cases hij1 : i = j - 1
  · exact hne (by rw [← heq, hij1])
  · have a2 : ¬ cmpL (ls[j - 1]?.getD []) (ls[i]?.getD []) < 0 := hs i (j - 1) (by omega) (by omega)
    rw [heq] at a2
    have a3 := cmpL_neg (ls[j - 1]?.getD []) (ls[j]?.getD [])
    exact hne ((cmpL_zero _ _).1 (by omega))
section
variable {n e : Nat} {zs : List Int}
theorem cjL_at {a x : Nat} (hx : x < n) : (cjL n zs e a)[x]?.getD 0 = (Fin.cj (tm n zs) (iv n zs e) x a : Int) := by simp [cjL, li, hx]
theorem cjL_iff {a b : Nat} : cjL n zs e a = cjL n zs e b ↔ ∀ x, x < n → Fin.cj (tm n zs) (iv n zs e) x a = Fin.cj (tm n zs) (iv n zs e) x b := by
  constructor
  · intro h x hx
    have := congrArg (fun l : List Int => l[x]?.getD 0) h
    simp only [cjL_at hx] at this
    omega
  · intro h
    unfold cjL li
    rw [List.map_map, List.map_map]
    exact List.map_congr_left fun x hx => by
      show ((Fin.cj (tm n zs) (iv n zs e) x a : Nat) : Int) = _
      rw [h x (List.mem_range.1 hx)]
      rfl
/-- Two things conjugate alike just where they differ by a central one. -/
theorem cj_same (g : IsGrp n zs e) {a b : Nat} (ha : a < n) (hb : b < n) : cjL n zs e a = cjL n zs e b ↔ ∃ c, c < n ∧ cenq n zs (fun _ => true) c = true ∧ tm n zs c a = b := by
  have F := grp_fg g
  have V := grp_iv g
  obtain ⟨i1, i2, i3, _⟩ := iv_spec g ha
  rw [cjL_iff]
  constructor
  · intro h
    refine ⟨tm n zs b (iv n zs e a), tm_lt g.tab hb i1, (cen_iff _).2 fun y hy => ?_, by rw [g.ass b _ a hb i1 ha, i3, g.right b hb]⟩
    have hy' := List.mem_range.1 hy
    have h1 := Fin.cj_eq F V hy (List.mem_range.2 hb)
    rw [← h y hy'] at h1
    -- b (a⁻¹ (y a)) = y b
    have h2 : tm n zs b (tm n zs (iv n zs e a) (tm n zs y a)) = tm n zs y b := h1
    have hya := tm_lt g.tab hy' ha
    have hiy := tm_lt g.tab i1 hy'
    have h3 : tm n zs (tm n zs b (iv n zs e a)) (tm n zs y a) = tm n zs y b := by rw [g.ass b _ _ hb i1 hya]; exact h2
    have h4 : tm n zs (tm n zs (tm n zs b (iv n zs e a)) (tm n zs y a)) (iv n zs e a) = tm n zs (tm n zs y b) (iv n zs e a) := congrArg (fun t => tm n zs t (iv n zs e a)) h3
    have hba := tm_lt g.tab hb i1
    rw [g.ass _ _ _ hba hya i1, g.ass y a _ hy' ha i1, i2, g.right y hy', g.ass y b _ hy' hb i1] at h4
    exact h4
  · rintro ⟨c, hc, hcen, rfl⟩ x hx
    have hcen := (cen_iff _).1 hcen
    have h1 := Fin.cj_cj F V (List.mem_range.2 hx) (List.mem_range.2 hc) (List.mem_range.2 ha)
    have h2 : Fin.cj (tm n zs) (iv n zs e) x c = x := Fin.cj_unique F V (List.mem_range.2 hx) (List.mem_range.2 hx) (List.mem_range.2 hc) (hcen x (List.mem_range.2 hx))
    rw [h2] at h1
    exact h1
theorem inn_mem {x : List Int} : x ∈ innL n zs e ↔ ∃ a, a < n ∧ x = cjL n zs e a := by
  constructor
  · intro h
    obtain ⟨a, ha, rfl⟩ := List.mem_map.1 h
    exact ⟨a, List.mem_range.1 ha, rfl⟩
  · rintro ⟨a, ha, rfl⟩
    exact List.mem_map.2 ⟨a, List.mem_range.2 ha, rfl⟩
/-- As many inner automorphisms as the centre has cosets. -/
theorem inn_many (g : IsGrp n zs e) {ms : List (List Int)} (hp : ms.Perm (innL n zs e)) (hs : srt ms) : n = (dd ms).length * (lst n (cenq n zs (fun _ => true))).length := by
  have hmem : ∀ x, x ∈ dd ms ↔ ∃ a, a < n ∧ x = cjL n zs e a := fun x => by rw [dd_mem, hp.mem_iff, inn_mem]
  have hnd := dd_nodup hs
  have h0 := Fin.fib_len (fun b => (dd ms).idxOf (cjL n zs e b)) (lst n (cenq n zs (fun _ => true))).length (List.range (dd ms).length) (List.range n) List.nodup_range (fun b hb => by
    have hb := List.mem_range.1 hb
    exact List.mem_range.2 (List.idxOf_lt_length_iff.2 ((hmem _).2 ⟨b, hb, rfl⟩))) (fun k hk => by
    have hk := List.mem_range.1 hk
    obtain ⟨a, ha, hka⟩ := (hmem _).1 (List.getElem_mem hk)
    have hfa : ∀ b, b < n → ((dd ms).idxOf (cjL n zs e b) = k ↔ cjL n zs e a = cjL n zs e b) := fun b hb => by
      constructor
      · intro h9
        have hin := (hmem _).2 ⟨b, hb, rfl⟩
        have := List.getElem_idxOf (List.idxOf_lt_length_iff.2 hin)
        rw [← hka, ← this]
        congr 1
        exact h9.symm
      · intro h9
        rw [← h9, ← hka]
        exact hnd.idxOf_getElem k hk
    symm
    refine Fin.bij_len (fun c => tm n zs c a) (List.nodup_range.sublist List.filter_sublist) (List.nodup_range.sublist List.filter_sublist) (fun c hc => ?_) (fun c c' hc hc' h9 => ?_) (fun b hb => ?_)
    · obtain ⟨hc1, hc2⟩ := mem_lst.1 hc
      have hca := tm_lt g.tab hc1 ha
      exact List.mem_filter.2 ⟨List.mem_range.2 hca, decide_eq_true ((hfa _ hca).2 ((cj_same g ha hca).2 ⟨c, hc1, hc2, rfl⟩))⟩
    · exact grp_cancel_right g ha (mem_lst.1 hc).1 (mem_lst.1 hc').1 h9
    · obtain ⟨hb1, hb2⟩ := List.mem_filter.1 hb
      have hb1 := List.mem_range.1 hb1
      obtain ⟨c, h1, h2, h3⟩ := (cj_same g ha hb1).1 ((hfa b hb1).1 (of_decide_eq_true hb2))
      exact ⟨c, mem_lst.2 ⟨h1, h2⟩, h3⟩)
  rw [List.length_range, List.length_range] at h0
  exact h0
end
end Go.Proofs.YtmgengplfebmjaaDoor

namespace Go.Proofs.YtmgengplfebmjaaDoor
open Go Go.RowKit

set_option maxRecDepth 100000 in
set_option maxHeartbeats 4000000 in
theorem inner_bad (N : Int) (v : Value) (zs : List Int) (w : World) (hv : Sl w v zs) (hc : (gfault N zs).1 ≠ 0) :
    Calls Tryd.prog 33 #[.agg #[.int .i64 N, v]] w fun x w' => x = .returned (.tuple #[.slice none 0 0, .agg #[.int .i64 (gfault N zs).1, .int .i64 (gfault N zs).2]]) ∧ Below w.heap.size w w' := by
  obtain ⟨w0, BG⟩ := Beg.new w N v
  have HCK := hide (opened_bad N v zs w0 (hv.below BG.bel) hc)
  obtain ⟨c, i, hci⟩ : ∃ c i, gfault N zs = (c, i) := ⟨_, _, rfl⟩
  rw [hci] at HCK hc ⊢
  simp only at HCK hc ⊢
  clear hci
  have hcb : (c != 0) = true := by simpa using hc
  obtain ⟨e0, e1, _, _⟩ := BG.box.two
  rw [BG.eq] at e0 e1
  go_enter Tryd.func33, Tryd.ntmps33
  go_wp2_with fail
  rw [← BG.eq]
  clear e0 e1
  refine HCK.out.mono ?_
  rintro x w1 ⟨rfl, hb1⟩
  obtain ⟨w2, hw2⟩ : ∃ w2, w2 = (w1.alloc (.cells #[.int .i64 0, .slice none 0 0, .int .i64 0, .slice none 0 0] 67)).alloc (.cells #[.int .i64 c, .int .i64 i] 27) := ⟨_, rfl⟩
  have hB1 : Below w0.heap.size w0 w2 := by rw [hw2]; exact bcat2 hb1 ((balloc w1 _).alloc (by simp) _)
  have hF1 : Blk w2 (w1.heap.size + 1) 27 [.int .i64 c, .int .i64 i] := by
    rw [hw2]
    have := blk0 (w := w1.alloc (.cells #[.int .i64 0, .slice none 0 0, .int .i64 0, .slice none 0 0] 67)) (T := 27) (.int .i64 c) (.int .i64 i)
    rwa [World.size_alloc] at this
  have hR1 := blk_below BG.res hB1
  have hBw := bcat BG.bel hB1 BG.bel.size
  subst hw2
  obtain ⟨y0, y1, fy0, fy1⟩ := hR1.two
  obtain ⟨t0, t1, _, _⟩ := hF1.two
  obtain ⟨hR6, hB6⟩ := put2 hR1 hBw (by omega) c i
  obtain ⟨z0, z1, _, _⟩ := hR6.two
  go_wp2
  go_region
  go_wp2
  exact bodyPost_ret (v := .tuple #[.slice none 0 0, .agg #[.int .i64 c, .int .i64 i]]) (by simp [results, Tryd.results33, go_sem, z0, z1]) rfl ⟨rfl, bdrew hB6⟩
set_option maxRecDepth 100000 in
set_option maxHeartbeats 4000000 in
theorem autos_bad (N : Int) (v : Value) (zs : List Int) (w : World) (hv : Sl w v zs) (hc : (gfault N zs).1 ≠ 0) :
    Calls Tryd.prog 32 #[.agg #[.int .i64 N, v]] w fun x w' => x = .returned (.tuple #[.slice none 0 0, .agg #[.int .i64 (gfault N zs).1, .int .i64 (gfault N zs).2]]) ∧ Below w.heap.size w w' := by
  obtain ⟨w0, BG⟩ := Beg.new w N v
  have HCK := hide (opened_bad N v zs w0 (hv.below BG.bel) hc)
  obtain ⟨c, i, hci⟩ : ∃ c i, gfault N zs = (c, i) := ⟨_, _, rfl⟩
  rw [hci] at HCK hc ⊢
  simp only at HCK hc ⊢
  clear hci
  have hcb : (c != 0) = true := by simpa using hc
  obtain ⟨e0, e1, _, _⟩ := BG.box.two
  rw [BG.eq] at e0 e1
  go_enter Tryd.func32, Tryd.ntmps32
  go_wp2_with fail
  rw [← BG.eq]
  clear e0 e1
  refine HCK.out.mono ?_
  rintro x w1 ⟨rfl, hb1⟩
  obtain ⟨w2, hw2⟩ : ∃ w2, w2 = (w1.alloc (.cells #[.int .i64 0, .slice none 0 0, .int .i64 0, .slice none 0 0] 67)).alloc (.cells #[.int .i64 c, .int .i64 i] 27) := ⟨_, rfl⟩
  have hB1 : Below w0.heap.size w0 w2 := by rw [hw2]; exact bcat2 hb1 ((balloc w1 _).alloc (by simp) _)
  have hF1 : Blk w2 (w1.heap.size + 1) 27 [.int .i64 c, .int .i64 i] := by
    rw [hw2]
    have := blk0 (w := w1.alloc (.cells #[.int .i64 0, .slice none 0 0, .int .i64 0, .slice none 0 0] 67)) (T := 27) (.int .i64 c) (.int .i64 i)
    rwa [World.size_alloc] at this
  have hR1 := blk_below BG.res hB1
  have hBw := bcat BG.bel hB1 BG.bel.size
  subst hw2
  obtain ⟨y0, y1, fy0, fy1⟩ := hR1.two
  obtain ⟨t0, t1, _, _⟩ := hF1.two
  obtain ⟨hR6, hB6⟩ := put2 hR1 hBw (by omega) c i
  obtain ⟨z0, z1, _, _⟩ := hR6.two
  go_wp2
  go_region
  go_wp2
  exact bodyPost_ret (v := .tuple #[.slice none 0 0, .agg #[.int .i64 c, .int .i64 i]]) (by simp [results, Tryd.results32, go_sem, z0, z1]) rfl ⟨rfl, bdrew hB6⟩
set_option maxRecDepth 100000 in
set_option maxHeartbeats 4000000 in
theorem autos_many (n e : Nat) (v : Value) (zs : List Int) (w : World) (hv : Sl w v zs) (hg : IsGrp n zs e) (h24 : 24 < n) :
    Calls Tryd.prog 32 #[.agg #[.int .i64 n, v]] w fun x w' => x = .returned (.tuple #[.slice none 0 0, .agg #[.int .i64 2, .int .i64 0]]) ∧ Below w.heap.size w w' := by
  obtain ⟨va, vn, vc, rfl⟩ := hv.isSlice
  have h24i : (24 : Int) < (n : Int) := by omega
  obtain ⟨w0, BG⟩ := Beg.new w n (.slice va vn vc)
  have HCK := hide (opened_good n e (.slice va vn vc) zs w0 (hv.below BG.bel) hg)
  obtain ⟨c0, c1, _, _⟩ := BG.box.two
  rw [BG.eq] at c0 c1
  go_enter Tryd.func32, Tryd.ntmps32
  go_wp2_with fail
  rw [← BG.eq]
  clear c0 c1
  refine HCK.out.mono ?_
  rintro x w1 ⟨iv9, rfl, hSI, hb1⟩
  obtain ⟨ia, il, ic, rfl⟩ := hSI.sl.isSlice
  obtain ⟨w2, hw2⟩ : ∃ w2, w2 = (w1.alloc (.cells #[.int .i64 n, .slice va vn vc, .int .i64 e, .slice ia il ic] 67)).alloc (.cells #[.int .i64 0, .int .i64 0] 27) := ⟨_, rfl⟩
  have hB1 : Below w0.heap.size w0 w2 := by rw [hw2]; exact bcat2 hb1 ((balloc w1 _).alloc (by simp) _)
  have hF1 : Blk w2 (w1.heap.size + 1) 27 [.int .i64 0, .int .i64 0] := by
    rw [hw2]
    have := blk0 (w := w1.alloc (.cells #[.int .i64 n, .slice va vn vc, .int .i64 e, .slice ia il ic] 67)) (T := 27) (.int .i64 0) (.int .i64 0)
    rwa [World.size_alloc] at this
  have hR1 := blk_below BG.res hB1
  have hX1 := blk_below BG.box hB1
  have hBw := bcat BG.bel hB1 BG.bel.size
  subst hw2
  obtain ⟨y0, y1, fy0, fy1⟩ := hR1.two
  obtain ⟨t0, t1, _, _⟩ := hF1.two
  obtain ⟨g0, g1, _, _⟩ := hX1.two
  obtain ⟨hR6, hB6⟩ := put2 hR1 hBw (by omega) 2 0
  obtain ⟨z0, z1, _, _⟩ := hR6.two
  go_wp2
  exact bodyPost_ret (v := .tuple #[.slice none 0 0, .agg #[.int .i64 2, .int .i64 0]]) (by simp [results, Tryd.results32, go_sem, z0, z1]) rfl ⟨rfl, hB6⟩
end Go.Proofs.YtmgengplfebmjaaDoor

namespace Go.Proofs.YtmgengplfebmjaaDoor
open Go Go.RowKit

theorem lm_take {n e : Nat} {zs : List Int} {ks js : List Nat} (h : LM n zs e ks) (k : LM n zs e js) (g2 : ∀ a, a < n → Mkd n zs e (fun x => decide (x ∈ js)) a) : ∀ i, i ≤ ks.length → i ≤ js.length ∧ ks.take i = js.take i
  | 0, _ => ⟨Nat.zero_le _, by simp⟩
  | i + 1, hi => by
    obtain ⟨h1, h2⟩ := lm_take h k g2 i (by omega)
    have hk : ks[i]? = some ks[i] := List.getElem?_eq_getElem (by omega)
    obtain ⟨a1, a2⟩ := h.step i _ hk
    by_cases hl : i < js.length
    · have hj : js[i]? = some js[i] := List.getElem?_eq_getElem hl
      obtain ⟨b1, b2⟩ := k.step i _ hj
      rw [← h2] at b1 b2
      have he : ks[i] = js[i] := by
        rcases Nat.lt_trichotomy ks[i] js[i] with h9 | h9 | h9
        · exact absurd (b2 _ h9) a1
        · exact h9
        · exact absurd (a2 _ h9) b1
      refine ⟨hl, ?_⟩
      rw [List.take_succ_eq_append_getElem (by omega), List.take_succ_eq_append_getElem hl, h2, he]
    · have hil : js.take i = js := List.take_of_length_le (by omega)
      rw [h2, hil] at a1
      exact absurd (g2 _ (h.lt _ (List.getElem_mem (by omega)))) a1
theorem lm_unique {n e : Nat} {zs : List Int} {ks js : List Nat} (h : LM n zs e ks) (k : LM n zs e js) (g1 : ∀ a, a < n → Mkd n zs e (fun x => decide (x ∈ ks)) a) (g2 : ∀ a, a < n → Mkd n zs e (fun x => decide (x ∈ js)) a) : ks = js := by
  obtain ⟨h1, h2⟩ := lm_take h k g2 ks.length (Nat.le_refl _)
  obtain ⟨h3, _⟩ := lm_take k h g1 js.length (Nat.le_refl _)
  have : ks.length = js.length := by omega
  rw [List.take_length, this, List.take_length] at h2
  exact h2
end Go.Proofs.YtmgengplfebmjaaDoor

namespace Go.Proofs.YtmgengplfebmjaaDoor
open Go Go.RowKit

set_option maxRecDepth 100000 in
set_option maxHeartbeats 8000000 in
theorem autos_much (n e : Nat) (v : Value) (zs : List Int) (w : World) (hv : Sl w v zs) (hg : IsGrp n zs e) (hT : Tab w) (h24 : n ≤ 24) (hmuch : ∀ ks, LM n zs e ks → (∀ a, a < n → Mkd n zs e (fun x => decide (x ∈ ks)) a) → 1000 < (autL n zs e ks).length) :
    Calls Tryd.prog 32 #[.agg #[.int .i64 n, v]] w fun x w' => x = .returned (.tuple #[.slice none 0 0, .agg #[.int .i64 9, .int .i64 0]]) ∧ Below w.heap.size w w' := by
  obtain ⟨va, vl, vc, rfl⟩ := hv.isSlice
  have hn := hg.tab.le
  have h24i : ¬ ((24 : Int) < (n : Int)) := by omega
  obtain ⟨w0, BG⟩ := Beg.new w n (.slice va vl vc)
  have HCK := hide (opened_good n e (.slice va vl vc) zs w0 (hv.below BG.bel) hg)
  have hen := hg.elt
  obtain ⟨c0, c1, _, _⟩ := BG.box.two
  rw [BG.eq] at c0 c1
  go_enter Tryd.func32, Tryd.ntmps32
  go_wp2_with fail
  rw [← BG.eq]
  clear c0 c1
  refine HCK.out.mono ?_
  rintro x w1 ⟨iv9, rfl, hSI, hb1⟩
  obtain ⟨ia, il, ic, rfl⟩ := hSI.sl.isSlice
  obtain ⟨w2, hw2⟩ : ∃ w2, w2 = (w1.alloc (.cells #[.int .i64 n, (.slice va vl vc), .int .i64 e, (.slice ia il ic)] 67)).alloc (.cells #[.int .i64 0, .int .i64 0] 27) := ⟨_, rfl⟩
  have hb2 : Below w1.heap.size w1 w2 := by rw [hw2]; exact (balloc w1 _).alloc (by simp) _
  have hB1 : Below w0.heap.size w0 w2 := bcat2 hb1 hb2
  have hF1 : Blk w2 (w1.heap.size + 1) 27 [.int .i64 0, .int .i64 0] := by
    rw [hw2]
    have := blk0 (w := w1.alloc (.cells #[.int .i64 n, (.slice va vl vc), .int .i64 e, (.slice ia il ic)] 67)) (T := 27) (.int .i64 0) (.int .i64 0)
    rwa [World.size_alloc] at this
  have hH2 : Blk w2 w1.heap.size 67 [.int .i64 n, (.slice va vl vc), .int .i64 e, (.slice ia il ic)] := by
    rw [hw2]; exact (blk4 _ _ _ _).alloc _
  have hBw2 := bcat BG.bel hB1 BG.bel.size
  have hR2 := blk_below BG.res hB1
  have hX2 := blk_below BG.box hB1
  have hGA : GA w2 n (.slice va vl vc) e (.slice ia il ic) zs := ⟨hg, hv.below hBw2, hSI.sl.below hb2⟩
  have HLM := hide (fun W (h : Below w2.heap.size w2 W) => lm_ok' n e (.slice va vl vc) (.slice ia il ic) zs W (hGA.below h) ((hT.below hBw2).below h))
  have HSG := hide (fun W k1 k2 k3 => single_ok n e n e (.slice va vl vc) (.slice ia il ic) (.slice va vl vc) (.slice ia il ic) k1 k2 k3 W hn hen)
  have HLI := hide (fun (W : World) (ks : List Nat) (k1 : Option Addr) (k3 kb pb fb pc ab A : Nat) (h : Below w2.heap.size w2 W) (hk : Sl W (.slice k1 ks.length k3) (li ks)) (hLM : LM n zs e ks) (hgen : ∀ a, a < n → Mkd n zs e (fun x => decide (x ∈ ks)) a)
      (hA : Alls A W [.int .i64 n, (.slice va vl vc), .int .i64 e, (.slice ia il ic), .int .i64 n, (.slice va vl vc), .int .i64 e, (.slice ia il ic)] (.slice k1 ks.length k3) (.func (.func 104) #[] #[.pointer (some ⟨pc, 0, none⟩), .pointer (some ⟨ab, 0, none⟩)]) kb pb fb)
      (hpc : Blk W pc 83 [.int .i64 n, (.slice va vl vc), .int .i64 e, (.slice ia il ic), .int .i64 n, (.slice va vl vc), .int .i64 e, (.slice ia il ic)]) (hab : Boxed W ab 73 (.int .u64 (bs (fun a => decide (a = e)) n))) =>
    show Calls Tryd.prog 70 #[.func (.func 101) #[] #[.pointer (some ⟨kb, 0, none⟩), .pointer (some ⟨pb, 0, none⟩), .pointer (some ⟨fb, 0, none⟩)]] W (fun x w' => x = .returned (.tuple #[.slice none 0 0, .agg #[.int .i64 9, .int .i64 0]]) ∧ Below W.heap.size W w') from
      (listed_ok (f0 := 104) hg hg (hGA.below h).mul (hGA.below h).mul hk hLM.lt hLM.fits hA (fun a W => call113 a _ _ W) (fun W9 g ms hW9 hb9 hl9 =>
        sng1_ok n e n e pc ab (.slice va vl vc) (.slice ia il ic) (.slice va vl vc) (.slice ia il ic) (.slice (some ⟨g, 0, none⟩) n n) ms W9 hn (Sl.of_blk hb9 hl9.symm (by omega)) hl9 (blk_below hpc hW9) (Boxed.below hab hW9))).mono (fun x w' hp => by
        exact ⟨hp.much (hmuch ks hLM hgen), hp.bel⟩))
  obtain ⟨t0, t1, _, _⟩ := hF1.two
  obtain ⟨g0, g1, _, _⟩ := hX2.two
  rw [hw2] at t0 t1 g0 g1
  clear hmuch
  go_wp2_with fail
  rw [← hw2]
  clear hw2 t0 t1 g0 g1
  have hw1s : w.heap.size + 1 < w1.heap.size := by have := BG.res.lt; have := hb1.size; omega
  have hS : ∀ W9, Below w2.heap.size w2 W9 → ((fun W9 => Below w.heap.size w W9 ∧ W9.cell? ⟨w1.heap.size, 0, none⟩ = some (.int .i64 n) ∧ W9.cell? ⟨w1.heap.size, 1, none⟩ = some (.slice va vl vc) ∧ W9.cell? ⟨w1.heap.size, 2, none⟩ = some (.int .i64 e) ∧ W9.cell? ⟨w1.heap.size, 3, none⟩ = some (.slice ia il ic)) W9) := fun W9 h => by
    obtain ⟨_, h0, h1, h2, h3, _⟩ := Four.mk' hH2
    exact ⟨bcat2 hBw2 h, below_cell h h0, below_cell h h1, below_cell h h2, below_cell h h3⟩
  have hS3 : ∀ W8, Below w2.heap.size w2 W8 → ((fun W9 => Below w.heap.size w W9 ∧ W9.cell? ⟨w1.heap.size, 0, none⟩ = some (.int .i64 n) ∧ W9.cell? ⟨w1.heap.size, 1, none⟩ = some (.slice va vl vc) ∧ W9.cell? ⟨w1.heap.size, 2, none⟩ = some (.int .i64 e) ∧ W9.cell? ⟨w1.heap.size, 3, none⟩ = some (.slice ia il ic)) ((W8.setCell ⟨w.heap.size + 1, 0, none⟩ (.int .i64 9)).setCell ⟨w.heap.size + 1, 1, none⟩ (.int .i64 0))) := fun W8 h => by
    have hH9 : Blk ((W8.setCell ⟨w.heap.size + 1, 0, none⟩ (.int .i64 9)).setCell ⟨w.heap.size + 1, 1, none⟩ (.int .i64 0)) w1.heap.size 67 [.int .i64 n, .slice va vl vc, .int .i64 e, .slice ia il ic] := ((blk_below hH2 h).other (p := ⟨w.heap.size + 1, 0, none⟩) (show w1.heap.size ≠ w.heap.size + 1 by omega) _).other (p := ⟨w.heap.size + 1, 1, none⟩) (show w1.heap.size ≠ w.heap.size + 1 by omega) _
    obtain ⟨_, h0, h1, h2, h3, _⟩ := Four.mk' hH9
    exact ⟨bSet (bSet (bcat2 hBw2 h) (by omega)) (by omega), h0, h1, h2, h3⟩
  have hS0 := hS _ (bdrew (Below.refl _ w2))
  go_region_held3 (fun W9 => Below w.heap.size w W9 ∧ W9.cell? ⟨w1.heap.size, 0, none⟩ = some (.int .i64 n) ∧ W9.cell? ⟨w1.heap.size, 1, none⟩ = some (.slice va vl vc) ∧ W9.cell? ⟨w1.heap.size, 2, none⟩ = some (.int .i64 e) ∧ W9.cell? ⟨w1.heap.size, 3, none⟩ = some (.slice ia il ic))
    (first | exact hS0 | assumption | exact hS3 _ hx5 | exact hS _ hx5 | exact hS _ hx4 | exact hS _ hx3)
    (first
      | (go_at_call 72; refine (HLM.out _ (bdrew (Below.refl _ w2))).mono ?_; rintro e3 w3 ⟨ks, k1, k3, rfl, hK3, hLM, hgen, hl3⟩; have hx3 := undrew' hl3)
      | (go_at_call 77; refine (HSG.out _ _ _ _).mono ?_; rintro e4 w4 ⟨kb, pb, fb, pc, ab, rfl, hA4, hpc4, hab4, _, _, _, hl4⟩; have hx4 := bcat2 hx3 hl4)
      | (go_at_call 70; refine (HLI.out _ ks _ _ _ _ _ _ _ _ hx4 (hK3.below hl4) hLM hgen hA4 hpc4 hab4).mono ?_; rintro e5 w5 ⟨rfl, hl5⟩; have hx5 := bcat2 hx4 hl5; obtain ⟨y0, y1, fy0, fy1⟩ := (blk_below hR2 hx5).two))
  all_goals (
    obtain ⟨hR6, hB6⟩ := put2 (blk_below hR2 hx5) (bcat2 hBw2 hx5) (by omega) 9 0
    obtain ⟨z0, z1, _, _⟩ := hR6.two
    go_wp2
    exact bodyPost_ret (v := .tuple #[.slice none 0 0, .agg #[.int .i64 9, .int .i64 0]]) (by simp [results, Tryd.results32, go_sem, z0, z1]) rfl ⟨rfl, hB6⟩)
end Go.Proofs.YtmgengplfebmjaaDoor

namespace Go.Proofs.YtmgengplfebmjaaDoor
open Go Go.RowKit

/-- How the search for makers stands: k things are left. -/
structure MkS (w wr : World) (n : Nat) (v r : Value) (zs : List Int) (e k : Nat) (xs : List Nat) : Prop where
  row : Row wr w.heap.size r (li xs)
  box : BoxG wr w.heap.size n v
  bel : Below w.heap.size w wr
  lt : ∀ x, x ∈ xs → x < n
  len : xs.length + k ≤ n
  gen : ∀ x, x < n → k ≤ x → Mkd n zs e (fun a => decide (a ∈ xs)) x
theorem mkd_mono {n e : Nat} {zs : List Int} {xs ys : List Nat} (h : ∀ x, x ∈ xs → x ∈ ys) {a : Nat} (hm : Mkd n zs e (fun a => decide (a ∈ xs)) a) : Mkd n zs e (fun a => decide (a ∈ ys)) a :=
  hm _ (Fin.Gen.sg _) (fun z hz hq => Fin.Gen.base hz (decide_eq_true (h z (of_decide_eq_true hq))))
theorem lst_full {n : Nat} {p : Nat → Bool} (h : n ≤ (lst n p).length) {a : Nat} (ha : a < n) : p a = true := by
  have h1 : (lst n p).length = (List.range n).length := by
    have := List.length_filter_le p (List.range n)
    rw [List.length_range] at this ⊢
    unfold lst at h ⊢
    omega
  unfold lst at h1
  exact (List.length_filter_eq_length_iff.1 h1) a (List.mem_range.2 ha)
set_option maxRecDepth 100000 in
set_option maxHeartbeats 4000000 in
theorem makers_ok (n e : Nat) (v : Value) (zs : List Int) (w : World) (hv : Sl w v zs) (hg : IsGrp n zs e) :
    Calls Tryd.prog 74 #[.agg #[.int .i64 n, v]] w fun x w' => ∃ (r : Value) (xs : List Nat), x = .returned r ∧ Row w' w.heap.size r (li xs) ∧ (∀ x, x ∈ xs → x < n) ∧ xs.length ≤ n ∧ (∀ x, x < n → Mkd n zs e (fun a => decide (a ∈ xs)) x) ∧ Below w.heap.size w w' := by
  obtain ⟨i0, hi, hz0, hz1, hz2⟩ := info_parts info3b
  obtain ⟨v1, v2, v3, rfl⟩ := hv.isSlice
  have hn := hg.tab.le
  have hn0 : 0 < n := Nat.lt_of_le_of_lt (Nat.zero_le _) hg.elt
  have hst : MkS w (w.alloc (.cells #[.int .i64 n, .slice v1 v2 v3] 24)) n (.slice v1 v2 v3) (.slice none 0 0) zs e n [] :=
    ⟨World.ownsRow_nil _ _ _ _, blk0 _ _, balloc w _, by simp, by simp, fun x h1 h2 => by omega⟩
  have hw1 : IntKind.i64.wrap ((n : Int) - 1) = (n : Int) - 1 := by rw [IntKind.wrap_i64]; omega
  go_enter Tryd.func74, Tryd.ntmps74
  go_wp2
  go_loopw [3, 4] (fun r i wr => ∃ (k : Nat) (xs : List Nat), i = .int .i64 ((k : Int) - 1) ∧ MkS w wr n (.slice v1 v2 v3) r zs e k xs) (fun _ i _ => ((intOf i) + 1).toNat)
  case atStart => exact ⟨n, [], rfl, hst⟩
  case round =>
    obtain ⟨k, xs, rfl, hM⟩ := hrel
    obtain ⟨r, rfl⟩ : ∃ r, r = u3 := ⟨_, rfl⟩
    clear hst hw1
    obtain ⟨q1, q3, hrs⟩ := own_slice hM.row
    rw [li_len] at hrs
    subst hrs
    obtain ⟨c0, c1, _, _⟩ := hM.box.two
    have hkl := hM.len
    by_cases hk0 : k = 0
    · subst hk0
      go_wp2_with fail
      go_quiet (fail)
      have hM2 : Below w.heap.size w (wr.drewN nq) := bdrewN hM.bel nq
      have hR2 : Row (wr.drewN nq) w.heap.size (.slice q1 xs.length q3) (li xs) := hM.row
      go_wp2
      go_ret
      exact ⟨_, xs, rfl, hR2, hM.lt, by omega, fun x hx => hM.gen x hx (by omega), hM2⟩
    · obtain ⟨j, rfl⟩ : ∃ j, k = j + 1 := ⟨k - 1, by omega⟩
      have hjj : ((j + 1 : Nat) : Int) - 1 = (j : Int) := by omega
      rw [hjj]
      clear hjj hk0
      have hj0 : (0 : Int) ≤ (j : Int) := by omega
      have hw9 : IntKind.i64.wrap ((j : Int) - 1) = (j : Int) - 1 := by rw [IntKind.wrap_i64]; omega
      obtain ⟨p, hp⟩ := mkd_test n zs e (fun a => decide (a ∈ xs))
      have HSP := hide (fun W (h : Below wr.heap.size wr W) => span_ok n e (.slice v1 v2 v3) (.slice q1 xs.length q3) zs xs p W ((hv.below hM.bel).below h) hg ((row_sl hM.row (Nat.lt_of_le_of_lt (Nat.zero_le _) hM.box.lt)).below h) hM.lt (by omega) hp)
      have HP := hide hp
      clear hp
      have hS : ∀ W, Below wr.heap.size wr W → (Below wr.heap.size wr W ∧ W.cell? ⟨w.heap.size, 0, none⟩ = some (.int .i64 n) ∧ W.cell? ⟨w.heap.size, 1, none⟩ = some (.slice v1 v2 v3)) := fun W h => ⟨h, below_cell h c0, below_cell h c1⟩
      have hS0 := hS _ (bdrew (Below.refl _ wr))
      by_cases hall : (lst n p).length < n
      · have halli : (((lst n p).length : Nat) : Int) < (n : Int) := by omega
        go_wp2_with fail
        clear c0 c1
        go_region_held3 (fun W => Below wr.heap.size wr W ∧ W.cell? ⟨w.heap.size, 0, none⟩ = some (.int .i64 n) ∧ W.cell? ⟨w.heap.size, 1, none⟩ = some (.slice v1 v2 v3))
          (first | exact hS0 | assumption | exact hS _ (bcat2 (And.left ‹_›) hl1))
          (first | (go_at_call 20; refine (HSP.out _ (And.left ‹_›)).mono ?_; rintro e1 W1 ⟨r1, rfl, hr1, hl1⟩; obtain ⟨t1, t3, ht9⟩ := own_slice hr1; rw [li_len] at ht9; subst ht9))
        all_goals (
          obtain ⟨hB9, c0, c1⟩ := ‹Below wr.heap.size wr W1 ∧ _›
          clear hr1 hl1
          go_wp2_with fail
          clear c0 c1
          refine (HSP.out _ hB9).mono ?_
          rintro x W2 ⟨r2, rfl, hr2, hl2⟩
          obtain ⟨t5, t7, ht9⟩ := own_slice hr2
          rw [li_len] at ht9
          subst ht9
          have hB2 := bcat2 hB9 hl2
          have hsl2 := row_sl hr2 (Nat.lt_of_lt_of_le (Nat.lt_of_le_of_lt (Nat.zero_le _) hM.box.lt) hB2.size)
          go_wp2_with fail
          refine (rhas_ok _ _ _ _ hsl2).mono ?_
          rintro x W3 ⟨rfl, hW3⟩
          subst hW3
          have hX2 := blk_below hM.box hB2
          have hR2 := row_below hM.row hB2
          have hBw := bcat2 hM.bel hB2
          have hdm : decide ((j : Int) ∈ li (lst n p)) = p (j) := by
            rw [Bool.eq_iff_iff, decide_eq_true_eq]
            constructor
            · intro h9
              obtain ⟨z, hz, he⟩ := List.mem_map.1 h9
              have : z = j := by omega
              subst this
              exact (mem_lst.1 hz).2
            · intro h9
              exact List.mem_map.2 ⟨j, mem_lst.2 ⟨by omega, h9⟩, by omega⟩
          rw [hdm]
          cases hpk : p (j)
          · go_wp2_with (first
              | (at_builtin; refine wpList_append_own _ rfl _ _ 22 rfl w.heap.size 3 i0 (.int .i64 0) 1 8 under22b hi hz0 hz1 hz2 rfl (by decide) _ _ _ rfl (World.ownsRow.alloc hR2 _) ⟨W3.heap.size, 0, none⟩ 1 1 [.int .i64 (j : Int)] rfl rfl ?c1 ?c2 ?c3 ?c4 ?c5 ?_))
            case c1 => exact cell_one_new _ _ _
            case c2 => simp [Value.oneCell']
            case c3 => unfold maxLen; rw [li_len]; omega
            case c4 => rw [li_len]; omega
            case c5 => simp; have := hBw.size; omega
            intro v' w2 hown' hgrow _
            obtain ⟨g', cap', rfl⟩ := ownsRow_succ hown'
            have hB3 : Below w.heap.size w w2 := (hBw.alloc hBw.size _).grown hgrow (by simp; have := hBw.size; omega) (fun j e => owns_ge hR2 j e)
            have hX3 : BoxG w2 w.heap.size n (.slice v1 v2 v3) := (hX2.alloc _).grown hgrow (fun h9 => by
              have := owns_ge hR2 _ h9.symm
              rcases hR2.2 with ⟨h8, _⟩ | ⟨g9, cap9, cur9, h8, h7, h6, _⟩
              · rw [h8] at h9; simp [Value.ownBlock] at h9
              · rw [h8] at h9
                simp [Value.ownBlock] at h9
                subst h9
                have h5 : W3.heap[w.heap.size]? = _ := hX2
                rw [h6] at h5
                simp at h5)
            have hown5 : Row w2 w.heap.size (.slice (some ⟨g', 0, none⟩) ((li xs).length + 1) cap') (li (xs ++ [j])) := by
              unfold Row
              have : li (xs ++ [j]) = li xs ++ [(j : Int)] := by
                unfold li
                rw [List.map_append]
                simp
              rw [this]; simpa using hown'
            clear hown' hgrow
            go_wp2
            go_roundw
            case rel => exact ⟨j, xs ++ [j], by go_num, hown5, hX3, hB3, fun x hx => by
              rcases List.mem_append.1 hx with h9 | h9
              · exact hM.lt x h9
              · simp at h9; omega, by simp; omega, fun x hx hkx => by
              by_cases e9 : x = j
              · subst e9
                exact mkd_base hx (by simp)
              · exact mkd_mono (fun z hz => List.mem_append_left _ hz) (hM.gen x hx (by omega))⟩
            case measure => simp [intOf]
          · go_wp2
            go_roundw
            case rel => exact ⟨j, xs, by go_num, hR2, hX2, hBw, hM.lt, by omega, fun x hx hkx => by
              by_cases e9 : x = j
              · subst e9
                exact (HP.out _ hx).1 hpk
              · exact hM.gen x hx (by omega)⟩
            case measure => simp [intOf])
      · have halli : ¬ (((lst n p).length : Nat) : Int) < (n : Int) := by omega
        go_wp2_with fail
        clear c0 c1
        go_region_held3 (fun W => Below wr.heap.size wr W ∧ W.cell? ⟨w.heap.size, 0, none⟩ = some (.int .i64 n) ∧ W.cell? ⟨w.heap.size, 1, none⟩ = some (.slice v1 v2 v3))
          (first | exact hS0 | assumption | exact hS _ (bcat2 (And.left ‹_›) hl1))
          (first | (go_at_call 20; refine (HSP.out _ (And.left ‹_›)).mono ?_; rintro e1 W1 ⟨r1, rfl, hr1, hl1⟩; obtain ⟨t1, t3, ht9⟩ := own_slice hr1; rw [li_len] at ht9; subst ht9))
        all_goals (
          obtain ⟨hB9, c0, c1⟩ := ‹Below wr.heap.size wr W1 ∧ _›
          clear hr1 hl1 c0 c1
          go_wp2
          go_ret
          exact ⟨_, xs, rfl, row_below hM.row hB9, hM.lt, by omega, fun x hx => (HP.out x hx).1 (lst_full (by omega) hx), bcat2 hM.bel hB9⟩)
end Go.Proofs.YtmgengplfebmjaaDoor

namespace Go.Proofs.YtmgengplfebmjaaDoor
open Go Go.RowKit

/-- The document's search: js stand for the first makers. -/
def dhF (n : Nat) (zs : List Int) (e m : Nat) (ys : List Int) (d : Nat) (ks : List Nat) : Nat → List Nat → List (List Int)
  | 0, js => (match ext n zs e m ys d (ks.zip js) with | some S => [S.1] | none => [])
  | f + 1, js => (List.range m).flatMap fun b => if ordN n zs e (ks[js.length]?.getD 0) % ordN m ys d b = 0 then dhF n zs e m ys d ks f (js ++ [b]) else []
theorem dhF_none {n e m d : Nat} {zs ys : List Int} {ks js : List Nat} (g : IsGrp n zs e) (h : IsGrp m ys d) (hp : ∀ p, p ∈ ks.zip js → p.1 < n ∧ p.2 < m) (hall : ∀ x, x < n → Mkd n zs e (fun x => decide (x ∈ (ks.zip js).map Prod.fst)) x) (hno : ∀ φ, ¬ Leads n zs m ys (ks.zip js) φ) : dhF n zs e m ys d ks 0 js = [] := by
  unfold dhF
  cases hR : ext n zs e m ys d (ks.zip js) with
  | none => rfl
  | some S =>
    obtain ⟨H, _⟩ := ext_hom g h hp hR hall
    exact absurd ⟨H, fun p hpm => ext_at g h hp hR hpm⟩ (hno (vl S))
theorem dhF_some {n e m d : Nat} {zs ys : List Int} {ks js : List Nat} {φ : Nat → Nat} (g : IsGrp n zs e) (h : IsGrp m ys d) (hp : ∀ p, p ∈ ks.zip js → p.1 < n ∧ p.2 < m) (hall : ∀ x, x < n → Mkd n zs e (fun x => decide (x ∈ (ks.zip js).map Prod.fst)) x) (hφ : Leads n zs m ys (ks.zip js) φ) : dhF n zs e m ys d ks 0 js = [li ((List.range n).map φ)] := by
  unfold dhF
  obtain ⟨S, hR, hv⟩ := ext_of_hom g h hφ.1 (fun p hpm => ⟨(hp p hpm).1, hφ.2 p hpm⟩)
  rw [hR]
  obtain ⟨_, hS⟩ := ext_hom g h hp hR hall
  have hin : ∀ a, a < n → a ∈ S.2 := fun a ha => (ext_made g h hp hR).2 (hall a ha)
  show [S.1] = _
  rw [hS]
  congr 1
  unfold li
  rw [List.map_map, List.map_map]
  refine List.map_congr_left fun a ha => ?_
  have ha := List.mem_range.1 ha
  have h9 := hv a (hin a ha)
  show (vl S a : Int) = (φ a : Int)
  unfold vl
  omega
/-- What lies below a mark stays, but for the images' block and the box of what is found. -/
structure Kp (Bo tg ob : Nat) (W W' : World) : Prop where
  os : W'.os = W.os
  tape : W'.tape = W.tape
  output : W'.output = W.output
  size : W.heap.size ≤ W'.heap.size
  block : ∀ b, b < Bo → b ≠ tg → b ≠ ob → W'.heap[b]? = W.heap[b]?
section
variable {Bo tg ob : Nat} {W0 W W' : World}
theorem Kp.refl : Kp Bo tg ob W W := ⟨rfl, rfl, rfl, Nat.le_refl _, fun _ _ _ _ => rfl⟩
theorem Kp.below (h : Kp Bo tg ob W0 W) (hb : Below W.heap.size W W') (hB : Bo ≤ W.heap.size) : Kp Bo tg ob W0 W' :=
  ⟨hb.os.trans h.os, hb.tape.trans h.tape, hb.output.trans h.output, Nat.le_trans h.size hb.size, fun b h1 h2 h3 => (hb.block b (by omega)).trans (h.block b h1 h2 h3)⟩
theorem Kp.set (h : Kp Bo tg ob W0 W) (p : Addr) (v : Value) (hp : p.block = tg ∨ p.block = ob) : Kp Bo tg ob W0 (W.setCell p v) :=
  ⟨h.os, h.tape, h.output, by rw [size_set]; exact h.size, fun b h1 h2 h3 => (Below.heap_setCell W p v b (by rcases hp with hp | hp <;> omega)).trans (h.block b h1 h2 h3)⟩
theorem Kp.grown {row : Option Nat} (h : Kp Bo tg ob W0 W) (hg : W.grownBy W' row) (hB : Bo ≤ W.heap.size) (hr : ∀ j, row = some j → Bo ≤ j) : Kp Bo tg ob W0 W' :=
  ⟨hg.os.trans h.os, hg.tape.trans h.tape, hg.output.trans h.output, Nat.le_trans h.size hg.size, fun b h1 h2 h3 => (hg.block b (by omega) (fun h9 => by have := hr b h9.symm; omega)).trans (h.block b h1 h2 h3)⟩
theorem Kp.to_below (h : Kp Bo tg ob W0 W) {B : Nat} (h1 : B ≤ tg) (h2 : B ≤ ob) (h3 : B ≤ Bo) : Below B W0 W :=
  ⟨h.os, h.tape, h.output, h.size, fun b hb => h.block b (by omega) (by omega) (by omega)⟩
end
/-- How the images, and what is found, lie. -/
structure HmV (Bo tg ob : Nat) (W : World) (T : List Int) (os : List (List Int)) : Prop where
  sz : Bo ≤ W.heap.size
  tt : Blk W tg 3 (T.map (Value.int .i64))
  ex : ∃ r vs, Boxed W ob 25 r ∧ W.ownsRow Bo 22 1 r vs.length vs ∧ Lsts W Bo r vs os
section
variable {Bo tg ob : Nat} {W W' : World} {T : List Int} {os : List (List Int)}
theorem HmV.below (h : HmV Bo tg ob W T os) (hb : Below W.heap.size W W') : HmV Bo tg ob W' T os := by
  obtain ⟨r, vs, h1, h2, h3⟩ := h.ex
  exact ⟨Nat.le_trans h.sz hb.size, blk_below h.tt hb, r, vs, Boxed.below h1 hb, own_keep' h2 (fun g _ h9 => hb.block g h9), h3.keep hb.size (fun g _ h9 _ => hb.block g h9) (.inl rfl)⟩
theorem HmV.put (h : HmV Bo tg ob W T os) (hto : tg ≠ ob) (ht : tg < Bo) (k : Nat) (x : Int) : HmV Bo tg ob (W.setCell ⟨tg, k, none⟩ (.int .i64 x)) (T.set k x) os := by
  obtain ⟨r, vs, h1, h2, h3⟩ := h.ex
  have hk : ∀ c, c ≠ tg → (W.setCell ⟨tg, k, none⟩ (.int .i64 x)).heap[c]? = W.heap[c]? := fun c hc => Below.heap_setCell _ _ _ _ hc
  exact ⟨by rw [size_set]; exact h.sz, h.tt.setInt k x, r, vs, (hk _ (Ne.symm hto)).trans h1, own_keep' h2 (fun g h8 h9 => hk g (by omega)), h3.keep (by rw [size_set]; exact Nat.le_refl _) (fun g h8 h9 _ => hk g (by omega)) (.inl rfl)⟩
end
/-- What lies there all the while. -/
structure HmE (n : Nat) (zs : List Int) (e m : Nat) (ys : List Int) (d : Nat) (ks : List Nat) (v y : Value) (most : Nat) (l1 : Option Addr) (l3 lb gb hb tb mb rb nb rg Bo tg ob : Nat) (W0 : World) : Prop where
  fl : ∀ W, Kp Bo tg ob W0 W → Boxed W lb 22 (.slice l1 ks.length l3) ∧ Sl W (.slice l1 ks.length l3) (li ks)
  fg : ∀ W, Kp Bo tg ob W0 W → BoxG W gb n v ∧ Sl W v zs
  fh : ∀ W, Kp Bo tg ob W0 W → BoxG W hb m y ∧ Sl W y ys
  fm : ∀ W, Kp Bo tg ob W0 W → Boxed W mb 3 (.int .i64 most)
  fr : ∀ W, Kp Bo tg ob W0 W → Boxed W rb 22 (.slice (some ⟨rg, 0, none⟩) m m) ∧ Blk W rg 3 ((li ((List.range m).map (ordN m ys d))).map (Value.int .i64))
  fn : ∀ W, Kp Bo tg ob W0 W → Boxed W nb 42 (.func (.func 75) #[] #[.pointer (some ⟨lb, 0, none⟩), .pointer (some ⟨gb, 0, none⟩), .pointer (some ⟨hb, 0, none⟩), .pointer (some ⟨tb, 0, none⟩), .pointer (some ⟨ob, 0, none⟩), .pointer (some ⟨mb, 0, none⟩), .pointer (some ⟨rb, 0, none⟩), .pointer (some ⟨nb, 0, none⟩)])
  ft : ∀ W, Kp Bo tg ob W0 W → Boxed W tb 22 (.slice (some ⟨tg, 0, none⟩) ks.length ks.length)
  fne : tg ≠ ob
  ftl : tg < Bo
  fol : ob < Bo
/-- How the search ends. -/
def HmP (n : Nat) (zs : List Int) (e m : Nat) (ys : List Int) (d : Nat) (ks : List Nat) (most Bo tg ob : Nat) (W0 : World) (f : Nat) (js : List Nat) (os : List (List Int)) (x : Ending) (W' : World) : Prop :=
  Kp Bo tg ob W0 W' ∧ Bo ≤ W'.heap.size ∧ x = .returned (.bool (decide ((os ++ dhF n zs e m ys d ks f js).length ≤ most))) ∧ ((os ++ dhF n zs e m ys d ks f js).length ≤ most → ∃ T', HmV Bo tg ob W' T' (os ++ dhF n zs e m ys d ks f js) ∧ T'.length = ks.length ∧ T'.take js.length = li js)
theorem call75 (a x1 x2 x3 x4 x5 x6 x7 x8 : Value) (W : World) : Sem.run Tryd.prog (callFunc 75 (#[a] ++ #[x1, x2, x3, x4, x5, x6, x7, x8])) W = .ok (.enter 75 (#[a] ++ #[x1, x2, x3, x4, x5, x6, x7, x8])) W := by kernel_rfl
theorem nilq3 (w : World) : Sem.run Tryd.prog (binOp BinOp.neq 22 (.slice none 0 0) (.slice none 0 0)) w = .ok (.bool false) w := by kernel_rfl
theorem nilq4 (g l : Nat) (w : World) : Sem.run Tryd.prog (binOp BinOp.neq 22 (.slice (some ⟨g, 0, none⟩) l l) (.slice none 0 0)) w = .ok (.bool true) w := by kernel_rfl
set_option maxRecDepth 100000 in
set_option maxHeartbeats 8000000 in
theorem homs_leaf {n e m d : Nat} {zs ys : List Int} {ks : List Nat} {v1 : Option Addr} {v2 v3 : Nat} {y1 : Option Addr} {y2 y3 most : Nat} {l1 : Option Addr} {l3 lb gb hb tb mb rb nb rg Bo tg ob : Nat} {W0 : World}
    (hg : IsGrp n zs e) (hh : IsGrp m ys d) (hE : HmE n zs e m ys d ks (.slice v1 v2 v3) (.slice y1 y2 y3) most l1 l3 lb gb hb tb mb rb nb rg Bo tg ob W0) (hkn : ∀ k, k ∈ ks → k < n) (hks : ks.length ≤ n) (hmost : most ≤ 10000) (hall : ∀ x, x < n → Mkd n zs e (fun a => decide (a ∈ ks)) x)
    (js : List Nat) (T : List Int) (os : List (List Int)) (W : World) (hjl : js.length = ks.length) (hjm : ∀ j, j ∈ js → j < m) (hK : Kp Bo tg ob W0 W) (hV : HmV Bo tg ob W T os) (hTl : T.length = ks.length) (hTj : T.take js.length = li js) (hos : os.length ≤ most) :
    Calls Tryd.prog 75 (#[.int .i64 js.length] ++ #[.pointer (some ⟨lb, 0, none⟩), .pointer (some ⟨gb, 0, none⟩), .pointer (some ⟨hb, 0, none⟩), .pointer (some ⟨tb, 0, none⟩), .pointer (some ⟨ob, 0, none⟩), .pointer (some ⟨mb, 0, none⟩), .pointer (some ⟨rb, 0, none⟩), .pointer (some ⟨nb, 0, none⟩)]) W (HmP n zs e m ys d ks most Bo tg ob W0 0 js os) := by
  show Calls Tryd.prog 75 #[.int .i64 js.length, .pointer (some ⟨lb, 0, none⟩), .pointer (some ⟨gb, 0, none⟩), .pointer (some ⟨hb, 0, none⟩), .pointer (some ⟨tb, 0, none⟩), .pointer (some ⟨ob, 0, none⟩), .pointer (some ⟨mb, 0, none⟩), .pointer (some ⟨rb, 0, none⟩), .pointer (some ⟨nb, 0, none⟩)] W _
  obtain ⟨i2, hi2, hz0, hz1, hz2⟩ := info_parts info22b
  have hn60 := hg.tab.le
  rw [hjl] at hTj ⊢
  rw [← hTl, List.take_length] at hTj
  have hz1' : (ks.zip js).map Prod.fst = ks := List.map_fst_zip (by omega)
  have hz2' : (ks.zip js).map Prod.snd = js := List.map_snd_zip (by omega)
  have hp : ∀ p, p ∈ ks.zip js → p.1 < n ∧ p.2 < m := fun p hp => ⟨hkn _ (List.of_mem_zip hp).1, hjm _ (List.of_mem_zip hp).2⟩
  have hall' : ∀ x, x < n → Mkd n zs e (fun x => decide (x ∈ (ks.zip js).map Prod.fst)) x := by rw [hz1']; exact hall
  obtain ⟨hl0, hlS⟩ := hE.fl W hK
  obtain ⟨hg0, hgS⟩ := hE.fg W hK
  obtain ⟨hh0, hhS⟩ := hE.fh W hK
  have ht0 := hE.ft W hK
  have hTS : Sl W (.slice (some ⟨tg, 0, none⟩) ks.length ks.length) (li js) := by
    rw [← hTj]
    exact Sl.of_blk hV.tt hTl.symm (by omega)
  have HSP := hide (spread_ok n e m d (.slice v1 v2 v3) (.slice y1 y2 y3) (.slice l1 ks.length l3) (.slice (some ⟨tg, 0, none⟩) ks.length ks.length) zs ys (ks.zip js) W hg hh hgS hhS (by rw [hz1']; exact hlS) (by rw [hz2']; exact hTS) hp hall')
  have c0 := hl0.cell
  obtain ⟨c1, c2, _, _⟩ := hg0.two
  obtain ⟨c3, c4, _, _⟩ := hh0.two
  have c5 := ht0.cell
  have HNO := hide (dhF_none (d := d) hg hh hp hall')
  have HSO := hide (fun φ (hφ : Leads n zs m ys (ks.zip js) φ) => dhF_some (d := d) hg hh hp hall' hφ)
  have HTL := hide hTl
  have HTJ := hide hTj
  have HJL := hide hjl
  clear hlS hgS hhS hTS hp hall' hz1' hz2' hTl hTj hjl hl0 hg0 hh0 ht0
  go_enter Tryd.func75, Tryd.ntmps75
  go_wp2_with fail
  clear c0 c1 c2 c3 c4 c5
  refine HSP.out.mono ?_
  rintro x W1 ⟨hb1, hcase⟩
  have hK1 := hK.below hb1 hV.sz
  have hV1 := hV.below hb1
  have hm1 := (hE.fm W1 hK1).cell
  rcases hcase with ⟨rfl, hno⟩ | ⟨φ, g, hφ, rfl, hgW, hgB⟩
  · have hd := HNO.out hno
    obtain ⟨r, vs, hr1, hr2, hr3⟩ := hV1.ex
    obtain ⟨ra, rc, rfl⟩ := own_slice' hr2
    have hvl := hr3.1
    have k0 := hr1.cell
    have hle : ((vs.length : Nat) : Int) ≤ (most : Int) := by omega
    have hq := nilq3 W1
    have HVL := hide hvl
    clear hvl
    go_wp2
    go_ret
    refine ⟨hK1, hV1.sz, ?_, ?_⟩
    · rw [hd, List.append_nil, decide_eq_true hos]; rfl
    · rw [hd, List.append_nil]
      exact fun _ => ⟨T, hV1, HTL.out, by rw [HJL.out, ← HTL.out, List.take_length]; exact HTJ.out⟩
  · have hd := HSO.out φ hφ
    obtain ⟨r, vs, hr1, hr2, hr3⟩ := hV1.ex
    obtain ⟨ra, rc, rfl⟩ := own_slice' hr2
    have HOB := hide (show ∀ j, (Value.slice ra vs.length rc).ownBlock = some j → j < W.heap.size from fun j hj => by
      obtain ⟨r9, vs9, h91, h92, _⟩ := hV.ex
      have h93 := (Boxed.below h91 hb1).cell
      rw [hr1.cell] at h93
      injection h93 with h93
      subst h93
      rcases h92.2 with ⟨h8, _⟩ | ⟨g9, cap9, cur9, h8, h7, h6, _⟩
      · rw [h8] at hj; simp [Value.ownBlock] at hj
      · rw [h8] at hj
        simp [Value.ownBlock] at hj
        subst hj
        exact (Array.getElem?_eq_some_iff.1 h6).1)
    have hvl := hr3.1
    have k0 := hr1.cell
    have kf := hr1.frozen
    have hq := nilq4 g n W1
    have HVL := hide hvl
    have hv9 : vs.length ≤ 10000 := by omega
    have hB1 := hV1.sz
    clear hvl
    go_wp2_with (first
      | (at_builtin; refine wpList_append_own_at _ rfl _ _ 25 rfl Bo 22 i2 (.slice none 0 0) 1 24 under25b hi2 hz0 hz1 hz2 rfl (by decide) _ _ _ rfl (World.ownsRow.alloc hr2 _) ⟨W1.heap.size, 0, none⟩ 1 1 [.slice (some ⟨g, 0, none⟩) n n] rfl rfl ?c1 ?c2 ?c3 ?c4 ?c5 ?_))
    case c1 => exact cell_one_new _ _ _
    case c2 => simp [Value.oneCell']
    case c3 => unfold maxLen; omega
    case c4 => omega
    case c5 => simp; omega
    intro v' W2 hown' hgrow hnil hloc
    obtain ⟨ra', rcap', rfl⟩ := own_slice' hown'
    have hge := owns_ge hr2
    have hob : ∀ j, (Value.slice ra vs.length rc).ownBlock = some j → j < W.heap.size := HOB.out
    have hne : ∀ b, b < Bo → some b ≠ (Value.slice ra vs.length rc).ownBlock := fun b h1 h2 => by have := hge b h2.symm; omega
    have hO2 : Boxed W2 ob 25 (.slice ra vs.length rc) := (hr1.alloc _).kept hgrow (hne _ hE.fol)
    have hK2 : Kp Bo tg ob W0 W2 := (hK1.below (balloc W1 _) hB1).grown hgrow (by simp; omega) (fun j e => hge j e)
    have hT2 : Blk W2 tg 3 (T.map (Value.int .i64)) := (hV1.tt.alloc _).grown hgrow (hne _ hE.ftl)
    have hszw : W1.heap.size + 1 ≤ W2.heap.size := by have := hgrow.size; simpa using this
    have hK3 := hK2.set ⟨ob, 0, none⟩ (.slice ra' (vs.length + 1) rcap') (.inr rfl)
    have hO3 := hO2.set (.slice ra' (vs.length + 1) rcap')
    have hT3 : Blk (W2.setCell ⟨ob, 0, none⟩ (.slice ra' (vs.length + 1) rcap')) tg 3 (T.map (Value.int .i64)) := hT2.other (p := ⟨ob, 0, none⟩) hE.fne _
    have hkeep : ∀ b, b < W1.heap.size → b ≠ ob → (Value.slice ra vs.length rc).ownBlock ≠ some b → (W2.setCell ⟨ob, 0, none⟩ (.slice ra' (vs.length + 1) rcap')).heap[b]? = W1.heap[b]? := fun b h1 h2 h3 => by
      rw [Below.heap_setCell _ _ _ _ h2, hgrow.block b (by simp; omega) (fun e => h3 e.symm)]
      exact Below.heap_alloc _ _ _ h1
    have hlo : (Value.slice ra' (vs.length + 1) rcap').ownBlock = (Value.slice ra vs.length rc).ownBlock ∨ ∀ g, (Value.slice ra' (vs.length + 1) rcap').ownBlock = some g → W1.heap.size ≤ g := by
      rcases hloc with h | h
      · exact .inl h
      · right; intro g hg; rw [h] at hg; simp at hg; omega
    have hgn : (Value.slice ra vs.length rc).ownBlock ≠ some g := fun e => by have := hob g e; omega
    have hgn' : ∀ b, (Value.slice ra' (vs.length + 1) rcap').ownBlock = some b → g ≠ b := fun b hb e => by
      subst e
      rcases hlo with h | h
      · exact hgn (h.symm.trans hb)
      · have := h g hb; have := hgB.lt; omega
    have hgo : g ≠ ob := fun e => by have := hE.fol; have := hV.sz; omega
    have hM5 : Blk (W2.setCell ⟨ob, 0, none⟩ (.slice ra' (vs.length + 1) rcap')) g 3 ((li ((List.range n).map φ)).map (Value.int .i64)) := (hkeep g hgB.lt hgo hgn).trans hgB
    have hcl : (li ((List.range n).map φ)).length = n := by simp [li]
    have hV3 : HmV Bo tg ob (W2.setCell ⟨ob, 0, none⟩ (.slice ra' (vs.length + 1) rcap')) T (os ++ [li ((List.range n).map φ)]) := by
      refine ⟨by rw [size_set]; omega, hT3, .slice ra' (vs.length + 1) rcap', vs ++ [.slice (some ⟨g, 0, none⟩) n n], hO3, ?_, ?_⟩
      · rw [List.length_append]
        exact own_keep' hown' (fun b h1 h2 => Below.heap_setCell _ _ _ _ (by have := hE.fol; simp; omega))
      · refine (hr3.keep (by rw [size_set]; omega) (fun b h1 h2 h3 => hkeep b h2 (by have := hE.fol; omega) h3) hlo).snoc ?_
        exact ⟨some ⟨g, 0, none⟩, n, g, 0, by rw [hcl], ⟨fun _ => rfl, fun j hj => by rw [Nat.zero_add]; exact hM5.int hj⟩, hM5.lt, by omega, by unfold maxLen; omega, by have := hV.sz; omega, hgn'⟩
    have k1 := hO2.cell
    have kf1 := hO2.frozen
    have k3 := hO3.cell
    have hm3 := (hE.fm _ hK3).cell
    have HK3 := hide hK3
    have HV3 := hide hV3
    clear hM5 hgo hgn' hgn hlo hkeep hT3 hO3 hK3 hK2 hT2 hO2 hne hob hge hown' hgrow hnil hloc hV3 hcl hm1 kf k0
    have hvo : vs.length + 1 = (os ++ [li ((List.range n).map φ)]).length := by rw [List.length_append, HVL.out]; rfl
    have HVO := hide hvo
    clear hvo
    by_cases hle : vs.length + 1 ≤ most
    · have hlei : ((vs.length + 1 : Nat) : Int) ≤ (most : Int) := by omega
      have hlej : ((vs.length : Nat) : Int) + 1 ≤ (most : Int) := by omega
      go_wp2
      go_ret
      refine ⟨HK3.out, HV3.out.sz, ?_, ?_⟩
      · rw [hd, ← HVO.out, decide_eq_true hle]; rfl
      · rw [hd]
        exact fun _ => ⟨T, HV3.out, HTL.out, by rw [HJL.out, ← HTL.out, List.take_length]; exact HTJ.out⟩
    · have hlei : ¬ ((vs.length + 1 : Nat) : Int) ≤ (most : Int) := by omega
      have hlej : ¬ ((vs.length : Nat) : Int) + 1 ≤ (most : Int) := by omega
      go_wp2
      go_ret
      refine ⟨HK3.out, HV3.out.sz, ?_, ?_⟩
      · rw [hd, ← HVO.out, decide_eq_false hle]; rfl
      · rw [hd, ← HVO.out]
        exact fun h => absurd h hle
theorem take_set_one {T : List Int} {k : Nat} {x : Int} (h : k < T.length) : (T.set k x).take (k + 1) = T.take k ++ [x] := by
  rw [List.take_set, List.take_succ_eq_append_getElem h, List.set_append_right _ _ (by rw [List.length_take]; omega)]
  rw [List.length_take, show k - min k T.length = 0 by omega]
  rfl
theorem flat_succ {α : Type} (F : Nat → List α) (y : Nat) : (List.range (y + 1)).flatMap F = (List.range y).flatMap F ++ F y := by
  rw [List.range_succ, List.flatMap_append]
  simp
theorem flat_le {α : Type} (F : Nat → List α) {y m : Nat} (h : y ≤ m) : ((List.range y).flatMap F).length ≤ ((List.range m).flatMap F).length := by
  obtain ⟨k, rfl⟩ : ∃ k, m = y + k := ⟨m - y, by omega⟩
  induction k with
  | zero => exact Nat.le_refl _
  | succ k ih => rw [← Nat.add_assoc, flat_succ, List.length_append]; have := ih (by omega); omega
set_option maxRecDepth 100000 in
set_option maxHeartbeats 8000000 in
theorem homs_next {n e m d : Nat} {zs ys : List Int} {ks : List Nat} {v1 : Option Addr} {v2 v3 : Nat} {y1 : Option Addr} {y2 y3 most : Nat} {l1 : Option Addr} {l3 lb gb hb tb mb rb nb rg Bo tg ob : Nat} {W0 : World}
    (hg : IsGrp n zs e) (hh : IsGrp m ys d) (hE : HmE n zs e m ys d ks (.slice v1 v2 v3) (.slice y1 y2 y3) most l1 l3 lb gb hb tb mb rb nb rg Bo tg ob W0) (hkn : ∀ k, k ∈ ks → k < n) (hks : ks.length ≤ n) (hmost : most ≤ 10000) (hall : ∀ x, x < n → Mkd n zs e (fun a => decide (a ∈ ks)) x) :
    ∀ (f : Nat) (js : List Nat) (T : List Int) (os : List (List Int)) (W : World), js.length + f = ks.length → (∀ j, j ∈ js → j < m) → Kp Bo tg ob W0 W → HmV Bo tg ob W T os → T.length = ks.length → T.take js.length = li js → os.length ≤ most →
    Calls Tryd.prog 75 (#[.int .i64 js.length] ++ #[.pointer (some ⟨lb, 0, none⟩), .pointer (some ⟨gb, 0, none⟩), .pointer (some ⟨hb, 0, none⟩), .pointer (some ⟨tb, 0, none⟩), .pointer (some ⟨ob, 0, none⟩), .pointer (some ⟨mb, 0, none⟩), .pointer (some ⟨rb, 0, none⟩), .pointer (some ⟨nb, 0, none⟩)]) W (HmP n zs e m ys d ks most Bo tg ob W0 f js os) := by
  have hn60 := hg.tab.le
  have hm60 := hh.tab.le
  intro f
  induction f with
  | zero => exact fun js T os W h1 h2 h3 h4 h5 h6 h7 => homs_leaf hg hh hE hkn hks hmost hall js T os W h1 h2 h3 h4 h5 h6 h7
  | succ f ih =>
    intro js T os W hjl hjm hK hV hTl hTj hos
    show Calls Tryd.prog 75 #[.int .i64 js.length, .pointer (some ⟨lb, 0, none⟩), .pointer (some ⟨gb, 0, none⟩), .pointer (some ⟨hb, 0, none⟩), .pointer (some ⟨tb, 0, none⟩), .pointer (some ⟨ob, 0, none⟩), .pointer (some ⟨mb, 0, none⟩), .pointer (some ⟨rb, 0, none⟩), .pointer (some ⟨nb, 0, none⟩)] W _
    have HIH := hide ih
    clear ih
    obtain ⟨F, hF⟩ : ∃ F : Nat → List (List Int), F = fun b => if ordN n zs e (ks[js.length]?.getD 0) % ordN m ys d b = 0 then dhF n zs e m ys d ks f (js ++ [b]) else [] := ⟨_, rfl⟩
    have hdF : dhF n zs e m ys d ks (f + 1) js = (List.range m).flatMap F := by rw [hF]; rfl
    have hjk : js.length < ks.length := by omega
    obtain ⟨c, hc⟩ : ∃ c, ks[js.length] = c := ⟨_, rfl⟩
    have hcn : c < n := by rw [← hc]; exact hkn _ (List.getElem_mem hjk)
    rw [show ks[js.length]?.getD 0 = c by rw [List.getElem?_eq_getElem hjk, Option.getD_some, hc]] at hF
    have hop := ord_pos (n := n) (zs := zs) (e := e) c
    have hol := ord_le hg hcn
    have HO := hide (fun W9 (h : Below W.heap.size W W9) => O_ok hg hcn (.slice v1 v2 v3) W9 ((hE.fg W hK).2.below h))
    have HORD := hide (fun b (hb9 : b < m) => And.intro (ord_pos (n := m) (zs := ys) (e := d) b) (ord_le hh hb9))
    generalize ordN n zs e c = oc at *
    obtain ⟨hl0, hlS⟩ := hE.fl W hK
    obtain ⟨hg0, hgS⟩ := hE.fg W hK
    obtain ⟨la, lcap, lpb, lpo, hlv, hlr, hlp, hl4, hl5⟩ := hlS
    injection hlv with e1 e2 e3
    subst e1 e3
    obtain rfl := hlr.at_ (by rw [li_len]; omega)
    have cl := hlr.cell js.length (by rw [li_len]; exact hjk)
    rw [li_get hjk, hc] at cl
    have c0 := hl0.cell
    obtain ⟨c1, c2, _, _⟩ := hg0.two
    have hjk1 : ¬ ((js.length : Nat) : Int) = ((ks.length : Nat) : Int) := by omega
    have hjk2 : ((js.length : Nat) : Int) < ((ks.length : Nat) : Int) := by omega
    have hS : ∀ W9, Below W.heap.size W W9 → (Below W.heap.size W W9 ∧ W9.cell? ⟨lb, 0, none⟩ = some (.slice (some ⟨lpb, lpo, none⟩) ks.length l3) ∧ W9.cell? ⟨gb, 0, none⟩ = some (.int .i64 n) ∧ W9.cell? ⟨gb, 1, none⟩ = some (.slice v1 v2 v3) ∧ W9.cell? ⟨lpb, lpo + js.length, none⟩ = some (.int .i64 c)) := fun W9 h => ⟨h, below_cell h c0, below_cell h c1, below_cell h c2, below_cell h cl⟩
    have hS0 := hS _ (bdrew (Below.refl _ W))
    have HJ := hide hjl
    have HTL := hide hTl
    have HTJ := hide hTj
    have HF := hide hF
    have HDF := hide hdF
    clear hjl hTl hTj hF hdF hlr hl4 hl5 hc e2 hl0 hg0 hgS
    go_enter Tryd.func75, Tryd.ntmps75
    go_wp2_with fail
    clear c0 c1 c2 cl
    go_region_held3 (fun W9 => Below W.heap.size W W9 ∧ W9.cell? ⟨lb, 0, none⟩ = some (.slice (some ⟨lpb, lpo, none⟩) ks.length l3) ∧ W9.cell? ⟨gb, 0, none⟩ = some (.int .i64 n) ∧ W9.cell? ⟨gb, 1, none⟩ = some (.slice v1 v2 v3) ∧ W9.cell? ⟨lpb, lpo + js.length, none⟩ = some (.int .i64 c))
      (first | exact hS0 | assumption | exact hS _ (bcat2 (And.left ‹_›) hq1))
      (first | (go_at_call 47; refine (HO.out _ (And.left ‹_›)).mono ?_; rintro e1 W1 ⟨rfl, hq1⟩))
    all_goals (
      have hB1 := And.left ‹Below W.heap.size W W1 ∧ _›
      have hK1 := hK.below hB1 hV.sz
      have hV1 := hV.below hB1
      clear hS hS0 hq1
      go_wp2
      go_loopw [13] (fun i wr => ∃ (b : Nat) (T' : List Int), b ≤ m ∧ i = .int .i64 b ∧ Kp Bo tg ob W0 wr ∧ HmV Bo tg ob wr T' (os ++ (List.range b).flatMap F) ∧ T'.length = ks.length ∧ T'.take js.length = li js ∧ (os ++ (List.range b).flatMap F).length ≤ most) (fun i _ => m - (intOf i).toNat)
      case atStart => exact ⟨0, T, Nat.zero_le _, rfl, hK1, by simpa using hV1, HTL.out, HTJ.out, by simpa using hos⟩
      case round =>
        obtain ⟨b, T', hbm, rfl, hKb, hVb, hTl, hTj, hob⟩ := hrel
        obtain ⟨h0, _⟩ := hE.fh wr hKb
        obtain ⟨d0, d1, _, _⟩ := h0.two
        by_cases hlt : b < m
        · have hbi : (b : Int) < (m : Int) := by omega
          obtain ⟨hr0, hrB⟩ := hE.fr wr hKb
          have k0 := hr0.cell
          have k1 := hrB.int (y := b) (by rw [li_len]; simpa using hlt)
          rw [show (li ((List.range m).map (ordN m ys d)))[b]?.getD 0 = (ordN m ys d b : Int) by simp [li, hlt]] at k1
          obtain ⟨ho1, ho2⟩ := HORD.out b hlt
          obtain ⟨q, hq⟩ : ∃ q, oc % ordN m ys d b = q := ⟨_, rfl⟩
          have hFb : F b = if q = 0 then dhF n zs e m ys d ks f (js ++ [b]) else [] := by rw [HF.out, ← hq]
          have HFB := hide hFb
          have HFS := hide (flat_succ F b)
          have HFL := hide (flat_le F (show b + 1 ≤ m by omega))
          generalize ordN m ys d b = o at *
          have hrm : (oc : Int).tmod (o : Int) = (q : Int) := by rw [← hq]; exact tmod_nat o rfl
          have hqn : q ≤ 60 := by rw [← hq]; exact Nat.le_trans (Nat.mod_le _ _) (by omega)
          have hwq : IntKind.i64.wrap (q : Int) = (q : Int) := by rw [IntKind.wrap_i64]; omega
          have ho0 : ¬ o = 0 := by omega
          have ho0i : ¬ (o : Int) = 0 := by omega
          have HTl := hide hTl
          have HTj := hide hTj
          have HOb := hide hob
          clear hq hFb hTl hTj hob
          by_cases hq0 : q = 0
          · subst hq0
            have hrm : (oc : Int).tmod (o : Int) = 0 := hrm
            have HFB2 : Hid (F b = dhF n zs e m ys d ks f (js ++ [b])) := by
              have h9 := HFB.out
              rw [if_pos rfl] at h9
              exact h9
            clear HFB
            have ht0 := (hE.ft wr hKb).cell
            have kt := hVb.tt.int (y := js.length) (by rw [HTl.out]; exact hjk)
            have kf := hVb.tt.frozen js.length
            have hK2 := hKb.set ⟨tg, js.length, none⟩ (.int .i64 b) (.inl rfl)
            have hV2 := hVb.put hE.fne hE.ftl js.length b
            have kn := (hE.fn _ hK2).cell
            have hw9 : IntKind.i64.wrap ((js.length : Int) + 1) = (js.length : Int) + 1 := by rw [IntKind.wrap_i64]; omega
            have HC := hide (show Calls Tryd.prog 75 (#[.int .i64 ((js.length : Int) + 1)] ++ #[.pointer (some ⟨lb, 0, none⟩), .pointer (some ⟨gb, 0, none⟩), .pointer (some ⟨hb, 0, none⟩), .pointer (some ⟨tb, 0, none⟩), .pointer (some ⟨ob, 0, none⟩), .pointer (some ⟨mb, 0, none⟩), .pointer (some ⟨rb, 0, none⟩), .pointer (some ⟨nb, 0, none⟩)]) (wr.setCell ⟨tg, js.length, none⟩ (.int .i64 b)) (HmP n zs e m ys d ks most Bo tg ob W0 f (js ++ [b]) (os ++ (List.range b).flatMap F)) from by
              have h9 := HIH.out (js ++ [b]) (T'.set js.length b) (os ++ (List.range b).flatMap F) (wr.setCell ⟨tg, js.length, none⟩ (.int .i64 b)) (by rw [List.length_append]; have := HJ.out; simp; omega) (fun j hj => by
                rcases List.mem_append.1 hj with h8 | h8
                · exact hjm j h8
                · simp at h8; omega) hK2 hV2 (by rw [List.length_set]; exact HTl.out) (by
                rw [List.length_append]
                show (T'.set js.length b).take (js.length + 1) = _
                rw [take_set_one (by rw [HTl.out]; exact hjk), HTj.out]
                simp [li]) HOb.out
              rw [show (((js ++ [b]).length : Nat) : Int) = (js.length : Int) + 1 by simp] at h9
              exact h9)
            have hcall := call75
            clear hV2 hK2
            go_wp2_with fail
            refine HC.out.mono ?_
            rintro x W2 ⟨hK3, hs3, rfl, hok⟩
            rw [List.append_assoc, ← HFB2.out, ← HFS.out] at hok ⊢
            by_cases hle : (os ++ (List.range (b + 1)).flatMap F).length ≤ most
            · obtain ⟨T2, hV3, hT3, hT4⟩ := hok hle
              rw [decide_eq_true hle]
              have hT5 : T2.take js.length = li js := by
                have := congrArg (List.take js.length) hT4
                rw [List.take_take, List.length_append] at this
                rw [show min js.length (js.length + [b].length) = js.length by simp] at this
                rw [this]
                simp [li]
              clear hok
              go_wp2
              go_roundw
              case rel => exact ⟨b + 1, T2, by omega, by go_num, hK3, hV3, hT3, hT5, hle⟩
              case measure => simp [intOf]; omega
            · rw [decide_eq_false hle]
              clear hok
              go_wp2
              go_ret
              have hgt : ¬ (os ++ (List.range m).flatMap F).length ≤ most := by
                have := HFL.out
                rw [List.length_append] at hle ⊢
                omega
              refine ⟨hK3, hs3, ?_, ?_⟩
              · rw [HDF.out, decide_eq_false hgt]; rfl
              · rw [HDF.out]
                exact fun h => absurd h hgt
          · have hqi : ¬ (q : Int) = 0 := by omega
            have hFe : (List.range (b + 1)).flatMap F = (List.range b).flatMap F := by
              have h9 := HFB.out
              rw [if_neg hq0] at h9
              rw [HFS.out, h9, List.append_nil]
            go_wp2
            go_roundw
            case rel => exact ⟨b + 1, T', by omega, by go_num, hKb, by rw [hFe]; exact hVb, HTl.out, HTj.out, by rw [hFe]; exact HOb.out⟩
            case measure => simp [intOf]; omega
        · have hbi : ¬ (b : Int) < (m : Int) := by omega
          have hbe : b = m := by omega
          go_wp2
          go_ret
          refine ⟨hKb, hVb.sz, ?_, ?_⟩
          · rw [HDF.out, ← hbe, decide_eq_true hob]; rfl
          · rw [HDF.out, ← hbe]
            exact fun _ => ⟨T', hVb, hTl, hTj⟩)
end Go.Proofs.YtmgengplfebmjaaDoor

namespace Go.Proofs.YtmgengplfebmjaaDoor
open Go Go.RowKit

set_option maxRecDepth 100000 in
set_option maxHeartbeats 2000000 in
theorem less_ok (u v : Value) (xs ys : List Int) (w : World) (hu : Sl w u xs) (hv : Sl w v ys) (hl : xs.length = ys.length) :
    Calls Tryd.prog 39 #[u, v] w fun e w' => e = .returned (.bool (decide (cmpL xs ys < 0))) ∧ Below w.heap.size w w' := by
  obtain ⟨a, cap, pb, po, rfl, hr, hp, hc1, hm1⟩ := hu
  obtain ⟨b, cap', qb, qo, rfl, hs, hq, hc2, hm2⟩ := hv
  unfold maxLen at hm1 hm2
  have HL := hide hl
  have hle1 : xs.length ≤ ys.length := by omega
  have hle2 : ys.length ≤ xs.length := by omega
  clear hl
  go_enter Tryd.func39, Tryd.ntmps39
  go_wp2
  go_loopw [5] (fun i wr => ∃ k j : Nat, k ≤ xs.length ∧ i = .int .i64 k ∧ wr = w.drewN j ∧ cmpL xs ys = cmpL (xs.drop k) (ys.drop k)) (fun i _ => xs.length - (intOf i).toNat)
  case atStart => exact ⟨0, 0, Nat.zero_le _, rfl, rfl, by simp⟩
  case round =>
    obtain ⟨k, j, hk, rfl, rfl, hsame⟩ := hrel
    have HS := hide hsame
    clear hsame
    by_cases hlt : k < xs.length
    · have hlu : k < ys.length := by omega
      have hx := hr.cell k hlt
      have hy := hs.cell k hlu
      have HE := hide (cmpL_step hlt hlu)
      rw [List.getElem?_eq_getElem hlt, Option.getD_some] at hx
      rw [List.getElem?_eq_getElem hlu, Option.getD_some] at hy
      obtain rfl := hr.at_ (by omega)
      obtain rfl := hs.at_ (by omega)
      generalize xs[k] = x at *
      generalize ys[k] = y at *
      have hki : (k : Int) < (xs.length : Int) := by omega
      have hkj : (k : Int) < (ys.length : Int) := by omega
      by_cases hxy : x = y
      · have hb : (x != y) = false := by simp [hxy]
        have HN := hide (show cmpL xs ys = cmpL (xs.drop (k + 1)) (ys.drop (k + 1)) by
          rw [HS.out, HE.out, if_neg (by rw [Decidable.not_not]; exact cmpI_zero.2 hxy)])
        clear hxy
        go_wp2
        go_quiet (fail)
        go_wp2
        go_roundw
        case rel => exact ⟨k + 1, _, by omega, by go_num, rfl, HN.out⟩
        case measure => simp [intOf]; omega
      · have hb : (x != y) = true := by simp [hxy]
        have HD := hide (show decide (cmpL xs ys < 0) = decide (x < y) by
          rw [HS.out, HE.out, if_pos (fun h => hxy (cmpI_zero.1 h))]
          rw [Bool.eq_iff_iff, decide_eq_true_eq, decide_eq_true_eq]
          exact cmpI_lt)
        clear hxy
        go_wp2
        go_quiet (fail)
        go_wp2
        go_quiet (fail)
        go_wp2
        go_ret
        exact ⟨by rw [HD.out]; rfl, bdrewN (bdrewN (bdrewN (Below.refl _ w) _) _) _⟩
    · have HD := hide (show decide (cmpL xs ys < 0) = false by
        rw [HS.out, cmpL_end (by omega) (by omega)]; rfl)
      go_wp2
      go_ret
      exact ⟨by rw [HD.out]; rfl, bdrewN (Below.refl _ w) _⟩

/-- Two that stand beside each other, changed. -/
def swp {α : Type} (l : List α) (j : Nat) (x y : α) : List α := (l.set (j + 1) x).set j y
theorem swp_len {α : Type} {l : List α} {j : Nat} {x y : α} : (swp l j x y).length = l.length := by simp [swp]
theorem swp_perm {α : Type} {l : List α} {j : Nat} {x y : α} (h : j + 1 < l.length) (hx : l[j]? = some x) (hy : l[j + 1]? = some y) : (swp l j x y).Perm l := by
  have h1 := @List.set_set_perm _ l (j + 1) j h (by omega)
  rw [List.getElem?_eq_getElem (by omega)] at hx hy
  injection hx with hx
  injection hy with hy
  rw [hx, hy] at h1
  exact h1
theorem swp_get {α : Type} {l : List α} {j t : Nat} {x y : α} (h : j + 1 < l.length) : (swp l j x y)[t]? = if t = j then some y else if t = j + 1 then some x else l[t]? := by
  unfold swp
  rw [List.getElem?_set, List.getElem?_set]
  by_cases h1 : t = j
  · subst h1
    rw [if_pos rfl, if_pos rfl, if_pos (by rw [List.length_set]; omega)]
  · rw [if_neg (fun e => h1 e.symm), if_neg h1]
    by_cases h2 : t = j + 1
    · subst h2
      rw [if_pos rfl, if_pos rfl, if_pos h]
    · rw [if_neg (fun e => h2 e.symm), if_neg h2]
theorem lsts_swp {W : World} {B : Nat} {r : Value} {vs : List Value} {ls : List (List Int)} {j : Nat} {a b : Value} {x y : List Int} (h : Lsts W B r vs ls) (hj : j + 1 < vs.length) (ha : vs[j]? = some a) (hb : vs[j + 1]? = some b) (hx : ls[j]? = some x) (hy : ls[j + 1]? = some y) : Lsts W B r (swp vs j a b) (swp ls j x y) := by
  refine ⟨by rw [swp_len, swp_len]; exact h.1, fun t u l h1 h2 => ?_⟩
  have hl := h.1
  rw [swp_get hj] at h1
  rw [swp_get (by omega)] at h2
  by_cases e1 : t = j
  · rw [if_pos e1] at h1 h2
    injection h1 with h1
    injection h2 with h2
    subst h1 h2
    exact h.2 (j + 1) _ _ hb hy
  · rw [if_neg e1] at h1 h2
    by_cases e2 : t = j + 1
    · rw [if_pos e2] at h1 h2
      injection h1 with h1
      injection h2 with h2
      subst h1 h2
      exact h.2 j _ _ ha hx
    · rw [if_neg e2] at h1 h2
      exact h.2 t u l h1 h2
/-- In order up to k, but for what stands at j. -/
def srtBut (ms : List (List Int)) (k j : Nat) : Prop := ∀ a b, a < b → b ≤ k → b ≠ j → b < ms.length → ¬ cmpL (ms[b]?.getD []) (ms[a]?.getD []) < 0
def srtTo (ms : List (List Int)) (k : Nat) : Prop := ∀ a b, a < b → b < k → b < ms.length → ¬ cmpL (ms[b]?.getD []) (ms[a]?.getD []) < 0
theorem srtBut.start {ms : List (List Int)} {k : Nat} (h : srtTo ms k) : srtBut ms k k := fun a b h1 h2 h3 h4 => h a b h1 (by omega) h4
theorem srtBut.fin {ms : List (List Int)} {k j : Nat} (h : srtBut ms k j) (hj : j ≤ k) (he : j = 0 ∨ ¬ cmpL (ms[j]?.getD []) (ms[j - 1]?.getD []) < 0) : srtTo ms (k + 1) := fun a b h1 h2 h3 => by
  by_cases e : b = j
  · subst e
    rcases he with he | he
    · omega
    · by_cases e2 : a = b - 1
      · subst e2; exact he
      · exact cmpL_ge he (h a (b - 1) (by omega) (by omega) (by omega) (by omega))
  · exact h a b h1 (by omega) e h3
theorem srtBut.step {ms : List (List Int)} {k j : Nat} {x y : List Int} (h : srtBut ms k (j + 1)) (hk : j + 1 ≤ k) (hl : j + 1 < ms.length) (hx : ms[j]? = some x) (hy : ms[j + 1]? = some y) (hlt : cmpL y x < 0) : srtBut (swp ms j x y) k j := fun a b h1 h2 h3 h4 => by
  rw [swp_len] at h4
  have hgx : ms[j]?.getD [] = x := by rw [hx]; rfl
  have hgy : ms[j + 1]?.getD [] = y := by rw [hy]; rfl
  rw [swp_get hl, swp_get hl, if_neg h3]
  by_cases e1 : b = j + 1
  · rw [if_pos e1]
    by_cases e2 : a = j
    · rw [if_pos e2]
      show ¬ cmpL x y < 0
      have := cmpL_neg x y
      omega
    · rw [if_neg e2, if_neg (by omega)]
      show ¬ cmpL x _ < 0
      rw [← hgx]
      exact h a j (by omega) (by omega) (by omega) (by omega)
  · rw [if_neg e1]
    by_cases e2 : a = j
    · rw [if_pos e2]
      show ¬ cmpL _ y < 0
      rw [← hgy]
      exact h (j + 1) b (by omega) h2 e1 h4
    · rw [if_neg e2]
      by_cases e3 : a = j + 1
      · rw [if_pos e3]
        show ¬ cmpL _ x < 0
        rw [← hgx]
        exact h j b (by omega) h2 e1 h4
      · rw [if_neg e3]
        exact h a b h1 h2 e1 h4
set_option maxRecDepth 100000 in
set_option maxHeartbeats 4000000 in
theorem rising_ok (B n : Nat) (r : Value) (vs : List Value) (ls : List (List Int)) (w : World) (hrow : w.ownsRow B 22 1 r vs.length vs) (hls : Lsts w B r vs ls) (hn : ∀ l, l ∈ ls → l.length = n) (hB : B ≤ w.heap.size) :
    Calls Tryd.prog 36 #[r] w fun e w' => e = .returned r ∧ Below B w w' ∧ ∃ (us : List Value) (ms : List (List Int)), us.length = vs.length ∧ ms.Perm ls ∧ srt ms ∧ w'.ownsRow B 22 1 r us.length us ∧ Lsts w' B r us ms := by
  obtain ⟨ra, rc, rfl⟩ := own_slice' hrow
  have hcap : vs.length ≤ 9223372036854775807 := by
    rcases hrow.2 with ⟨_, h0⟩ | ⟨g, cap, cur, _, _, _, h1, h2, _⟩
    · omega
    · unfold maxLen at h2; omega
  obtain ⟨K, hK⟩ : ∃ K, vs.length = K := ⟨_, rfl⟩
  have HST := hide (show ∃ us ms, us.length = K ∧ w.ownsRow B 22 1 (.slice ra K rc) K us ∧ Lsts w B (.slice ra K rc) us ms ∧ List.Perm ms ls from ⟨vs, ls, hK, by rw [← hK]; exact hrow, by rw [← hK]; exact hls, List.Perm.refl _⟩)
  have HN := hide hn
  have HK := hide hK
  rw [hK] at hcap ⊢
  clear hrow hls hn hK
  go_enter Tryd.func36, Tryd.ntmps36
  go_wp2
  go_loopw [3] (fun i wr => ∃ (k : Nat) (us : List Value) (ms : List (List Int)), 1 ≤ k ∧ i = .int .i64 k ∧ us.length = K ∧ wr.ownsRow B 22 1 (.slice ra K rc) K us ∧ Lsts wr B (.slice ra K rc) us ms ∧ ms.Perm ls ∧ srtTo ms k ∧ Below B w wr) (fun i _ => K - (intOf i).toNat)
  case atStart =>
    obtain ⟨us, ms, h1, h2, h3, h4⟩ := HST.out
    exact ⟨1, us, ms, Nat.le_refl _, rfl, h1, h2, h3, h4, fun a b h5 h6 => by omega, Below.refl _ _⟩
  case round =>
    obtain ⟨k, us, ms, hk1, rfl, hul, hrow, hls, hperm, hst, hBw⟩ := hrel
    by_cases hlt : k < K
    · have hki : (k : Int) < (K : Int) := by omega
      obtain ⟨g, rfl⟩ : ∃ g, ra = some ⟨g, 0, none⟩ := by
        rcases hrow.2 with ⟨h1, h2⟩ | ⟨g', cap, cur, h1, _⟩
        · omega
        · injection h1 with h1; exact ⟨g', h1⟩
      have HI := hide (show ∃ us ms, us.length = K ∧ wr.ownsRow B 22 1 (.slice (some ⟨g, 0, none⟩) K rc) K us ∧ Lsts wr B (.slice (some ⟨g, 0, none⟩) K rc) us ms ∧ List.Perm ms ls ∧ srtBut ms k k from ⟨us, ms, hul, hrow, hls, hperm, srtBut.start hst⟩)
      clear hul hrow hls hperm hst us ms
      go_wp2
      go_loopw [4] (fun i wr => ∃ (j : Nat) (us : List Value) (ms : List (List Int)), j ≤ k ∧ i = .int .i64 j ∧ us.length = K ∧ wr.ownsRow B 22 1 (.slice (some ⟨g, 0, none⟩) K rc) K us ∧ Lsts wr B (.slice (some ⟨g, 0, none⟩) K rc) us ms ∧ ms.Perm ls ∧ srtBut ms k j ∧ Below B w wr) (fun i _ => (intOf i).toNat)
      case atStart =>
        obtain ⟨us, ms, h1, h2, h3, h4, h5⟩ := HI.out
        exact ⟨k, us, ms, Nat.le_refl _, rfl, h1, h2, h3, h4, h5, hBw⟩
      case round =>
        obtain ⟨j, us, ms, hjk, rfl, hul, hrow, hls, hperm, hst, hBw⟩ := hrel
        by_cases hj0 : j = 0
        · subst hj0
          have hfin := hst.fin hjk (.inl rfl)
          clear hst
          go_wp2_with fail
          go_quiet (fail)
          have hB9 : Below B w (wr.drewN nq) := bdrewN hBw nq
          have hR9 : (wr.drewN nq).ownsRow B 22 1 (.slice (some ⟨g, 0, none⟩) K rc) K us := hrow
          have hL9 : Lsts (wr.drewN nq) B (.slice (some ⟨g, 0, none⟩) K rc) us ms := hls.keep (Nat.le_refl _) (fun _ _ _ _ => rfl) (.inl rfl)
          go_wp2
          go_roundw
          case rel => exact ⟨k + 1, us, ms, by omega, by go_num, hul, hR9, hL9, hperm, hfin, hB9⟩
          case measure => simp [intOf]; omega
        · obtain ⟨i, hji⟩ : ∃ i, j = i + 1 := ⟨j - 1, by omega⟩
          have hJi : (j : Int) - 1 = (i : Int) := by omega
          have hJ0 : (0 : Int) < (j : Int) := by omega
          have hJn : 0 < j := by omega
          have hJd : decide (0 < j) = true := decide_eq_true hJn
          have hi1 : j < K := by omega
          have hml := hls.1
          obtain ⟨a, ha⟩ : ∃ a, us[i]? = some a := ⟨_, List.getElem?_eq_getElem (by omega)⟩
          obtain ⟨b, hb⟩ : ∃ b, us[j]? = some b := ⟨_, List.getElem?_eq_getElem (by omega)⟩
          obtain ⟨x, hx⟩ : ∃ x, ms[i]? = some x := ⟨_, List.getElem?_eq_getElem (by omega)⟩
          obtain ⟨y, hy⟩ : ∃ y, ms[j]? = some y := ⟨_, List.getElem?_eq_getElem (by omega)⟩
          have hxn : x.length = n := HN.out x (hperm.mem_iff.1 (List.mem_of_getElem? hx))
          have hyn : y.length = n := HN.out y (hperm.mem_iff.1 (List.mem_of_getElem? hy))
          obtain ⟨a1, a3, apb, apo, rfl, a4, a5, a6, a7, a8, a9⟩ := hls.2 i a x ha hx
          obtain ⟨b1, b3, bpb, bpo, rfl, b4, b5, b6, b7, b8, b9⟩ := hls.2 j b y hb hy
          have hsa : Sl wr (.slice a1 x.length a3) x := ⟨a1, a3, apb, apo, rfl, a4, a5, a6, a7⟩
          have hsb : Sl wr (.slice b1 y.length b3) y := ⟨b1, b3, bpb, bpo, rfl, b4, b5, b6, b7⟩
          have hadd : ∀ t, (⟨g, 0, none⟩ : Addr).add t = ⟨g, t, none⟩ := fun t => by unfold Addr.add; split <;> simp_all
          have ca : wr.cell? ⟨g, i, none⟩ = some (.slice a1 x.length a3) := by
            have := hrow.cells (g := g) rfl i _ ha
            rwa [hadd] at this
          have cb : wr.cell? ⟨g, j, none⟩ = some (.slice b1 y.length b3) := by
            have := hrow.cells (g := g) rfl j _ hb
            rwa [hadd] at this
          have HLS := hide (fun W (h : Below wr.heap.size wr W) => less_ok (.slice b1 y.length b3) (.slice a1 x.length a3) y x W (hsb.below h) (hsa.below h) (by omega))
          have hBg : B ≤ g := owns_ge hrow g (by simp [Value.ownBlock])
          have HR := hide hrow
          have HLL := hide hls
          have HUL := hide hul
          have HPM := hide hperm
          have HSW := hide (fun (h : cmpL y x < 0) => And.intro (srtBut.step (hji ▸ hst) (by omega) (by omega) hx (hji ▸ hy) h) ((swp_perm (by omega) hx (hji ▸ hy)).trans hperm))
          have HSF := hide (fun (h : ¬ cmpL y x < 0) => hst.fin hjk (.inr (by rw [hy, show j - 1 = i by omega, hx]; exact h)))
          have HLW := hide (fun W (h : Lsts W B (.slice (some ⟨g, 0, none⟩) K rc) us ms) => lsts_swp h (by omega) ha (hji ▸ hb) hx (hji ▸ hy))
          have hS : ∀ W, Below wr.heap.size wr W → (Below wr.heap.size wr W ∧ W.cell? ⟨g, i, none⟩ = some (.slice a1 x.length a3) ∧ W.cell? ⟨g, j, none⟩ = some (.slice b1 y.length b3)) := fun W h => ⟨h, below_cell h ca, below_cell h cb⟩
          have hS0 := hS _ (bdrew (Below.refl _ wr))
          have hi2 : ((j : Nat) : Int) < (K : Int) := by omega
          have HJI := hide hji
          have hi3 : ((i : Nat) : Int) < (K : Int) := by omega
          have hwi : IntKind.i64.wrap (i : Int) = (i : Int) := by rw [IntKind.wrap_i64]; omega
          generalize x.length = lx at *
          generalize y.length = ly at *
          clear hul hls hrow hperm hst hml ha hb hx hy hxn hyn a4 a5 a6 a7 a8 a9 b4 b5 b6 b7 b8 b9 hsa hsb hadd hj0 hji
          by_cases hlt2 : cmpL y x < 0
          · rw [show decide (cmpL y x < 0) = true from decide_eq_true hlt2] at HLS
            obtain ⟨hst2, hperm2⟩ := HSW.out hlt2
            have HST2 := hide hst2
            have HPM2 := hide hperm2
            clear hst2 hperm2 hlt2
            go_wp2_with fail
            clear ca cb
            go_region_held3 (fun W => Below wr.heap.size wr W ∧ W.cell? ⟨g, i, none⟩ = some (.slice a1 lx a3) ∧ W.cell? ⟨g, j, none⟩ = some (.slice b1 ly b3))
              (first | exact hS0 | assumption | exact hS _ (bcat2 (And.left ‹_›) hq1))
              (first | (go_at_call 39; refine (HLS.out _ (And.left ‹_›)).mono ?_; rintro e1 W1 ⟨rfl, hq1⟩))
            all_goals (
              obtain ⟨hB1, ca, cb⟩ := ‹Below wr.heap.size wr W1 ∧ _›
              have hR1 := own_keep' HR.out (fun g _ h2 => hB1.block g h2)
              have fa := hR1.frozenAt i
              have fb := hR1.frozenAt j
              have hji := HJI.out
              have hR3 : ((W1.setCell ⟨g, j, none⟩ (.slice a1 lx a3)).setCell ⟨g, i, none⟩ (.slice b1 ly b3)).ownsRow B 22 1 (.slice (some ⟨g, 0, none⟩) K rc) K (swp us i (.slice a1 lx a3) (.slice b1 ly b3)) := by
                have := ((hR1.stored j (.slice a1 lx a3)).1.stored i (.slice b1 ly b3)).1
                unfold swp
                rw [← hji]
                exact this
              have hk3 : ∀ b, b ≠ g → b < wr.heap.size → ((W1.setCell ⟨g, j, none⟩ (.slice a1 lx a3)).setCell ⟨g, i, none⟩ (.slice b1 ly b3)).heap[b]? = wr.heap[b]? := fun b h1 h2 => by
                rw [Below.heap_setCell _ _ _ _ h1, Below.heap_setCell _ _ _ _ h1]
                exact hB1.block b h2
              have hL3 := HLW.out _ (HLL.out.keep (W' := (W1.setCell ⟨g, j, none⟩ (.slice a1 lx a3)).setCell ⟨g, i, none⟩ (.slice b1 ly b3)) (r' := .slice (some ⟨g, 0, none⟩) K rc) (by rw [size_set, size_set]; exact hB1.size) (fun b h1 h2 h3 => hk3 b (fun e => h3 (by rw [e]; rfl)) h2) (.inl rfl))
              have hB3 : Below B w ((W1.setCell ⟨g, j, none⟩ (.slice a1 lx a3)).setCell ⟨g, i, none⟩ (.slice b1 ly b3)) := (((bcat hBw hB1 (Nat.le_trans hB hBw.size)).setCell (p := ⟨g, j, none⟩) hBg _).setCell (p := ⟨g, i, none⟩) hBg _)
              have HR3 := hide hR3
              have HL3 := hide hL3
              have HB3 := hide hB3
              clear hji hR3 hk3 hL3 hB3
              go_wp2_with fail
              go_region
              all_goals (
                go_wp2
                go_roundw
                case rel => exact ⟨i, _, _, by omega, by go_num, by rw [swp_len]; exact HUL.out, HR3.out, HL3.out.keep (Nat.le_refl _) (fun _ _ _ _ => rfl) (.inl rfl), HPM2.out, HST2.out, bdrew HB3.out⟩
                case measure => simp [intOf]; omega))
          · rw [show decide (cmpL y x < 0) = false from decide_eq_false hlt2] at HLS
            have HST2 := hide (HSF.out hlt2)
            clear hlt2
            go_wp2_with fail
            clear ca cb
            go_region_held3 (fun W => Below wr.heap.size wr W ∧ W.cell? ⟨g, i, none⟩ = some (.slice a1 lx a3) ∧ W.cell? ⟨g, j, none⟩ = some (.slice b1 ly b3))
              (first | exact hS0 | assumption | exact hS _ (bcat2 (And.left ‹_›) hq1))
              (first | (go_at_call 39; refine (HLS.out _ (And.left ‹_›)).mono ?_; rintro e1 W1 ⟨rfl, hq1⟩))
            all_goals (
              obtain ⟨hB1, ca, cb⟩ := ‹Below wr.heap.size wr W1 ∧ _›
              have hR1 := own_keep' HR.out (fun g _ h2 => hB1.block g h2)
              have hL1 := HLL.out.keep hB1.size (fun g _ h2 _ => hB1.block g h2) (.inl rfl)
              clear ca cb
              go_wp2
              go_roundw
              case rel => exact ⟨k + 1, us, ms, by omega, by go_num, HUL.out, hR1, hL1, HPM.out, HST2.out, bcat hBw hB1 (Nat.le_trans hB hBw.size)⟩
              case measure => simp [intOf]; omega)
    · have hki : ¬ (k : Int) < (K : Int) := by omega
      go_wp2
      go_ret
      exact ⟨rfl, hBw, us, hul, ms, hperm, fun a b h1 h2 => hst a b h1 (by have := hls.1; omega) h2, by rw [hul]; exact hrow, hls⟩
end Go.Proofs.YtmgengplfebmjaaDoor

namespace Go.Proofs.YtmgengplfebmjaaDoor
open Go Go.RowKit

/-- A list of orders, as far as k things are gone through. -/
def flO (o : Nat → Nat) (m k : Nat) : List Int := li ((List.range k).map o) ++ List.replicate (m - k) 0
theorem flO_len {o : Nat → Nat} {m k : Nat} (h : k ≤ m) : (flO o m k).length = m := by simp [flO, li]; omega
theorem flO_set {o : Nat → Nat} {m k : Nat} (h : k < m) : (flO o m k).set k (o k : Int) = flO o m (k + 1) := by
  unfold flO
  obtain ⟨j, hj⟩ : ∃ j, m - k = j + 1 := ⟨m - k - 1, by omega⟩
  have hl : (li ((List.range k).map o)).length = k := by simp [li]
  rw [List.set_append_right _ _ (by rw [hl]; exact Nat.le_refl _), hl, Nat.sub_self, hj, List.replicate_succ, List.set_cons_zero, show m - (k + 1) = j by omega, List.range_succ]
  simp [li]
theorem flO_zero {o : Nat → Nat} {m : Nat} : flO o m 0 = List.replicate m 0 := by simp [flO, li]
theorem flO_all {o : Nat → Nat} {m : Nat} : flO o m m = li ((List.range m).map o) := by simp [flO]
theorem rep_int (m : Nat) : (List.replicate m (0 : Int)).map (Value.int .i64) = List.replicate m (.int .i64 0) := by simp
theorem below_of {B : Nat} {W0 W1 W : World} (h : Below W1.heap.size W1 W0) (k : Below B W0 W) (hB : W1.heap.size ≤ B) : Below W1.heap.size W1 W := h.trans (k.mono hB)
/-- What Homs answers. -/
structure HmR (n : Nat) (zs : List Int) (e m : Nat) (ys : List Int) (d most : Nat) (w : World) (x : Ending) (w' : World) : Prop where
  bel : Below w.heap.size w w'
  ans : ∃ ks : List Nat, (∀ k, k ∈ ks → k < n) ∧ ks.length ≤ n ∧ (∀ x, x < n → Mkd n zs e (fun a => decide (a ∈ ks)) x) ∧
    (((dhF n zs e m ys d ks ks.length []).length ≤ most ∧ ∃ (r : Value) (us : List Value) (ms : List (List Int)), x = .returned (.tuple #[r, .bool true]) ∧ w'.ownsRow w.heap.size 22 1 r us.length us ∧ Lsts w' w.heap.size r us ms ∧ ms.Perm (dhF n zs e m ys d ks ks.length []) ∧ srt ms) ∨
     (¬ (dhF n zs e m ys d ks ks.length []).length ≤ most ∧ x = .returned (.tuple #[.slice none 0 0, .bool false])))
theorem dhF_len {n e m d : Nat} {zs ys : List Int} {ks : List Nat} (g : IsGrp n zs e) (h : IsGrp m ys d) (hk : ∀ k, k ∈ ks → k < n) : ∀ (f : Nat) (js : List Nat), (∀ j, j ∈ js → j < m) → ∀ l, l ∈ dhF n zs e m ys d ks f js → l.length = n
  | 0, js, hj, l, hl => by
    unfold dhF at hl
    cases hR : ext n zs e m ys d (ks.zip js) with
    | none => rw [hR] at hl; cases hl
    | some S =>
      rw [hR] at hl
      have hl : l = S.1 := by simpa using hl
      rw [hl]
      exact (ext_grow g h (fun p hp => ⟨hk _ (List.of_mem_zip hp).1, hj _ (List.of_mem_zip hp).2⟩) hR).1.len
  | f + 1, js, hj, l, hl => by
    unfold dhF at hl
    obtain ⟨b, hb, hl⟩ := List.mem_flatMap.1 hl
    split at hl
    · exact dhF_len g h hk f (js ++ [b]) (fun j hjm => by
        rcases List.mem_append.1 hjm with h9 | h9
        · exact hj j h9
        · simp at h9; rw [h9]; exact List.mem_range.1 hb) l hl
    · cases hl
set_option maxRecDepth 100000 in
set_option maxHeartbeats 8000000 in
theorem homs_ok (n e m d most : Nat) (v y : Value) (zs ys : List Int) (w : World) (hv : Sl w v zs) (hg : IsGrp n zs e) (hy : Sl w y ys) (hh : IsGrp m ys d) (hmost : most ≤ 10000) :
    Calls Tryd.prog 29 #[.agg #[.int .i64 n, v], .agg #[.int .i64 m, y], .int .i64 most] w (HmR n zs e m ys d most w) := by
  obtain ⟨v1, v2, v3, rfl⟩ := hv.isSlice
  obtain ⟨y1, y2, y3, rfl⟩ := hy.isSlice
  obtain ⟨i0, hi3, hz0, hz1, hz2⟩ := info_parts info3b
  have hn60 := hg.tab.le
  have hm60 := hh.tab.le
  obtain ⟨w0, hw0⟩ : ∃ w0, w0 = ((w.alloc (.cells #[.int .i64 n, .slice v1 v2 v3] 24)).alloc (.cells #[.int .i64 m, .slice y1 y2 y3] 24)).alloc (.cells #[.int .i64 most] 3) := ⟨_, rfl⟩
  have hs0a : w0.heap.size ≤ w.heap.size + 3 := by rw [hw0]; simp
  have hs0b : w.heap.size + 3 ≤ w0.heap.size := by rw [hw0]; simp
  have hB0 : Below w.heap.size w w0 := by rw [hw0]; exact ((balloc w _).alloc (by simp) _).alloc (by simp; omega) _
  have hG0 : BoxG w0 w.heap.size n (.slice v1 v2 v3) := by rw [hw0]; exact Blk.alloc (Blk.alloc (blk0 _ _) _) _
  have hH0 : BoxG w0 (w.heap.size + 1) m (.slice y1 y2 y3) := by
    rw [hw0]
    have := Blk.alloc (blk0 (w := w.alloc (.cells #[.int .i64 n, .slice v1 v2 v3] 24)) (T := 24) (.int .i64 m) (.slice y1 y2 y3)) (.cells #[.int .i64 most] 3)
    rwa [World.size_alloc] at this
  have hM0 : Boxed w0 (w.heap.size + 1 + 1) 3 (.int .i64 most) := by
    rw [hw0]
    have := Boxed.new ((w.alloc (.cells #[.int .i64 n, .slice v1 v2 v3] 24)).alloc (.cells #[.int .i64 m, .slice y1 y2 y3] 24)) 3 (.int .i64 most)
    rwa [World.size_alloc, World.size_alloc] at this
  obtain ⟨c0, c1, _, _⟩ := hG0.two
  have HMK := hide (makers_ok n e (.slice v1 v2 v3) zs w0 (hv.below hB0) hg)
  rw [hw0] at c0 c1
  go_enter Tryd.func29, Tryd.ntmps29
  go_wp2_with fail
  rw [← hw0]
  clear hw0 c0 c1
  refine HMK.out.mono ?_
  rintro x W1 ⟨r, ks, rfl, hrow, hkn, hks, hall, hb1⟩
  have hs1 := hb1.size
  have hlS := row_sl hrow (by omega)
  obtain ⟨l1, l3, hre⟩ := own_slice hrow
  rw [li_len] at hre
  subst hre
  obtain ⟨W2, hW2⟩ : ∃ W2, W2 = W1.alloc (.cells #[.slice l1 ks.length l3] 22) := ⟨_, rfl⟩
  have hL2 : Boxed W2 W1.heap.size 22 (.slice l1 ks.length l3) := by rw [hW2]; exact Boxed.new W1 22 _
  have hb2 : Below W1.heap.size W1 W2 := by rw [hW2]; exact balloc W1 _
  have hs2a : W2.heap.size ≤ W1.heap.size + 1 := by rw [hW2]; simp
  have hs2b : W1.heap.size + 1 ≤ W2.heap.size := by rw [hW2]; simp
  have hlS2 := hlS.below hb2
  clear hrow hlS
  have k0 := hL2.cell
  rw [hW2] at k0
  go_wp2_with (first
    | (at_make; refine wpList_make_full _ rfl _ _ 22 rfl W2.heap.size 3 i0 (.int .i64 0) 1 under22b hi3 hz0 hz1 _ _ _ _ ks.length rfl rfl rfl rfl (by rw [hz2]; omega) (by unfold maxLen; omega) (by rw [hW2]; simp) ?_))
  rw [← hW2]
  intro W3 hown hgr
  have hT3 : Blk W3 (W1.heap.size + 1) 3 ((List.replicate ks.length (0 : Int)).map (Value.int .i64)) := by
    have := Blk.of_owns hown
    rw [made_rep] at this
    rw [rep_int]
    simpa using this
  have hb3 : Below W2.heap.size W2 W3 := (Below.refl _ _).grown hgr (Nat.le_refl _) (by simp)
  have hs3 : W1.heap.size + 1 < W3.heap.size := hT3.lt
  clear hown hgr k0 hW2
  obtain ⟨W4, hW4⟩ : ∃ W4, W4 = (W3.alloc (.cells #[.slice (some ⟨W1.heap.size + 1, 0, none⟩) ks.length ks.length] 22)).alloc (.cells #[.slice none 0 0] 25) := ⟨_, rfl⟩
  have hs4a : W4.heap.size ≤ W3.heap.size + 1 + 1 := by rw [hW4]; simp
  have hs4b : W3.heap.size + 1 + 1 ≤ W4.heap.size := by rw [hW4]; simp
  have hb4 : Below W3.heap.size W3 W4 := by rw [hW4]; exact (balloc W3 _).alloc (by simp) _
  have hTb4 : Boxed W4 W3.heap.size 22 (.slice (some ⟨W1.heap.size + 1, 0, none⟩) ks.length ks.length) := by rw [hW4]; exact (Boxed.new W3 22 _).alloc _
  have hOb4 : Boxed W4 (W3.heap.size + 1) 25 (.slice none 0 0) := by
    rw [hW4]
    have := Boxed.new (W3.alloc (.cells #[.slice (some ⟨W1.heap.size + 1, 0, none⟩) ks.length ks.length] 22)) 25 (.slice none 0 0)
    rwa [World.size_alloc] at this
  have hb04 : Below w0.heap.size w0 W4 := bcat2 hb1 (bcat2 hb2 (bcat2 hb3 hb4))
  obtain ⟨c0, c1, _, _⟩ := (blk_below hH0 hb04).two
  rw [hW4] at c0 c1
  go_wp2_with (first
    | (at_make; refine wpList_make_full _ rfl _ _ 22 rfl W4.heap.size 3 i0 (.int .i64 0) 1 under22b hi3 hz0 hz1 _ _ _ _ m rfl rfl rfl rfl (by rw [hz2]; omega) (by unfold maxLen; omega) (by rw [hW4]; simp) ?_))
  rw [← hW4]
  intro W5 hown hgr
  have hR5 : Blk W5 (W3.heap.size + 1 + 1) 3 ((flO (ordN m ys d) m 0).map (Value.int .i64)) := by
    have := Blk.of_owns hown
    rw [made_rep] at this
    rw [flO_zero, rep_int]
    simpa using this
  have hb5 : Below W4.heap.size W4 W5 := (Below.refl _ _).grown hgr (Nat.le_refl _) (by simp)
  have hs5 : W3.heap.size + 1 + 1 < W5.heap.size := hR5.lt
  clear hown hgr c0 c1 hW4
  obtain ⟨W6, hW6⟩ : ∃ W6, W6 = W5.alloc (.cells #[.slice (some ⟨W3.heap.size + 1 + 1, 0, none⟩) m m] 22) := ⟨_, rfl⟩
  have hs6a : W6.heap.size ≤ W5.heap.size + 1 := by rw [hW6]; simp
  have hs6b : W5.heap.size + 1 ≤ W6.heap.size := by rw [hW6]; simp
  have hb6 : Below W5.heap.size W5 W6 := by rw [hW6]; exact balloc W5 _
  have hRb6 : Boxed W6 W5.heap.size 22 (.slice (some ⟨W3.heap.size + 1 + 1, 0, none⟩) m m) := by rw [hW6]; exact Boxed.new W5 22 _
  have hR6 : Blk W6 (W3.heap.size + 1 + 1) 3 ((flO (ordN m ys d) m 0).map (Value.int .i64)) := blk_below hR5 hb6
  have hb46 : Below W4.heap.size W4 W6 := bcat2 hb5 hb6
  have hb06 : Below w0.heap.size w0 W6 := bcat2 hb04 hb46
  have HH6 := hide (fun W (h : Kp W6.heap.size (W3.heap.size + 1 + 1) (W3.heap.size + 1 + 1) W6 W) => show BoxG W (w.heap.size + 1) m (.slice y1 y2 y3) ∧ Sl W (.slice y1 y2 y3) ys from by
    have h9 := hb06.trans ((h.to_below (B := W4.heap.size) (by omega) (by omega) (by omega)).mono hb04.size)
    exact ⟨blk_below hH0 h9, (hy.below hB0).below h9⟩)
  have HRB := hide (fun W (h : Kp W6.heap.size (W3.heap.size + 1 + 1) (W3.heap.size + 1 + 1) W6 W) => show Boxed W W5.heap.size 22 (.slice (some ⟨W3.heap.size + 1 + 1, 0, none⟩) m m) from (h.block _ hRb6.lt (by omega) (by omega)).trans hRb6)
  have HO := hide (fun W k (h : Sl W (.slice y1 y2 y3) ys) (hk : k < m) => O_ok hh hk (.slice y1 y2 y3) W h)
  have HOB := hide (fun k (hk : k < m) => ord_le hh hk)
  go_wp2
  rw [← hW6]
  clear hW6 hR5
  go_loopw [12] (fun i wr => ∃ k : Nat, k ≤ m ∧ i = .int .i64 k ∧ Kp W6.heap.size (W3.heap.size + 1 + 1) (W3.heap.size + 1 + 1) W6 wr ∧ Blk wr (W3.heap.size + 1 + 1) 3 ((flO (ordN m ys d) m k).map (Value.int .i64))) (fun i _ => m - (intOf i).toNat)
  case atStart => exact ⟨0, Nat.zero_le _, rfl, Kp.refl, hR6⟩
  case round =>
    obtain ⟨k, hk, rfl, hKk, hRk⟩ := hrel
    clear hR6
    obtain ⟨hHk, hyk⟩ := HH6.out wr hKk
    obtain ⟨c0, c1, _, _⟩ := hHk.two
    by_cases hlt : k < m
    · have hki : (k : Int) < (m : Int) := by omega
      have cr := (HRB.out wr hKk).cell
      have HOk := hide (fun W (h : Below wr.heap.size wr W) => HO.out W k (hyk.below h) hlt)
      have HFS := hide (flO_set (o := ordN m ys d) hlt)
      have hRl := flO_len (o := ordN m ys d) hk
      generalize ordN m ys d k = o at *
      have hS : ∀ U, Below wr.heap.size wr U → (U.cell? ⟨W5.heap.size, 0, none⟩ = some (.slice (some ⟨W3.heap.size + 1 + 1, 0, none⟩) m m) ∧ U.cell? ⟨w.heap.size + 1, 0, none⟩ = some (.int .i64 m) ∧ U.cell? ⟨w.heap.size + 1, 1, none⟩ = some (.slice y1 y2 y3)) := fun U h => ⟨below_cell h cr, below_cell h c0, below_cell h c1⟩
      have hset : ∀ (U : World) (b t : Nat) (x z : Value), b ≠ W3.heap.size + 1 + 1 → U.cell? ⟨b, t, none⟩ = some z → (U.setCell ⟨W3.heap.size + 1 + 1, k, none⟩ x).cell? ⟨b, t, none⟩ = some z := fun U b t x z h1 h2 => (World.cell?_of_block (a := ⟨b, t, none⟩) (Below.heap_setCell U ⟨W3.heap.size + 1 + 1, k, none⟩ x b h1)).trans h2
      have hS3 : ∀ U, Below wr.heap.size wr U → ((U.setCell ⟨W3.heap.size + 1 + 1, k, none⟩ (.int .i64 o)).cell? ⟨W5.heap.size, 0, none⟩ = some (.slice (some ⟨W3.heap.size + 1 + 1, 0, none⟩) m m) ∧ (U.setCell ⟨W3.heap.size + 1 + 1, k, none⟩ (.int .i64 o)).cell? ⟨w.heap.size + 1, 0, none⟩ = some (.int .i64 m) ∧ (U.setCell ⟨W3.heap.size + 1 + 1, k, none⟩ (.int .i64 o)).cell? ⟨w.heap.size + 1, 1, none⟩ = some (.slice y1 y2 y3)) := fun U h => ⟨hset U _ _ _ _ (by omega) (hS U h).1, hset U _ _ _ _ (by omega) (hS U h).2.1, hset U _ _ _ _ (by omega) (hS U h).2.2⟩
      have hS0 := hS _ (bdrew (Below.refl _ wr))
      clear hset
      have HRL := hide hRl
      clear hRl
      go_wp2_with fail
      clear c0 c1 cr
      go_region_held3 (fun U => U.cell? ⟨W5.heap.size, 0, none⟩ = some (.slice (some ⟨W3.heap.size + 1 + 1, 0, none⟩) m m) ∧ U.cell? ⟨w.heap.size + 1, 0, none⟩ = some (.int .i64 m) ∧ U.cell? ⟨w.heap.size + 1, 1, none⟩ = some (.slice y1 y2 y3))
        (first | exact hS0 | assumption | exact hS3 _ hx1 | exact hS _ hx1)
        (first | (go_at_call 47; refine (HOk.out _ (bdrew (Below.refl _ wr))).mono ?_; rintro e1 U1 ⟨rfl, hl1⟩; have hx1 := undrew' hl1; have cw := (blk_below hRk hx1).int (y := k) (by rw [HRL.out]; exact hlt); have fw := (blk_below hRk hx1).frozen k))
      all_goals (
        have hK2 := (hKk.below hx1 hKk.size).set ⟨W3.heap.size + 1 + 1, k, none⟩ (.int .i64 o) (.inl rfl)
        have hR2 := (blk_below hRk hx1).setInt k o
        rw [HFS.out] at hR2
        go_wp2
        go_roundw
        case rel => exact ⟨k + 1, by omega, by go_num, hK2, hR2⟩
        case measure => simp [intOf]; omega)
    · have hki : ¬ (k : Int) < (m : Int) := by omega
      rw [show k = m by omega, flO_all] at hRk
      have hcall := call75
      obtain ⟨X, hX⟩ : ∃ X, X = wr.alloc (.cells #[.func (.func 75) #[] #[.pointer (some ⟨W1.heap.size, 0, none⟩), .pointer (some ⟨w.heap.size, 0, none⟩), .pointer (some ⟨w.heap.size + 1, 0, none⟩), .pointer (some ⟨W3.heap.size, 0, none⟩), .pointer (some ⟨W3.heap.size + 1, 0, none⟩), .pointer (some ⟨w.heap.size + 1 + 1, 0, none⟩), .pointer (some ⟨W5.heap.size, 0, none⟩), .pointer (some ⟨wr.heap.size, 0, none⟩)]] 42) := ⟨_, rfl⟩
      have hXs : X.heap.size = wr.heap.size + 1 := by rw [hX]; simp
      have hXb : Below wr.heap.size wr X := by rw [hX]; exact balloc wr _
      have hXn : Boxed X wr.heap.size 42 (.func (.func 75) #[] #[.pointer (some ⟨W1.heap.size, 0, none⟩), .pointer (some ⟨w.heap.size, 0, none⟩), .pointer (some ⟨w.heap.size + 1, 0, none⟩), .pointer (some ⟨W3.heap.size, 0, none⟩), .pointer (some ⟨W3.heap.size + 1, 0, none⟩), .pointer (some ⟨w.heap.size + 1 + 1, 0, none⟩), .pointer (some ⟨W5.heap.size, 0, none⟩), .pointer (some ⟨wr.heap.size, 0, none⟩)]) := by rw [hX]; exact Boxed.new wr 42 _
      have hsr := hKk.size
      have hX6 : ∀ b, b < W6.heap.size → b ≠ W3.heap.size + 1 + 1 → X.heap[b]? = W6.heap[b]? := fun b h1 h2 => (hXb.block b (by omega)).trans (hKk.block b h1 h2 h2)
      have hb26 : Below W2.heap.size W2 W6 := bcat2 hb3 (bcat2 hb4 hb46)
      have hb2X : Below W2.heap.size W2 X := hb26.trans ⟨hXb.os.trans hKk.os, hXb.tape.trans hKk.tape, hXb.output.trans hKk.output, Nat.le_trans hKk.size hXb.size, fun b hb => hX6 b (by omega) (by omega)⟩
      have HBEL : ∀ W, Kp X.heap.size (W1.heap.size + 1) (W3.heap.size + 1) X W → Below W2.heap.size W2 W := fun W h => hb2X.trans (h.to_below (by omega) (by omega) (by omega))
      have HBE0 : ∀ W, Kp X.heap.size (W1.heap.size + 1) (W3.heap.size + 1) X W → Below w0.heap.size w0 W := fun W h => (bcat2 hb1 hb2).trans ((HBEL W h).mono (by omega))
      have hE : HmE n zs e m ys d ks (.slice v1 v2 v3) (.slice y1 y2 y3) most l1 l3 W1.heap.size w.heap.size (w.heap.size + 1) W3.heap.size (w.heap.size + 1 + 1) W5.heap.size wr.heap.size (W3.heap.size + 1 + 1) X.heap.size (W1.heap.size + 1) (W3.heap.size + 1) X := by
        refine ⟨fun W h => ⟨Boxed.below hL2 (HBEL W h), hlS2.below (HBEL W h)⟩, fun W h => ⟨blk_below hG0 (HBE0 W h), (hv.below hB0).below (HBE0 W h)⟩, fun W h => ⟨blk_below hH0 (HBE0 W h), (hy.below hB0).below (HBE0 W h)⟩, fun W h => Boxed.below hM0 (HBE0 W h), fun W h => ⟨?_, ?_⟩, fun W h => ?_, fun W h => ?_, by omega, by omega, by omega⟩
        · exact (h.block _ (by omega) (by omega) (by omega)).trans ((hXb.block _ (by omega)).trans (HRB.out wr hKk))
        · exact (h.block _ (by omega) (by omega) (by omega)).trans ((hXb.block _ (by omega)).trans hRk)
        · exact (h.block _ (by omega) (by omega) (by omega)).trans hXn
        · exact (h.block _ (by omega) (by omega) (by omega)).trans ((hX6 _ (by omega) (by omega)).trans ((hb46.block _ (by omega)).trans hTb4))
      have hV : HmV X.heap.size (W1.heap.size + 1) (W3.heap.size + 1) X (List.replicate ks.length 0) [] := by
        refine ⟨Nat.le_refl _, ?_, .slice none 0 0, [], ?_, World.ownsRow_nil _ _ _ _, rfl, fun t x l h => by simp at h⟩
        · exact (hX6 _ (by omega) (by omega)).trans ((hb46.block _ (by omega)).trans ((hb4.block _ (by omega)).trans hT3))
        · exact (hX6 _ (by omega) (by omega)).trans ((hb46.block _ (by omega)).trans hOb4)
      have HC := hide (show Calls Tryd.prog 75 #[.int .i64 0, .pointer (some ⟨W1.heap.size, 0, none⟩), .pointer (some ⟨w.heap.size, 0, none⟩), .pointer (some ⟨w.heap.size + 1, 0, none⟩), .pointer (some ⟨W3.heap.size, 0, none⟩), .pointer (some ⟨W3.heap.size + 1, 0, none⟩), .pointer (some ⟨w.heap.size + 1 + 1, 0, none⟩), .pointer (some ⟨W5.heap.size, 0, none⟩), .pointer (some ⟨wr.heap.size, 0, none⟩)] X (HmP n zs e m ys d ks most X.heap.size (W1.heap.size + 1) (W3.heap.size + 1) X ks.length [] []) from
        homs_next hg hh hE hkn hks hmost hall ks.length [] _ [] X (by simp) (by simp) Kp.refl hV (by simp) (by simp [li]) (by simp))
      have HBX := hide (fun W (h : Kp X.heap.size (W1.heap.size + 1) (W3.heap.size + 1) X W) => show Below w.heap.size w W from hB0.trans ((HBE0 W h).mono (by omega)))
      have hwX : w.heap.size ≤ X.heap.size := by omega
      have hDl := dhF_len hg hh hkn ks.length [] (by simp)
      have HDL := hide hDl
      have HX := hide hX
      have HKN := hide hkn
      have HALL := hide hall
      clear hE hV hDl hXs hXn hsr hX6 hb26 hb2X HBEL HBE0 hb3 hb4 hb46 hb5 hb6 hb06 hb04 hRb6 hRk hKk hTb4 hOb4 hT3 hL2 hlS2 hM0 hH0 hG0 hHk hyk hb1 hb2 hkn hall
      clear hX
      go_wp2_with fail
      rw [← HX.out]
      clear c0 c1
      refine HC.out.mono ?_
      rintro x W8 ⟨hK8, hs8, rfl, hok⟩
      rw [List.nil_append] at hok ⊢
      have hB8 := HBX.out W8 hK8
      by_cases hle : (dhF n zs e m ys d ks ks.length []).length ≤ most
      · obtain ⟨T8, hV8, _, _⟩ := hok hle
        obtain ⟨r, vs, hr1, hr2, hr3⟩ := hV8.ex
        rw [decide_eq_true hle]
        have k0 := hr1.cell
        have HRI := hide (rising_ok X.heap.size n r vs _ W8 hr2 hr3 HDL.out hs8)
        obtain ⟨ra, rc, rfl⟩ := own_slice' hr2
        clear hok hV8 hr1 hr2 hr3
        go_wp2_with fail
        refine HRI.out.mono ?_
        rintro x W9 ⟨rfl, hb9, us, ms, hul, hpm, hst, hrow, hls⟩
        go_wp2
        exact bodyPost_ret (v := .tuple #[.slice ra vs.length rc, .bool true]) (by simp [results, Tryd.results29, go_sem]) rfl ⟨hB8.trans (hb9.mono hwX), ks, HKN.out, hks, HALL.out, .inl ⟨hle, _, us, ms, rfl, owns_mono hrow hwX, hls.mono hwX, hpm, hst⟩⟩
      · rw [decide_eq_false hle]
        clear hok
        go_wp2
        exact bodyPost_ret (v := .tuple #[.slice none 0 0, .bool false]) (by simp [results, Tryd.results29, go_sem]) rfl ⟨hB8, ks, HKN.out, hks, HALL.out, .inr ⟨hle, rfl⟩⟩
end Go.Proofs.YtmgengplfebmjaaDoor

namespace Go.Proofs.YtmgengplfebmjaaDoor
open Go Go.RowKit

section
variable {n e m d : Nat} {zs ys : List Int} {φ ψ : Nat → Nat}
theorem hom_pw (g : IsGrp n zs e) (h : IsGrp m ys d) (H : IsHom n zs m ys φ) {a : Nat} (ha : a < n) : ∀ k, φ (pw n zs e a k) = pw m ys d (φ a) k
  | 0 => IsHom.one g h H
  | k + 1 => by
    show φ (tm n zs (pw n zs e a k) a) = tm m ys (pw m ys d (φ a) k) (φ a)
    rw [H.mul _ _ (pw_lt g ha k) ha, hom_pw g h H ha k]
theorem hom_ord (g : IsGrp n zs e) (h : IsGrp m ys d) (H : IsHom n zs m ys φ) {a : Nat} (ha : a < n) : ordN m ys d (φ a) ∣ ordN n zs e a :=
  ord_dvd h (H.lt a ha) (by rw [← hom_pw g h H ha, pw_ord g ha, IsHom.one g h H])
/-- Homomorphisms that agree on makers agree on what is made. -/
theorem hom_agree (g : IsGrp n zs e) (h : IsGrp m ys d) (H : IsHom n zs m ys φ) (K : IsHom n zs m ys ψ) {q : Nat → Bool} (hq : ∀ x, x < n → q x = true → φ x = ψ x) {a : Nat} (ha : a < n) (hm : Mkd n zs e q a) : φ a = ψ a := by
  have S : Fin.Sg (List.range n) (tm n zs) e (fun x => x ∈ List.range n → φ x = ψ x) := by
    refine ⟨fun _ => by rw [IsHom.one g h H, IsHom.one g h K], fun x y hx hy h1 h2 _ => ?_⟩
    rw [H.mul _ _ (List.mem_range.1 hx) (List.mem_range.1 hy), K.mul _ _ (List.mem_range.1 hx) (List.mem_range.1 hy), h1 hx, h2 hy]
  exact hm _ S (fun z hz hqz _ => hq z (List.mem_range.1 hz) hqz) (List.mem_range.2 ha)
theorem leads_iff {ks js : List Nat} (hl : js.length = ks.length) : Leads n zs m ys (ks.zip js) φ ↔ IsHom n zs m ys φ ∧ ∀ i (_ : i < js.length) (hi2 : i < ks.length), φ ks[i] = js[i] := by
  constructor
  · rintro ⟨H, h⟩
    refine ⟨H, fun i hi hi2 => h (ks[i], js[i]) ?_⟩
    exact List.mem_iff_getElem.2 ⟨i, by rw [List.length_zip]; omega, by simp⟩
  · rintro ⟨H, h⟩
    refine ⟨H, fun p hp => ?_⟩
    obtain ⟨i, hi, he⟩ := List.mem_iff_getElem.1 hp
    rw [List.length_zip] at hi
    rw [← he]
    simpa using h i (by omega) (by omega)
theorem dh_mem (g : IsGrp n zs e) (h : IsGrp m ys d) {ks : List Nat} (hk : ∀ k, k ∈ ks → k < n) (hall : ∀ a, a < n → Mkd n zs e (fun x => decide (x ∈ ks)) a) :
    ∀ (f : Nat) (js : List Nat) (L : List Int), js.length + f = ks.length → (∀ j, j ∈ js → j < m) →
      (L ∈ dhF n zs e m ys d ks f js ↔ ∃ φ, IsHom n zs m ys φ ∧ L = li ((List.range n).map φ) ∧ ∀ i (_ : i < js.length) (hi2 : i < ks.length), φ ks[i] = js[i])
  | 0, js, L, hl, hj => by
    have hl : js.length = ks.length := by omega
    have hp : ∀ p, p ∈ ks.zip js → p.1 < n ∧ p.2 < m := fun p hp => ⟨hk _ (List.of_mem_zip hp).1, hj _ (List.of_mem_zip hp).2⟩
    have hz : (ks.zip js).map Prod.fst = ks := List.map_fst_zip (by omega)
    have hall' : ∀ x, x < n → Mkd n zs e (fun x => decide (x ∈ (ks.zip js).map Prod.fst)) x := by rw [hz]; exact hall
    constructor
    · intro hL
      cases hR : ext n zs e m ys d (ks.zip js) with
      | none => unfold dhF at hL; rw [hR] at hL; cases hL
      | some S =>
        obtain ⟨H, hS⟩ := ext_hom g h hp hR hall'
        unfold dhF at hL
        rw [hR] at hL
        have hL : L = S.1 := by simpa using hL
        have := (leads_iff (n := n) (zs := zs) (m := m) (ys := ys) (φ := vl S) hl).1 ⟨H, fun p hpm => ext_at g h hp hR hpm⟩
        exact ⟨vl S, H, by rw [hL]; exact hS, this.2⟩
    · rintro ⟨φ, H, rfl, hag⟩
      rw [dhF_some g h hp hall' ((leads_iff hl).2 ⟨H, hag⟩)]
      simp
  | f + 1, js, L, hl, hj => by
    have hjl : js.length < ks.length := by omega
    have hjb : ∀ b, b < m → ∀ j, j ∈ js ++ [b] → j < m := fun b hb j hjm => by
      rcases List.mem_append.1 hjm with h9 | h9
      · exact hj j h9
      · simp at h9; omega
    unfold dhF
    rw [List.mem_flatMap]
    constructor
    · rintro ⟨b, hb, hL⟩
      have hb := List.mem_range.1 hb
      split at hL
      · obtain ⟨φ, H, hLe, hag⟩ := (dh_mem g h hk hall f (js ++ [b]) L (by simp; omega) (hjb b hb)).1 hL
        refine ⟨φ, H, hLe, fun i hi hi2 => ?_⟩
        have := hag i (by simp; omega) hi2
        rwa [List.getElem_append_left hi] at this
      · cases hL
    · rintro ⟨φ, H, rfl, hag⟩
      have hkn := hk _ (List.getElem_mem hjl)
      refine ⟨φ ks[js.length], List.mem_range.2 (H.lt _ hkn), ?_⟩
      rw [List.getElem?_eq_getElem hjl, Option.getD_some, if_pos (Nat.mod_eq_zero_of_dvd (hom_ord g h H hkn))]
      refine (dh_mem g h hk hall f (js ++ [φ ks[js.length]]) _ (by simp; omega) (hjb _ (H.lt _ hkn))).2 ⟨φ, H, rfl, fun i hi hi2 => ?_⟩
      by_cases hij : i < js.length
      · rw [List.getElem_append_left hij]; exact hag i hij hi2
      · have : i = js.length := by simp at hi; omega
        subst this
        simp
theorem dh_nodup (g : IsGrp n zs e) (h : IsGrp m ys d) {ks : List Nat} (hk : ∀ k, k ∈ ks → k < n) (hall : ∀ a, a < n → Mkd n zs e (fun x => decide (x ∈ ks)) a) :
    ∀ (f : Nat) (js : List Nat), js.length + f = ks.length → (∀ j, j ∈ js → j < m) → (dhF n zs e m ys d ks f js).Nodup
  | 0, js, hl, hj => by
    unfold dhF
    cases ext n zs e m ys d (ks.zip js) <;> simp
  | f + 1, js, hl, hj => by
    have hjl : js.length < ks.length := by omega
    have hjb : ∀ b, b < m → ∀ j, j ∈ js ++ [b] → j < m := fun b hb j hjm => by
      rcases List.mem_append.1 hjm with h9 | h9
      · exact hj j h9
      · simp at h9; omega
    unfold dhF
    refine nodup_flat m (fun b hb => ?_) (fun b c L hb hc hLb hLc => ?_)
    · split
      · exact dh_nodup g h hk hall f (js ++ [b]) (by simp; omega) (hjb b hb)
      · exact List.nodup_nil
    · split at hLb
      · split at hLc
        · obtain ⟨φ, _, e1, a1⟩ := (dh_mem g h hk hall f (js ++ [b]) L (by simp; omega) (hjb b hb)).1 hLb
          obtain ⟨ψ, _, e2, a2⟩ := (dh_mem g h hk hall f (js ++ [c]) L (by simp; omega) (hjb c hc)).1 hLc
          have h9 := a1 js.length (by simp) hjl
          have h8 := a2 js.length (by simp) hjl
          have h7 := li_map_inj (e1.symm.trans e2) (hk _ (List.getElem_mem hjl))
          simp at h9 h8
          omega
        · cases hLc
      · cases hLb
/-- Where two lists differ first decides. -/
theorem cmp_first : ∀ {xs ys : List Int} {k : Nat}, k < xs.length → k < ys.length → (∀ x, x < k → xs[x]?.getD 0 = ys[x]?.getD 0) → xs[k]?.getD 0 < ys[k]?.getD 0 → cmpL xs ys < 0
  | [], _, k, h1, _, _, _ => by simp at h1
  | _ :: _, [], k, _, h2, _, _ => by simp at h2
  | x :: xs, y :: ys, 0, _, _, _, h => by
    have h : x < y := by simpa using h
    unfold cmpL
    have := cmpI_lt.2 h
    rw [if_pos (by omega)]
    exact this
  | x :: xs, y :: ys, k + 1, h1, h2, h3, h => by
    have h0 : x = y := by simpa using h3 0 (by omega)
    unfold cmpL
    rw [if_neg (by rw [Decidable.not_not]; exact cmpI_zero.2 h0)]
    exact cmp_first (k := k) (by simpa using h1) (by simpa using h2) (fun t ht => by simpa using h3 (t + 1) (by omega)) (by simpa using h)
/-- What the program lists stands in order. -/
theorem homF_sorted {ks : List Nat} {fit : List Int → Bool} {FP : (Nat → Nat) → Prop} (g : IsGrp n zs e) (h : IsGrp m ys d) (hLM : LM n zs e ks) (hall : ∀ a, a < n → Mkd n zs e (fun x => decide (x ∈ ks)) a)
    (h1 : ∀ φ S (ps : List (Nat × Nat)), IsHom n zs m ys φ → FP φ → (∀ p, p ∈ ps → p.1 < n ∧ φ p.1 = p.2) → ext n zs e m ys d ps = some S → fit S.1 = true)
    (h2 : ∀ φ, IsHom n zs m ys φ → fit (li ((List.range n).map φ)) = true → FP φ) :
    ∀ (f : Nat) (js : List Nat), js.length ≤ ks.length → ks.length + 1 ≤ f + js.length → (∀ j, j ∈ js → j < m) → (homF n zs e m ys d ks fit f js).Pairwise (fun a b => cmpL a b < 0)
  | 0, js, hl, hf, hj => by omega
  | f + 1, js, hl, hf, hj => by
    cases hR : ext n zs e m ys d ((ks.take js.length).zip js) with
    | none => rw [homF_none hR]; exact List.Pairwise.nil
    | some S =>
      cases hfit : fit S.1 with
      | false => rw [homF_unfit hR hfit]; exact List.Pairwise.nil
      | true =>
        by_cases hle : js.length = ks.length
        · rw [homF_full hR hfit hle]; simp
        · rw [homF_on hR hfit hle]
          have hkl : js.length < ks.length := by omega
          have hjb : ∀ b, b < m → ∀ j, j ∈ js ++ [b] → j < m := fun b hb j hjm => by
            rcases List.mem_append.1 hjm with hjm | hjm
            · exact hj j hjm
            · simp at hjm; rw [hjm]; exact hb
          have key : ∀ k, k ≤ m → ((List.range k).flatMap fun b => homF n zs e m ys d ks fit f (js ++ [b])).Pairwise (fun a b => cmpL a b < 0) := by
            intro k
            induction k with
            | zero => intro _; simp
            | succ k ih =>
              intro hk
              rw [flat_succ]
              refine List.pairwise_append.2 ⟨ih (by omega), homF_sorted g h hLM hall h1 h2 f (js ++ [k]) (by simp; omega) (by simp; omega) (hjb k (by omega)), fun L hL L' hL' => ?_⟩
              obtain ⟨b, hb, hL⟩ := List.mem_flatMap.1 hL
              have hb := List.mem_range.1 hb
              obtain ⟨φ, H, _, e1, a1⟩ := (homF_mem g h hLM.lt hall h1 h2 f (js ++ [b]) L (by simp; omega) (by simp; omega) (hjb b (by omega))).1 hL
              obtain ⟨ψ, K, _, e2, a2⟩ := (homF_mem g h hLM.lt hall h1 h2 f (js ++ [k]) L' (by simp; omega) (by simp; omega) (hjb k (by omega))).1 hL'
              have hcn := hLM.lt _ (List.getElem_mem hkl)
              have h9 := a1 js.length (by simp) hkl
              have h8 := a2 js.length (by simp) hkl
              simp at h9 h8
              obtain ⟨_, hst⟩ := hLM.step js.length ks[js.length] (List.getElem?_eq_getElem hkl)
              have hag : ∀ x, x < ks[js.length] → φ x = ψ x := fun x hx => hom_agree g h H K (q := fun x => decide (x ∈ ks.take js.length)) (fun z hz hq => by
                obtain ⟨i, hi, he⟩ := List.mem_iff_getElem.1 (of_decide_eq_true hq)
                rw [List.length_take] at hi
                rw [List.getElem_take] at he
                have p1 := a1 i (by simp; omega) (by omega)
                have p2 := a2 i (by simp; omega) (by omega)
                rw [List.getElem_append_left (by omega)] at p1 p2
                rw [← he, p1, p2]) (by omega) (hst x hx)
              have at_ : ∀ (χ : Nat → Nat) t, t < n → (li ((List.range n).map χ))[t]?.getD 0 = (χ t : Int) := fun χ t ht => by simp [li, ht]
              rw [e1, e2]
              refine cmp_first (k := ks[js.length]) (by simp [li]; omega) (by simp [li]; omega) (fun x hx => ?_) ?_
              · rw [at_ φ x (by omega), at_ ψ x (by omega), hag x hx]
              · rw [at_ φ _ hcn, at_ ψ _ hcn, h9, h8]
                omega
          exact key m (Nat.le_refl _)
/-- Lists in order that have the same are the same. -/
theorem srt_eq {rs ts : List (List Int)} (hp : rs.Perm ts) (ha : srt rs) (hb : ts.Pairwise (fun a b => cmpL a b < 0)) : rs = ts := by
  refine List.Perm.eq_of_pairwise (le := fun a b => ¬ cmpL b a < 0) (fun a b _ _ h1 h2 => ?_) ?_ ?_ hp
  · have := cmpL_neg a b
    exact (cmpL_zero a b).1 (by omega)
  · refine List.pairwise_iff_getElem.2 fun i j hi hj hij => ?_
    have := ha i j hij hj
    rw [List.getElem?_eq_getElem hi, List.getElem?_eq_getElem hj] at this
    exact this
  · exact hb.imp fun {a b} h => by have := cmpL_neg a b; omega
theorem homs_same {ks ls : List Nat} (g : IsGrp n zs e) (h : IsGrp m ys d) (hLM : LM n zs e ks) (hall : ∀ a, a < n → Mkd n zs e (fun x => decide (x ∈ ks)) a) (hl : ∀ k, k ∈ ls → k < n) (hall' : ∀ a, a < n → Mkd n zs e (fun x => decide (x ∈ ls)) a) :
    (homF n zs e m ys d ks (fun _ => true) (ks.length + 1) []).Perm (dhF n zs e m ys d ls ls.length []) := by
  refine (List.perm_ext_iff_of_nodup (homF_nodup (FP := fun _ => True) g h hLM.lt hall (fun _ _ _ _ _ _ _ => rfl) (fun _ _ _ => trivial) _ _ (by simp) (by simp) (by simp)) (dh_nodup g h hl hall' _ _ (by simp) (by simp))).2 fun L => ?_
  rw [homF_mem (FP := fun _ => True) g h hLM.lt hall (fun _ _ _ _ _ _ _ => rfl) (fun _ _ _ => trivial) _ _ _ (by simp) (by simp) (by simp), dh_mem g h hl hall' _ _ _ (by simp) (by simp)]
  constructor
  · rintro ⟨φ, H, _, hL, _⟩
    exact ⟨φ, H, hL, fun i hi => by simp at hi⟩
  · rintro ⟨φ, H, hL, _⟩
    exact ⟨φ, H, trivial, hL, fun i hi => by simp at hi⟩
end
end Go.Proofs.YtmgengplfebmjaaDoor

namespace Go.Proofs.YtmgengplfebmjaaDoor
open Go Go.RowKit

set_option maxRecDepth 100000 in
set_option maxHeartbeats 4000000 in
theorem hall_bad (N M : Int) (v y : Value) (zs ys : List Int) (w : World) (hv : Sl w v zs) (hy : Sl w y ys) (hc : (twofault N zs M ys).1 ≠ 0) :
    Calls Tryd.prog 28 #[.agg #[.int .i64 N, v], .agg #[.int .i64 M, y]] w fun x w' => x = .returned (.tuple #[.slice none 0 0, .agg #[.int .i64 (twofault N zs M ys).1, .int .i64 (twofault N zs M ys).2]]) ∧ Below w.heap.size w w' := by
  obtain ⟨w0, BG⟩ := BegF.new w N M v y
  have HCK : Hid (Calls Tryd.prog 65 #[.agg #[.int .i64 N, v], .agg #[.int .i64 M, y]] w0 fun x w' => x = .returned (.tuple #[.agg #[.int .i64 0, .slice none 0 0, .int .i64 0, .slice none 0 0, .int .i64 0, .slice none 0 0, .int .i64 0, .slice none 0 0], .agg #[.int .i64 (twofault N zs M ys).1, .int .i64 (twofault N zs M ys).2]]) ∧ Below w0.heap.size w0 w') := by
    by_cases h : (gfault N zs).1 = 0
    · obtain ⟨n, e, rfl, hg, _⟩ := gfault_grp h
      have ht : twofault n zs M ys = gfault M ys := by unfold twofault; rw [if_neg (by simpa using h)]
      rw [ht] at hc ⊢
      exact pair_bad2 n e M v y zs ys w0 (hv.below BG.bel) hg (hy.below BG.bel) hc
    · have ht : twofault N zs M ys = gfault N zs := by unfold twofault; rw [if_pos h]
      rw [ht] at hc ⊢
      exact pair_bad1 N M v y zs w0 (hv.below BG.bel) hc
  obtain ⟨c, i, hci⟩ : ∃ c i, twofault N zs M ys = (c, i) := ⟨_, _, rfl⟩
  rw [hci] at HCK hc ⊢
  simp only at HCK hc ⊢
  clear hci
  have hcb : (c != 0) = true := by simpa using hc
  obtain ⟨e0, e1, _, _⟩ := BG.box.two
  obtain ⟨k0, k1, _, _⟩ := BG.boy.two
  rw [BG.eq] at e0 e1 k0 k1
  go_enter Tryd.func28, Tryd.ntmps28
  go_wp2_with fail
  rw [← BG.eq]
  clear e0 e1 k0 k1
  refine HCK.out.mono ?_
  rintro x w1 ⟨rfl, hb1⟩
  obtain ⟨w2, hw2⟩ : ∃ w2, w2 = (w1.alloc (.cells #[.int .i64 0, .slice none 0 0, .int .i64 0, .slice none 0 0, .int .i64 0, .slice none 0 0, .int .i64 0, .slice none 0 0] 83)).alloc (.cells #[.int .i64 c, .int .i64 i] 27) := ⟨_, rfl⟩
  have hB1 : Below w0.heap.size w0 w2 := by rw [hw2]; exact bcat2 hb1 ((balloc w1 _).alloc (by simp) _)
  have hF1 : Blk w2 (w1.heap.size + 1) 27 [.int .i64 c, .int .i64 i] := by
    rw [hw2]
    have := blk0 (w := w1.alloc (.cells #[.int .i64 0, .slice none 0 0, .int .i64 0, .slice none 0 0, .int .i64 0, .slice none 0 0, .int .i64 0, .slice none 0 0] 83)) (T := 27) (.int .i64 c) (.int .i64 i)
    rwa [World.size_alloc] at this
  have hR1 := blk_below BG.res hB1
  have hBw := bcat BG.bel hB1 BG.bel.size
  subst hw2
  obtain ⟨y0, y1, fy0, fy1⟩ := hR1.two
  obtain ⟨t0, t1, _, _⟩ := hF1.two
  obtain ⟨hR6, hB6⟩ := put2 hR1 hBw (by omega) c i
  obtain ⟨z0, z1, _, _⟩ := hR6.two
  go_wp2
  go_region
  go_wp2
  exact bodyPost_ret (v := .tuple #[.slice none 0 0, .agg #[.int .i64 c, .int .i64 i]]) (by simp [results, Tryd.results28, go_sem, z0, z1]) rfl ⟨rfl, bdrew hB6⟩
set_option maxRecDepth 100000 in
set_option maxHeartbeats 8000000 in
theorem hall_many (n e m d : Nat) (v y : Value) (zs ys : List Int) (w : World) (hv : Sl w v zs) (hg : IsGrp n zs e) (hy : Sl w y ys) (hh : IsGrp m ys d) (h24 : 24 < n ∨ 24 < m) :
    Calls Tryd.prog 28 #[.agg #[.int .i64 n, v], .agg #[.int .i64 m, y]] w fun x w' => x = .returned (.tuple #[.slice none 0 0, .agg #[.int .i64 2, .int .i64 0]]) ∧ Below w.heap.size w w' := by
  obtain ⟨va, vl, vc, rfl⟩ := hv.isSlice
  obtain ⟨ya, yl, yc, rfl⟩ := hy.isSlice
  have hn := hg.tab.le
  obtain ⟨w0, BG⟩ := BegF.new w n m (.slice va vl vc) (.slice ya yl yc)
  have HCK := hide (pair_good n e m d (.slice va vl vc) (.slice ya yl yc) zs ys w0 (hv.below BG.bel) hg (hy.below BG.bel) hh)
  obtain ⟨c0, c1, _, _⟩ := BG.box.two
  obtain ⟨d0, d1, _, _⟩ := BG.boy.two
  rw [BG.eq] at c0 c1 d0 d1
  go_enter Tryd.func28, Tryd.ntmps28
  go_wp2_with fail
  rw [← BG.eq]
  clear c0 c1 d0 d1
  refine HCK.out.mono ?_
  rintro x w1 ⟨iv9, jv9, rfl, hSI, hSJ, hb1⟩
  obtain ⟨ia, il, ic, rfl⟩ := hSI.sl.isSlice
  obtain ⟨ja, jl, jc, rfl⟩ := hSJ.sl.isSlice
  obtain ⟨w2, hw2⟩ : ∃ w2, w2 = (w1.alloc (.cells #[.int .i64 n, .slice va vl vc, .int .i64 e, .slice ia il ic, .int .i64 m, .slice ya yl yc, .int .i64 d, .slice ja jl jc] 83)).alloc (.cells #[.int .i64 0, .int .i64 0] 27) := ⟨_, rfl⟩
  have hb2 : Below w1.heap.size w1 w2 := by rw [hw2]; exact (balloc w1 _).alloc (by simp) _
  have hB1 : Below w0.heap.size w0 w2 := bcat2 hb1 hb2
  have hF1 : Blk w2 (w1.heap.size + 1) 27 [.int .i64 0, .int .i64 0] := by
    rw [hw2]
    have := blk0 (w := w1.alloc (.cells #[.int .i64 n, .slice va vl vc, .int .i64 e, .slice ia il ic, .int .i64 m, .slice ya yl yc, .int .i64 d, .slice ja jl jc] 83)) (T := 27) (.int .i64 0) (.int .i64 0)
    rwa [World.size_alloc] at this
  have hH2 : Blk w2 w1.heap.size 83 [.int .i64 n, .slice va vl vc, .int .i64 e, .slice ia il ic, .int .i64 m, .slice ya yl yc, .int .i64 d, .slice ja jl jc] := by
    rw [hw2]; exact Blk.alloc (World.alloc_heap_new _ _) _
  have hBw2 := bcat BG.bel hB1 BG.bel.size
  have hR2 := blk_below BG.res hB1
  have hX2 := blk_below BG.box hB1
  have hY2 := blk_below BG.boy hB1
  subst hw2
  obtain ⟨y0, y1, fy0, fy1⟩ := hR2.two
  obtain ⟨t0, t1, _, _⟩ := hF1.two
  obtain ⟨g0, g1, _, _⟩ := hX2.two
  obtain ⟨k0, k1, _, _⟩ := hY2.two
  have hmx : (24 : Int) < max (n : Int) (m : Int) := by omega
  obtain ⟨hR6, hB6⟩ := put2 hR2 hBw2 (by omega) 2 0
  obtain ⟨z0, z1, _, _⟩ := hR6.two
  go_wp2
  exact bodyPost_ret (v := .tuple #[.slice none 0 0, .agg #[.int .i64 2, .int .i64 0]]) (by simp [results, Tryd.results28, go_sem, z0, z1]) rfl ⟨rfl, hB6⟩
set_option maxRecDepth 100000 in
set_option maxHeartbeats 8000000 in
theorem hall_much (n e m d : Nat) (v y : Value) (zs ys : List Int) (w : World) (hv : Sl w v zs) (hg : IsGrp n zs e) (hy : Sl w y ys) (hh : IsGrp m ys d) (hT : Tab w) (h24 : n ≤ 24) (h24' : m ≤ 24) (hmuch : ∀ ks, LM n zs e ks → (∀ a, a < n → Mkd n zs e (fun x => decide (x ∈ ks)) a) → 1000 < (homF n zs e m ys d ks (fun _ => true) (ks.length + 1) []).length) :
    Calls Tryd.prog 28 #[.agg #[.int .i64 n, v], .agg #[.int .i64 m, y]] w fun x w' => x = .returned (.tuple #[.slice none 0 0, .agg #[.int .i64 9, .int .i64 0]]) ∧ Below w.heap.size w w' := by
  obtain ⟨va, vl, vc, rfl⟩ := hv.isSlice
  obtain ⟨ya, yl, yc, rfl⟩ := hy.isSlice
  have hn := hg.tab.le
  obtain ⟨w0, BG⟩ := BegF.new w n m (.slice va vl vc) (.slice ya yl yc)
  have HCK := hide (pair_good n e m d (.slice va vl vc) (.slice ya yl yc) zs ys w0 (hv.below BG.bel) hg (hy.below BG.bel) hh)
  obtain ⟨c0, c1, _, _⟩ := BG.box.two
  obtain ⟨d0, d1, _, _⟩ := BG.boy.two
  rw [BG.eq] at c0 c1 d0 d1
  go_enter Tryd.func28, Tryd.ntmps28
  go_wp2_with fail
  rw [← BG.eq]
  clear c0 c1 d0 d1
  refine HCK.out.mono ?_
  rintro x w1 ⟨iv9, jv9, rfl, hSI, hSJ, hb1⟩
  obtain ⟨ia, il, ic, rfl⟩ := hSI.sl.isSlice
  obtain ⟨ja, jl, jc, rfl⟩ := hSJ.sl.isSlice
  obtain ⟨w2, hw2⟩ : ∃ w2, w2 = (w1.alloc (.cells #[.int .i64 n, .slice va vl vc, .int .i64 e, .slice ia il ic, .int .i64 m, .slice ya yl yc, .int .i64 d, .slice ja jl jc] 83)).alloc (.cells #[.int .i64 0, .int .i64 0] 27) := ⟨_, rfl⟩
  have hb2 : Below w1.heap.size w1 w2 := by rw [hw2]; exact (balloc w1 _).alloc (by simp) _
  have hB1 : Below w0.heap.size w0 w2 := bcat2 hb1 hb2
  have hF1 : Blk w2 (w1.heap.size + 1) 27 [.int .i64 0, .int .i64 0] := by
    rw [hw2]
    have := blk0 (w := w1.alloc (.cells #[.int .i64 n, .slice va vl vc, .int .i64 e, .slice ia il ic, .int .i64 m, .slice ya yl yc, .int .i64 d, .slice ja jl jc] 83)) (T := 27) (.int .i64 0) (.int .i64 0)
    rwa [World.size_alloc] at this
  have hH2 : Blk w2 w1.heap.size 83 [.int .i64 n, .slice va vl vc, .int .i64 e, .slice ia il ic, .int .i64 m, .slice ya yl yc, .int .i64 d, .slice ja jl jc] := by
    rw [hw2]; exact Blk.alloc (World.alloc_heap_new _ _) _
  have hBw2 := bcat BG.bel hB1 BG.bel.size
  have hR2 := blk_below BG.res hB1
  have hX2 := blk_below BG.box hB1
  have hY2 := blk_below BG.boy hB1
  have hGA : GA w2 n (.slice va vl vc) e (.slice ia il ic) zs := ⟨hg, hv.below hBw2, hSI.sl.below hb2⟩
  have HLM := hide (fun W (h : Below w2.heap.size w2 W) => lm_ok' n e (.slice va vl vc) (.slice ia il ic) zs W (hGA.below h) ((hT.below hBw2).below h))
  have HSG := hide (fun W k1 k2 k3 => allf_ok n e m d (.slice va vl vc) (.slice ia il ic) (.slice ya yl yc) (.slice ja jl jc) k1 k2 k3 73 #[] W)
  have HLI := hide (fun (W : World) (ks : List Nat) (k1 : Option Addr) (k3 kb pb fb A : Nat) (h : Below w2.heap.size w2 W) (hk : Sl W (.slice k1 ks.length k3) (li ks)) (hLM : LM n zs e ks) (hgen : ∀ a, a < n → Mkd n zs e (fun x => decide (x ∈ ks)) a)
      (hA : Alls A W [.int .i64 n, .slice va vl vc, .int .i64 e, .slice ia il ic, .int .i64 m, .slice ya yl yc, .int .i64 d, .slice ja jl jc] (.slice k1 ks.length k3) (.func (.func 73) #[] #[]) kb pb fb) =>
    show Calls Tryd.prog 70 #[.func (.func 101) #[] #[.pointer (some ⟨kb, 0, none⟩), .pointer (some ⟨pb, 0, none⟩), .pointer (some ⟨fb, 0, none⟩)]] W (fun x w' => x = .returned (.tuple #[.slice none 0 0, .agg #[.int .i64 9, .int .i64 0]]) ∧ Below W.heap.size W w') from
      (listed_ok (f0 := 73) (fit := fun _ => true) hg hh (hGA.below h).mul ((hy.below hBw2).below h) hk hLM.lt hLM.fits hA (fun a W => call73 a W) (fun W9 g ms hW9 hb9 hl9 => fit_true _ W9)).mono (fun x w' hp => by
        exact ⟨hp.much (hmuch ks hLM hgen), hp.bel⟩))
  obtain ⟨t0, t1, _, _⟩ := hF1.two
  obtain ⟨g0, g1, _, _⟩ := hX2.two
  obtain ⟨k0, k1, _, _⟩ := hY2.two
  rw [hw2] at t0 t1 g0 g1 k0 k1
  have hmx : ¬ ((24 : Int) < max (n : Int) (m : Int)) := by omega
  clear hmuch
  go_wp2_with fail
  rw [← hw2]
  clear hw2 t0 t1 g0 g1 k0 k1
  have hw1s : w.heap.size + 1 + 1 < w1.heap.size := by have := BG.res.lt; have := hb1.size; omega
  have hS : ∀ W9, Below w2.heap.size w2 W9 → ((fun W9 => Below w.heap.size w W9 ∧ W9.cell? ⟨w1.heap.size, 0, none⟩ = some (.int .i64 n) ∧ W9.cell? ⟨w1.heap.size, 1, none⟩ = some (.slice va vl vc) ∧ W9.cell? ⟨w1.heap.size, 2, none⟩ = some (.int .i64 e) ∧ W9.cell? ⟨w1.heap.size, 3, none⟩ = some (.slice ia il ic) ∧ W9.cell? ⟨w1.heap.size, 4, none⟩ = some (.int .i64 m) ∧ W9.cell? ⟨w1.heap.size, 5, none⟩ = some (.slice ya yl yc) ∧ W9.cell? ⟨w1.heap.size, 6, none⟩ = some (.int .i64 d) ∧ W9.cell? ⟨w1.heap.size, 7, none⟩ = some (.slice ja jl jc)) W9) := fun W9 h => by
    obtain ⟨_, h0, h1, h2, h3, h4, h5, h6, h7⟩ := Eight.mk' hH2
    exact ⟨bcat2 hBw2 h, below_cell h h0, below_cell h h1, below_cell h h2, below_cell h h3, below_cell h h4, below_cell h h5, below_cell h h6, below_cell h h7⟩
  have hS3 : ∀ W8, Below w2.heap.size w2 W8 → ((fun W9 => Below w.heap.size w W9 ∧ W9.cell? ⟨w1.heap.size, 0, none⟩ = some (.int .i64 n) ∧ W9.cell? ⟨w1.heap.size, 1, none⟩ = some (.slice va vl vc) ∧ W9.cell? ⟨w1.heap.size, 2, none⟩ = some (.int .i64 e) ∧ W9.cell? ⟨w1.heap.size, 3, none⟩ = some (.slice ia il ic) ∧ W9.cell? ⟨w1.heap.size, 4, none⟩ = some (.int .i64 m) ∧ W9.cell? ⟨w1.heap.size, 5, none⟩ = some (.slice ya yl yc) ∧ W9.cell? ⟨w1.heap.size, 6, none⟩ = some (.int .i64 d) ∧ W9.cell? ⟨w1.heap.size, 7, none⟩ = some (.slice ja jl jc)) ((W8.setCell ⟨w.heap.size + 1 + 1, 0, none⟩ (.int .i64 9)).setCell ⟨w.heap.size + 1 + 1, 1, none⟩ (.int .i64 0))) := fun W8 h => by
    have hH9 : Blk ((W8.setCell ⟨w.heap.size + 1 + 1, 0, none⟩ (.int .i64 9)).setCell ⟨w.heap.size + 1 + 1, 1, none⟩ (.int .i64 0)) w1.heap.size 83 [.int .i64 n, .slice va vl vc, .int .i64 e, .slice ia il ic, .int .i64 m, .slice ya yl yc, .int .i64 d, .slice ja jl jc] := ((blk_below hH2 h).other (p := ⟨w.heap.size + 1 + 1, 0, none⟩) (show w1.heap.size ≠ w.heap.size + 1 + 1 by omega) _).other (p := ⟨w.heap.size + 1 + 1, 1, none⟩) (show w1.heap.size ≠ w.heap.size + 1 + 1 by omega) _
    obtain ⟨_, h0, h1, h2, h3, h4, h5, h6, h7⟩ := Eight.mk' hH9
    exact ⟨bSet (bSet (bcat2 hBw2 h) (by omega)) (by omega), h0, h1, h2, h3, h4, h5, h6, h7⟩
  have hS0 := hS _ (bdrew (Below.refl _ w2))
  go_region_held3 (fun W9 => Below w.heap.size w W9 ∧ W9.cell? ⟨w1.heap.size, 0, none⟩ = some (.int .i64 n) ∧ W9.cell? ⟨w1.heap.size, 1, none⟩ = some (.slice va vl vc) ∧ W9.cell? ⟨w1.heap.size, 2, none⟩ = some (.int .i64 e) ∧ W9.cell? ⟨w1.heap.size, 3, none⟩ = some (.slice ia il ic) ∧ W9.cell? ⟨w1.heap.size, 4, none⟩ = some (.int .i64 m) ∧ W9.cell? ⟨w1.heap.size, 5, none⟩ = some (.slice ya yl yc) ∧ W9.cell? ⟨w1.heap.size, 6, none⟩ = some (.int .i64 d) ∧ W9.cell? ⟨w1.heap.size, 7, none⟩ = some (.slice ja jl jc))
    (first | exact hS0 | assumption | exact hS3 _ hx5 | exact hS _ hx5 | exact hS _ hx4 | exact hS _ hx3)
    (first
      | (go_at_call 72; refine (HLM.out _ (bdrew (Below.refl _ w2))).mono ?_; rintro e3 w3 ⟨ks, k1, k3, rfl, hK3, hLM, hgen, hl3⟩; have hx3 := undrew' hl3)
      | (go_at_call 71; refine (HSG.out _ _ _ _).mono ?_; rintro e4 w4 ⟨kb, pb, fb, rfl, hA4, hl4⟩; have hx4 := bcat2 hx3 hl4)
      | (go_at_call 70; refine (HLI.out _ ks _ _ _ _ _ _ hx4 (hK3.below hl4) hLM hgen hA4).mono ?_; rintro e5 w5 ⟨rfl, hl5⟩; have hx5 := bcat2 hx4 hl5; obtain ⟨y0, y1, fy0, fy1⟩ := (blk_below hR2 hx5).two))
  all_goals (
    obtain ⟨hR6, hB6⟩ := put2 (blk_below hR2 hx5) (bcat2 hBw2 hx5) (by omega) 9 0
    obtain ⟨z0, z1, _, _⟩ := hR6.two
    go_wp2
    exact bodyPost_ret (v := .tuple #[.slice none 0 0, .agg #[.int .i64 9, .int .i64 0]]) (by simp [results, Tryd.results28, go_sem, z0, z1]) rfl ⟨rfl, hB6⟩)
end Go.Proofs.YtmgengplfebmjaaDoor

namespace Go.Proofs.YtmgengplfebmjaaDoor
open Go Go.RowKit

set_option maxRecDepth 100000 in
set_option maxHeartbeats 2000000 in
theorem lists_any (v u : Value) (rs ts : List (List Int)) (w : World) (hv : SlL w v rs) (hu : SlL w u ts) :
    Calls Tryd.prog 16 #[v, u] w fun x w' => x = .returned (.bool (decide (rs = ts))) ∧ Below w.heap.size w w' := by
  obtain ⟨va, vc, vb, vo, rfl, v1, v2, v3, v4, v5⟩ := hv
  obtain ⟨ua, uc, ub, uo, rfl, u1, u2, u3, u4, u5⟩ := hu
  have hm1 : rs.length ≤ 9223372036854775807 := by unfold maxLen at v5; omega
  have hm2 : ts.length ≤ 9223372036854775807 := by unfold maxLen at u5; omega
  have HV := hide v2
  have HU := hide u2
  clear v2 u2 v5 u5
  by_cases hlen : rs.length = ts.length
  · have HLEN := hide hlen
    rw [hlen] at v1 v4 hm1 ⊢
    clear hlen
    go_enter Tryd.func16, Tryd.ntmps16
    go_wp2
    go_loopw [5] (fun i wr => ∃ k : Nat, k ≤ ts.length ∧ i = .int .i64 k ∧ (∀ t, t < k → rs[t]?.getD [] = ts[t]?.getD []) ∧ Below w.heap.size w wr) (fun i _ => ts.length - (intOf i).toNat)
    case atStart => exact ⟨0, Nat.zero_le _, rfl, fun t ht => by omega, Below.refl _ _⟩
    case round =>
      obtain ⟨k, hk, rfl, hno, hB⟩ := hrel
      have HNO := hide hno
      clear hno
      by_cases hlt : k < ts.length
      · obtain rfl := v1 (by omega)
        obtain rfl := u1 (by omega)
        obtain ⟨x, hx, hsx⟩ := HV.out k (by rw [HLEN.out]; exact hlt)
        obtain ⟨y, hy, hsy⟩ := HU.out k (by omega)
        obtain ⟨x1, x2, x3, rfl⟩ := hsx.isSlice
        obtain ⟨y1, y2, y3, rfl⟩ := hsy.isSlice
        have hx := below_cell hB hx
        have hy := below_cell hB hy
        have hki : (k : Int) < (ts.length : Int) := by omega
        have HI := hide (fun W (h : Below wr.heap.size wr W) => ints_any (.slice x1 x2 x3) (.slice y1 y2 y3) (rs[k]?.getD []) (ts[k]?.getD []) W ((hsx.below hB).below h) ((hsy.below hB).below h))
        have hS : ∀ W, Below wr.heap.size wr W → (Below wr.heap.size wr W ∧ W.cell? ⟨vb, vo + k, none⟩ = some (.slice x1 x2 x3) ∧ W.cell? ⟨ub, uo + k, none⟩ = some (.slice y1 y2 y3)) := fun W h => ⟨h, below_cell h hx, below_cell h hy⟩
        have hS0 := hS _ (bdrew (Below.refl _ wr))
        clear hx hy hsx hsy
        by_cases he : rs[k]?.getD [] = ts[k]?.getD []
        · rw [decide_eq_true he] at HI
          have HE := hide he
          clear he
          go_wp2_with fail
          go_region_held3 (fun W => Below wr.heap.size wr W ∧ W.cell? ⟨vb, vo + k, none⟩ = some (.slice x1 x2 x3) ∧ W.cell? ⟨ub, uo + k, none⟩ = some (.slice y1 y2 y3))
            (first | exact hS0 | assumption | exact hS _ (bcat2 (And.left ‹_›) hl1))
            (first | (go_at_call 17; refine (HI.out _ (And.left ‹_›)).mono ?_; rintro e1 U1 ⟨rfl, hl1⟩))
          all_goals (
            have hB9 := And.left ‹Below wr.heap.size wr U1 ∧ _›
            go_wp2
            go_roundw
            case rel => exact ⟨k + 1, by omega, by go_num, fun t ht => by
              by_cases e9 : t = k
              · subst e9; exact HE.out
              · exact HNO.out t (by omega), bcat2 hB hB9⟩
            case measure => simp [intOf]; omega)
        · rw [decide_eq_false he] at HI
          have HD := hide (show decide (rs = ts) = false from decide_eq_false (fun e => he (by rw [e])))
          clear he
          go_wp2_with fail
          go_region_held3 (fun W => Below wr.heap.size wr W ∧ W.cell? ⟨vb, vo + k, none⟩ = some (.slice x1 x2 x3) ∧ W.cell? ⟨ub, uo + k, none⟩ = some (.slice y1 y2 y3))
            (first | exact hS0 | assumption | exact hS _ (bcat2 (And.left ‹_›) hl1))
            (first | (go_at_call 17; refine (HI.out _ (And.left ‹_›)).mono ?_; rintro e1 U1 ⟨rfl, hl1⟩))
          all_goals (
            have hB9 := And.left ‹Below wr.heap.size wr U1 ∧ _›
            go_wp2
            go_ret
            exact ⟨by rw [HD.out]; rfl, bcat2 hB hB9⟩)
      · have HD := hide (show decide (rs = ts) = true from decide_eq_true (List.ext_getElem HLEN.out fun t h1 h2 => by
          have := HNO.out t (by have := HLEN.out; omega)
          rw [List.getElem?_eq_getElem h1, List.getElem?_eq_getElem h2] at this
          exact this))
        go_wp2
        go_ret
        exact ⟨by rw [HD.out]; rfl, hB⟩
  · have hli : ¬ ((rs.length : Nat) : Int) = ((ts.length : Nat) : Int) := by omega
    have HD := hide (show decide (rs = ts) = false from decide_eq_false (fun e => hlen (by rw [e])))
    go_enter Tryd.func16, Tryd.ntmps16
    go_wp2
    go_ret
    exact ⟨by rw [HD.out]; rfl, Below.refl _ _⟩
set_option maxRecDepth 100000 in
set_option maxHeartbeats 8000000 in
theorem lsas_good (k : Nat) (caps : Array Value) (sv : Value) (xs ys : List (List Int)) (w : World) (hs : SlL w sv xs)
    (hcall : ∀ W, Sem.run Tryd.prog (callFunc k caps) W = .ok (.enter k caps) W)
    (hk : ∀ W, Below w.heap.size w W → Calls Tryd.prog k caps W fun x w' => ∃ r, x = .returned r ∧ SlL w' r ys ∧ Below W.heap.size W w') :
    Calls Tryd.prog 30 #[sv, .agg #[.int .i64 0, .int .i64 0], .agg #[.int .i64 0, .int .i64 0], .func (.func k) #[] caps] w fun x w' => x = .returned (.bool (decide (xs = ys))) ∧ Below w.heap.size w w' := by
  have hF1 : Blk ((w.alloc (.cells #[.int .i64 0, .int .i64 0] 27)).alloc (.cells #[.int .i64 0, .int .i64 0] 27)) w.heap.size 27 [.int .i64 0, .int .i64 0] := (blk0 _ _).alloc _
  have hF2 := blk0 (w := w.alloc (.cells #[.int .i64 0, .int .i64 0] 27)) (T := 27) (.int .i64 0) (.int .i64 0)
  rw [World.size_alloc] at hF2
  have hb : Below w.heap.size w ((w.alloc (.cells #[.int .i64 0, .int .i64 0] 27)).alloc (.cells #[.int .i64 0, .int .i64 0] 27)) := (balloc w _).alloc (by simp) _
  obtain ⟨f0, f1, _, _⟩ := hF1.two
  obtain ⟨g0, g1, _, _⟩ := hF2.two
  have HK := hide hk
  clear hk
  go_enter Tryd.func30, Tryd.ntmps30
  go_wp2_with fail
  generalize (w.alloc (.cells #[.int .i64 0, .int .i64 0] 27)).alloc (.cells #[.int .i64 0, .int .i64 0] 27) = w0 at *
  refine (HK.out w0 hb).mono ?_
  rintro x w1 ⟨r, rfl, hr, hb1⟩
  go_wp2_with fail
  refine (lists_any sv r xs ys w1 (hs.below (bcat2 hb hb1)) hr).mono ?_
  rintro x w2 ⟨rfl, hb2⟩
  go_wp2
  go_ret
  exact ⟨rfl, bcat2 (bcat2 hb hb1) hb2⟩
set_option maxRecDepth 100000 in
set_option maxHeartbeats 8000000 in
theorem lsas_nil (k : Nat) (caps : Array Value) (c i : Int) (r : Value) (w : World) (_h0 : 0 < w.heap.size) (hr : SlL w r []) (hc : c ≠ 0) :
    Calls Tryd.prog 30 #[r, .agg #[.int .i64 c, .int .i64 i], .agg #[.int .i64 c, .int .i64 i], .func (.func k) #[] caps] w fun x w' => x = .returned (.bool true) ∧ Below w.heap.size w w' := by
  obtain ⟨ra, rc, _, _, rfl, _, _, _, _, _⟩ := hr
  have hcb : (c != 0) = true := by simpa using hc
  have hF1 : Blk ((w.alloc (.cells #[.int .i64 c, .int .i64 i] 27)).alloc (.cells #[.int .i64 c, .int .i64 i] 27)) w.heap.size 27 [.int .i64 c, .int .i64 i] := (blk0 _ _).alloc _
  have hF2 := blk0 (w := w.alloc (.cells #[.int .i64 c, .int .i64 i] 27)) (T := 27) (.int .i64 c) (.int .i64 i)
  rw [World.size_alloc] at hF2
  have hb : Below w.heap.size w ((w.alloc (.cells #[.int .i64 c, .int .i64 i] 27)).alloc (.cells #[.int .i64 c, .int .i64 i] 27)) := (balloc w _).alloc (by simp) _
  obtain ⟨f0, f1, _, _⟩ := hF1.two
  obtain ⟨g0, g1, _, _⟩ := hF2.two
  show Calls Tryd.prog 30 #[.slice ra 0 rc, .agg #[.int .i64 c, .int .i64 i], .agg #[.int .i64 c, .int .i64 i], .func (.func k) #[] caps] w _
  go_enter Tryd.func30, Tryd.ntmps30
  go_wp2
  go_ret
  exact ⟨rfl, hb⟩
end Go.Proofs.YtmgengplfebmjaaDoor

namespace Go.Proofs.YtmgengplfebmjaaDoor
open Go Go.RowKit

theorem call31 (x : Value) (W : World) : Sem.run Tryd.prog (callFunc 31 #[x]) W = .ok (.enter 31 #[x]) W := by kernel_rfl
set_option maxRecDepth 100000 in
theorem hal1_ok (wb : Nat) (r : Value) (w : World) (hW : Boxed w wb 25 r) :
    Calls Tryd.prog 31 #[.pointer (some ⟨wb, 0, none⟩)] w fun x w' => x = .returned r ∧ w' = w := by
  have k0 := hW.cell
  go_enter Tryd.func31, Tryd.ntmps31
  go_wp2
  go_ret
  exact ⟨rfl, rfl⟩
theorem mkA {X U : World} {x y : Value} (k : Below (X.alloc (.cells #[x, y] 27)).heap.size (X.alloc (.cells #[x, y] 27)) U) : Blk U X.heap.size 27 [x, y] := blk_below (blk0 x y) k
theorem undA {W U : World} (k : Below W.drew.heap.size W.drew U) : Below W.heap.size W U := ⟨k.os, k.tape, k.output, k.size, k.block⟩
theorem slL_nil_any {W W' : World} {v : Value} (h : SlL W v []) (hs : W.heap.size ≤ W'.heap.size) : SlL W' v [] := by
  obtain ⟨a, cap, pb, po, h1, h2, _, h4, h5, h6⟩ := h
  exact ⟨a, cap, pb, po, h1, h2, fun j hj => by simp at hj, by omega, h5, h6⟩
/-- What lies there behind the first call. -/
def ARel (w0 : World) (c i : Int) (LS : List (List Int)) (s5 s6 : Value) (wx : World) : Prop := ∃ (b : Nat) (a : Option Addr) (cp : Nat), s5 = .slice a LS.length cp ∧ s6 = .pointer (some ⟨b, 0, none⟩) ∧ w0.heap.size ≤ b ∧ Blk wx b 27 [.int .i64 c, .int .i64 i] ∧ SlL wx (.slice a LS.length cp) LS ∧ Below w0.heap.size w0 wx
theorem arel_put {w0 U : World} {c i : Int} {x y : Value} {b : Nat} {a : Option Addr} {cp : Nat} (hb : w0.heap.size ≤ b) (hB : Below w0.heap.size w0 U) (hp : Blk U b 27 [x, y]) (hs : SlL U (.slice a 0 cp) []) : ARel w0 c i [] (.slice a 0 cp) (.pointer (some ⟨b, 0, none⟩)) ((U.setCell ⟨b, 0, none⟩ (.int .i64 c)).setCell ⟨b, 1, none⟩ (.int .i64 i)) :=
  ⟨b, a, cp, rfl, rfl, hb, (hp.set 0 _).set 1 _, slL_nil_any hs (by rw [size_set, size_set]; exact Nat.le_refl _), bSet (bSet hB hb) hb⟩
theorem arel_new {w0 U : World} {c i : Int} {LS : List (List Int)} {a : Option Addr} {cp : Nat} (hB : Below w0.heap.size w0 U) (hs : SlL U (.slice a LS.length cp) LS) : ARel w0 c i LS (.slice a LS.length cp) (.pointer (some ⟨U.heap.size, 0, none⟩)) (U.alloc (.cells #[.int .i64 c, .int .i64 i] 27)) :=
  ⟨U.heap.size, a, cp, rfl, rfl, hB.size, blk0 _ _, hs.below (balloc _ _), bcat2 hB (balloc _ _)⟩
theorem arel_same {w0 U : World} {LS : List (List Int)} {a : Option Addr} {cp b : Nat} (hb : w0.heap.size ≤ b) (hB : Below w0.heap.size w0 U) (hp : Blk U b 27 [.int .i64 0, .int .i64 0]) (hs : SlL U (.slice a LS.length cp) LS) : ARel w0 0 0 LS (.slice a LS.length cp) (.pointer (some ⟨b, 0, none⟩)) U :=
  ⟨b, a, cp, rfl, rfl, hb, hp, hs, hB⟩
set_option maxRecDepth 100000 in
set_option maxHeartbeats 8000000 in
theorem hall_law_bad (N M c i : Int) (v1 : Option Addr) (v2 v3 : Nat) (y1 : Option Addr) (y2 y3 : Nat) (zs ys : List Int) (w : World) (hT : Tab w) (hc : c ≠ 0)
    (HO1 : Hid (∀ W, Below w.heap.size w W → Calls Tryd.prog 10 #[.agg #[.int .i64 N, .slice v1 v2 v3]] W fun x W' => ∃ u1 u2 u3, x = .returned (.agg #[.int .i64 N, .slice u1 u2 u3]) ∧ Sl W' (.slice u1 u2 u3) zs ∧ Below W.heap.size W W'))
    (HO2 : Hid (∀ W, Below w.heap.size w W → Calls Tryd.prog 10 #[.agg #[.int .i64 M, .slice y1 y2 y3]] W fun x W' => ∃ u1 u2 u3, x = .returned (.agg #[.int .i64 M, .slice u1 u2 u3]) ∧ Sl W' (.slice u1 u2 u3) ys ∧ Below W.heap.size W W'))
    (HAL : Hid (∀ W u t, Below w.heap.size w W → Sl W u zs → Sl W t ys → Calls Tryd.prog 28 #[.agg #[.int .i64 N, u], .agg #[.int .i64 M, t]] W fun x W' => x = .returned (.tuple #[.slice none 0 0, .agg #[.int .i64 c, .int .i64 i]]) ∧ Below W.heap.size W W'))
    (hway : Hid (∀ W, Below w.heap.size w W → Calls Tryd.prog 23 #[.agg #[.int .i64 N, .slice v1 v2 v3], .agg #[.int .i64 M, .slice y1 y2 y3]] W fun x W' => x = .returned (.agg #[.int .i64 c, .int .i64 i]) ∧ Below W.heap.size W W') ∨
      (Hid (∀ W, Below w.heap.size w W → Calls Tryd.prog 23 #[.agg #[.int .i64 N, .slice v1 v2 v3], .agg #[.int .i64 M, .slice y1 y2 y3]] W fun x W' => x = .returned (.agg #[.int .i64 0, .int .i64 0]) ∧ Below W.heap.size W W') ∧
        (((24 < N ∨ 24 < M) ∧ c = 2 ∧ i = 0) ∨ (¬ 24 < N ∧ ¬ 24 < M ∧ c = 9 ∧ i = 0 ∧
          Hid (∀ W, Below w.heap.size w W → Calls Tryd.prog 29 #[.agg #[.int .i64 N, .slice v1 v2 v3], .agg #[.int .i64 M, .slice y1 y2 y3], .int .i64 1000] W fun x W' => x = .returned (.tuple #[.slice none 0 0, .bool false]) ∧ Below W.heap.size W W'))))) :
    Calls Tryd.prog 5 #[.agg #[.int .i64 N, .slice v1 v2 v3], .agg #[.int .i64 M, .slice y1 y2 y3]] w fun e w' => e = .returned (.bool true) ∧ Below w.heap.size w w' := by
  obtain ⟨w0, hw0⟩ : ∃ w0, w0 = (w.alloc (.cells #[.int .i64 N, .slice v1 v2 v3] 24)).alloc (.cells #[.int .i64 M, .slice y1 y2 y3] 24) := ⟨_, rfl⟩
  have hB0 : Below w.heap.size w w0 := by rw [hw0]; exact (balloc w _).alloc (by simp) _
  have hX0 : BoxG w0 w.heap.size N (.slice v1 v2 v3) := by rw [hw0]; exact (blk0 (w := w) (T := 24) _ _).alloc _
  have hY0 : BoxG w0 (w.heap.size + 1) M (.slice y1 y2 y3) := by
    rw [hw0]
    have := blk0 (w := w.alloc (.cells #[.int .i64 N, .slice v1 v2 v3] 24)) (T := 24) (.int .i64 M) (.slice y1 y2 y3)
    rwa [World.size_alloc] at this
  have hs0 : w.heap.size + 1 < w0.heap.size := hY0.lt
  obtain ⟨c0, c1, _, _⟩ := hX0.two
  obtain ⟨d0, d1, _, _⟩ := hY0.two
  have hS : ∀ W9, Below w0.heap.size w0 W9 → (Below w0.heap.size w0 W9 ∧ W9.cell? ⟨w.heap.size, 0, none⟩ = some (.int .i64 N) ∧ W9.cell? ⟨w.heap.size, 1, none⟩ = some (.slice v1 v2 v3) ∧ W9.cell? ⟨w.heap.size + 1, 0, none⟩ = some (.int .i64 M) ∧ W9.cell? ⟨w.heap.size + 1, 1, none⟩ = some (.slice y1 y2 y3)) := fun W9 h => ⟨h, below_cell h c0, below_cell h c1, below_cell h d0, below_cell h d1⟩
  have hS0 := hS _ (bdrew (Below.refl _ w0))
  clear c0 c1 d0 d1
  have hcb : (c != 0) = true := by simpa using hc
  go_enter Tryd.func5, Tryd.ntmps5
  go_wp2_with fail
  rw [← hw0]
  clear hw0
  go_cut [5, 6] (fun s5 s6 wx => ARel w0 c i [] s5 s6 wx)
  case first =>
    clear hway
    go_region_held3 (fun W9 => Below w0.heap.size w0 W9 ∧ W9.cell? ⟨w.heap.size, 0, none⟩ = some (.int .i64 N) ∧ W9.cell? ⟨w.heap.size, 1, none⟩ = some (.slice v1 v2 v3) ∧ W9.cell? ⟨w.heap.size + 1, 0, none⟩ = some (.int .i64 M) ∧ W9.cell? ⟨w.heap.size + 1, 1, none⟩ = some (.slice y1 y2 y3))
      (first | exact hS0 | assumption | exact hS _ (bcat2 (And.left ‹_›) hl7) | exact hS _ (bcat2 (And.left ‹_›) hl6) | exact hS _ (bcat2 (And.left ‹_›) hl5) | exact hS _ (bcat2 (And.left ‹_›) (balloc _ _)) | exact hS _ (bcat2 hU7 (balloc _ _)) | exact hS _ (bSet (bSet hU7 hU6.size) hU6.size) | exact hS _ (bSet (bSet hU7 hU5.size) hU5.size) | exact hS _ (bSet (bSet hU7 (Nat.le_refl _)) (Nat.le_refl _)))
      (first
        | (go_at_call_of 10 (Value.slice v1 v2 v3); refine (HO1.out _ (bcat2 hB0 (And.left ‹_›))).mono ?_; rintro e5 U5 ⟨a1, a2, a3, rfl, ha5, hl5⟩; have hU5 := bcat2 (And.left ‹_›) hl5; (first | (with_reducible have pA := mkA hl5) | (with_reducible have pA := mkA (undA hl5)) | skip))
        | (go_at_call_of 10 (Value.slice y1 y2 y3); refine (HO2.out _ (bcat2 hB0 (And.left ‹_›))).mono ?_; rintro e6 U6 ⟨b1, b2, b3, rfl, hb6, hl6⟩; have hU6 := bcat2 (And.left ‹_›) hl6; (first | (with_reducible have pB := mkA hl6) | skip); (first | (with_reducible have pA := blk_below pA hl6) | skip))
        | (go_at_call 28; refine (HAL.out _ _ _ (bcat2 hB0 (And.left ‹_›)) (by first | exact ha5.below hl6 | exact (ha5.below (balloc _ _)).below hl6 | exact (ha5.below hl6).below (balloc _ _)) (by first | exact hb6 | exact hb6.below (balloc _ _))).mono ?_; rintro e7 U7 ⟨rfl, hl7⟩; (first | (with_reducible have pC := mkA hl7) | skip); (first | (with_reducible have pB := blk_below pB hl7) | skip); (first | (with_reducible have pA := blk_below pA hl7) | skip); (try (obtain ⟨_, _, _, _⟩ := pA.two)); (try (obtain ⟨_, _, _, _⟩ := pB.two)); (try (obtain ⟨_, _, _, _⟩ := pC.two)); have hU7 := bcat2 (And.left ‹_›) hl7))
    all_goals (go_wp2; go_meet)
    all_goals (have hn7 : SlL U7 (.slice none 0 0) [] := ⟨none, 0, 0, 0, rfl, fun h => by simp at h, fun j hj => by simp at hj, Nat.lt_of_lt_of_le (Nat.lt_of_le_of_lt (Nat.zero_le _) hs0) hU7.size, Nat.le_refl _, by unfold maxLen; omega⟩)
    all_goals (first
      | exact arel_new hU7 hn7
      | exact arel_put hU6.size hU7 pC hn7
      | exact arel_put hU5.size hU7 pB hn7
      | exact arel_put (Nat.le_refl _) hU7 pA hn7)
  case rest =>
    obtain ⟨fb, ra, rc, rfl, rfl, hfb, hF, hsl, hbx⟩ := hcut
    have hB := bcat2 hB0 hbx
    have hX := blk_below hX0 hbx
    have hY := blk_below hY0 hbx
    clear HO1 HO2 HAL hS hS0 hX0 hY0
    have hcall := call31
    obtain ⟨c0, c1, _, _⟩ := hX.two
    obtain ⟨d0, d1, _, _⟩ := hY.two
    go_wp2_with fail
    clear c0 c1 d0 d1
    rcases hway with HTW | ⟨HTW, hway⟩
    · refine (HTW.out _ hB).mono ?_
      rintro x w4 ⟨rfl, hb4⟩
      have hcz : (c == 0) = false := by simpa using hc
      obtain ⟨w5, hw5⟩ : ∃ w5, w5 = (w4.alloc (.cells #[.int .i64 c, .int .i64 i] 27)).alloc (.cells #[.slice none 0 0] 25) := ⟨_, rfl⟩
      have hb5 : Below w4.heap.size w4 w5 := by rw [hw5]; exact (balloc w4 _).alloc (by simp) _
      have hW5 : Blk w5 w4.heap.size 27 [.int .i64 c, .int .i64 i] := by rw [hw5]; exact (blk0 (w := w4) (T := 27) _ _).alloc _
      have hB5 := bcat2 hB (bcat2 hb4 hb5)
      have hF5 := blk_below hF (bcat2 hb4 hb5)
      have hsl5 := hsl.below (bcat2 hb4 hb5)
      obtain ⟨u0, u1, _, _⟩ := hW5.two
      obtain ⟨g0, g1, _, _⟩ := (blk_below hX (bcat2 hb4 hb5)).two
      rw [hw5] at u0 u1 g0 g1
      go_wp2_with fail
      rw [← hw5]
      clear hw5 u0 u1 g0 g1
      refine (homBegun_any _ (hT.below hB5)).mono ?_
      rintro x w8 ⟨rfl, hb8⟩
      obtain ⟨u0, u1, _, _⟩ := (blk_below hW5 hb8).two
      obtain ⟨g0, g1, _, _⟩ := (blk_below hF5 hb8).two
      have HLA := hide (fun k caps => lsas_nil k caps c i (.slice ra 0 rc) w8 (Nat.lt_of_lt_of_le (Nat.lt_of_le_of_lt (Nat.zero_le _) hF5.lt) hb8.size) (hsl5.below hb8) hc)
      go_wp2_with fail
      refine (HLA.out _ _).mono ?_
      rintro x w9 ⟨rfl, hb9⟩
      go_wp2
      go_ret
      exact ⟨rfl, bcat2 hB5 (bcat2 hb8 hb9)⟩
    · refine (HTW.out _ hB).mono ?_
      rintro x w4 ⟨rfl, hb4⟩
      have hB4 := bcat2 hB hb4
      have hX4 := blk_below hX hb4
      have hY4 := blk_below hY hb4
      have hF4 := blk_below hF hb4
      have hsl4 := hsl.below hb4
      have hfw : fb ≠ w4.heap.size := by have := hF4.lt; omega
      clear hX hY hB
      obtain ⟨w5, hw5⟩ : ∃ w5, w5 = w4.alloc (.cells #[.int .i64 0, .int .i64 0] 27) := ⟨_, rfl⟩
      have hb5 : Below w4.heap.size w4 w5 := by rw [hw5]; exact balloc w4 _
      have hW5 : Blk w5 w4.heap.size 27 [.int .i64 0, .int .i64 0] := by rw [hw5]; exact blk0 (w := w4) (T := 27) _ _
      obtain ⟨u0, u1, fu0, fu1⟩ := hW5.two
      obtain ⟨g0, g1, _, _⟩ := (blk_below hX4 hb5).two
      obtain ⟨h0, h1, _, _⟩ := (blk_below hY4 hb5).two
      rcases hway with ⟨hbig, rfl, rfl⟩ | ⟨hN, hM, rfl, rfl, HHM⟩
      · have hwalk : Hid (24 < N ∨ ¬ 24 < N ∧ 24 < M) := by
          show 24 < N ∨ ¬ 24 < N ∧ 24 < M
          omega
        rw [hw5] at u0 u1 fu0 fu1 g0 g1 h0 h1
        have HF := hide (fun W => f_any 2 0 W)
        rcases hwalk.out with hn | ⟨hn, hm⟩
        all_goals (
          go_wp2_with fail
          rw [← hw5]
          clear u0 u1 fu0 fu1 g0 g1 h0 h1
          refine (HF.out _).mono ?_
          rintro x w6 ⟨rfl, hb6⟩
          have hb56 := bcat2 hb5 hb6
          obtain ⟨hR7, hB7⟩ := put2 (blk_below hW5 hb6) hb56 (Nat.le_refl _) 2 0
          obtain ⟨u0, u1, fu0, fu1⟩ := (blk_below hW5 hb6).two
          obtain ⟨w7, hw7⟩ : ∃ w7, w7 = (w6.setCell ⟨w4.heap.size, 0, none⟩ (.int .i64 2)).setCell ⟨w4.heap.size, 1, none⟩ (.int .i64 0) := ⟨_, rfl⟩
          obtain ⟨w8, hw8⟩ : ∃ w8, w8 = w7.alloc (.cells #[.slice none 0 0] 25) := ⟨_, rfl⟩
          rw [← hw7] at hR7 hB7
          have hb8 : Below w4.heap.size w4 w8 := by rw [hw8]; exact bAlloc hB7
          have hR8 : Blk w8 w4.heap.size 27 [.int .i64 2, .int .i64 0] := by rw [hw8]; exact hR7.alloc _
          obtain ⟨z0, z1, _, _⟩ := hR8.two
          rw [hw8, hw7] at z0 z1
          go_wp2_with fail
          rw [← hw7, ← hw8]
          clear hw7 hw8 z0 z1 u0 u1 fu0 fu1
          have hB8 := bcat2 hB4 hb8
          refine (homBegun_any _ (hT.below hB8)).mono ?_
          rintro x w9 ⟨rfl, hb9⟩
          obtain ⟨u0, u1, _, _⟩ := (blk_below hR8 hb9).two
          obtain ⟨g0, g1, _, _⟩ := (blk_below hF4 (bcat2 hb8 hb9)).two
          have HLA := hide (fun k caps => lsas_nil k caps 2 0 (.slice ra 0 rc) w9 (Nat.lt_of_lt_of_le (Nat.lt_of_le_of_lt (Nat.zero_le _) hR8.lt) hb9.size) (hsl4.below (bcat2 hb8 hb9)) (by decide))
          go_wp2_with fail
          refine (HLA.out _ _).mono ?_
          rintro x w10 ⟨rfl, hb10⟩
          go_wp2
          go_ret
          exact ⟨rfl, bcat2 hB8 (bcat2 hb9 hb10)⟩)
      · obtain ⟨w6, hw6⟩ : ∃ w6, w6 = w5.alloc (.cells #[.slice none 0 0] 25) := ⟨_, rfl⟩
        have hb6 : Below w5.heap.size w5 w6 := by rw [hw6]; exact balloc w5 _
        have hN6 : Boxed w6 w5.heap.size 25 (.slice none 0 0) := by rw [hw6]; exact Boxed.new w5 25 _
        have hs5 : w5.heap.size = w4.heap.size + 1 := by rw [hw5]; simp
        have hb46 := bcat2 hb5 hb6
        obtain ⟨g2, g3, _, _⟩ := (blk_below hX4 hb46).two
        obtain ⟨h2, h3, _, _⟩ := (blk_below hY4 hb46).two
        obtain ⟨u2, u3, _, _⟩ := (blk_below hW5 hb6).two
        rw [hw6, hw5] at g2 g3 h2 h3 u2 u3
        rw [hw5] at u0 u1 fu0 fu1 g0 g1 h0 h1
        have HF := hide (fun W => f_any 9 0 W)
        rw [hs5] at hN6
        have HS5 := hide hs5
        clear hs5
        go_wp2_with fail
        rw [← hw5, ← hw6]
        clear u0 u1 fu0 fu1 g0 g1 h0 h1 g2 g3 h2 h3 u2 u3 hw6 hw5
        refine (HHM.out _ (bcat2 hB4 hb46)).mono ?_
        rintro x w7 ⟨rfl, hb7⟩
        go_wp2_with fail
        refine (HF.out _).mono ?_
        rintro x w8 ⟨rfl, hb8⟩
        have hb48 := bcat2 hb46 (bcat2 hb7 hb8)
        have hW8 := blk_below hW5 (bcat2 hb6 (bcat2 hb7 hb8))
        have hN8 := Boxed.below hN6 (bcat2 hb7 hb8)
        obtain ⟨u0, u1, fu0, fu1⟩ := hW8.two
        obtain ⟨hR9, hB9⟩ := put2 hW8 hb48 (Nat.le_refl _) 9 0
        obtain ⟨w9, hw9⟩ : ∃ w9, w9 = (w8.setCell ⟨w4.heap.size, 0, none⟩ (.int .i64 9)).setCell ⟨w4.heap.size, 1, none⟩ (.int .i64 0) := ⟨_, rfl⟩
        rw [← hw9] at hR9 hB9
        have hN9 : Boxed w9 (w4.heap.size + 1) 25 (.slice none 0 0) := by
          rw [hw9]
          exact (Below.heap_setCell _ _ _ _ (show w4.heap.size + 1 ≠ w4.heap.size by omega)).trans ((Below.heap_setCell _ _ _ _ (show w4.heap.size + 1 ≠ w4.heap.size by omega)).trans hN8)
        have hN10 := hN9.set (.slice none 0 0)
        have hR10 : Blk (w9.setCell ⟨w4.heap.size + 1, 0, none⟩ (.slice none 0 0)) w4.heap.size 27 [.int .i64 9, .int .i64 0] := hR9.other (p := ⟨w4.heap.size + 1, 0, none⟩) (show w4.heap.size ≠ w4.heap.size + 1 by omega) _
        have hB10 : Below w4.heap.size w4 (w9.setCell ⟨w4.heap.size + 1, 0, none⟩ (.slice none 0 0)) := bSet hB9 (by omega)
        have k9 := hN9.cell
        have kf9 := hN9.frozen
        obtain ⟨z0, z1, _, _⟩ := hR10.two
        rw [hw9] at z0 z1 k9 kf9
        go_wp2_with fail
        rw [← hw9]
        clear hw9 z0 z1 k9 kf9 u0 u1 fu0 fu1
        generalize w9.setCell ⟨w4.heap.size + 1, 0, none⟩ (.slice none 0 0) = wA at *
        have hBA := bcat2 hB4 hB10
        refine (homBegun_any _ (hT.below hBA)).mono ?_
        rintro x wB ⟨rfl, hb11⟩
        obtain ⟨u0, u1, _, _⟩ := (blk_below hR10 hb11).two
        obtain ⟨g0, g1, _, _⟩ := (blk_below hF4 (bcat2 hB10 hb11)).two
        have HLA := hide (fun k caps => lsas_nil k caps 9 0 (.slice ra 0 rc) wB (Nat.lt_of_lt_of_le (Nat.lt_of_le_of_lt (Nat.zero_le _) hR10.lt) hb11.size) (hsl4.below (bcat2 hB10 hb11)) (by decide))
        go_wp2_with fail
        refine (HLA.out _ _).mono ?_
        rintro x wC ⟨rfl, hb12⟩
        go_wp2
        go_ret
        exact ⟨rfl, bcat2 hBA (bcat2 hb11 hb12)⟩
end Go.Proofs.YtmgengplfebmjaaDoor

namespace Go.Proofs.YtmgengplfebmjaaDoor
open Go Go.RowKit

set_option maxRecDepth 100000 in
set_option maxHeartbeats 8000000 in
theorem hall_law_good (N M : Int) (LS : List (List Int)) (v1 : Option Addr) (v2 v3 : Nat) (y1 : Option Addr) (y2 y3 : Nat) (zs ys : List Int) (w : World) (hT : Tab w) (hN : ¬ 24 < N) (hM : ¬ 24 < M)
    (HO1 : Hid (∀ W, Below w.heap.size w W → Calls Tryd.prog 10 #[.agg #[.int .i64 N, .slice v1 v2 v3]] W fun x W' => ∃ u1 u2 u3, x = .returned (.agg #[.int .i64 N, .slice u1 u2 u3]) ∧ Sl W' (.slice u1 u2 u3) zs ∧ Below W.heap.size W W'))
    (HO2 : Hid (∀ W, Below w.heap.size w W → Calls Tryd.prog 10 #[.agg #[.int .i64 M, .slice y1 y2 y3]] W fun x W' => ∃ u1 u2 u3, x = .returned (.agg #[.int .i64 M, .slice u1 u2 u3]) ∧ Sl W' (.slice u1 u2 u3) ys ∧ Below W.heap.size W W'))
    (HAL : Hid (∀ W u t, Below w.heap.size w W → Sl W u zs → Sl W t ys → Calls Tryd.prog 28 #[.agg #[.int .i64 N, u], .agg #[.int .i64 M, t]] W fun x W' => ∃ (r1 : Option Addr) (r3 : Nat), x = .returned (.tuple #[.slice r1 LS.length r3, .agg #[.int .i64 0, .int .i64 0]]) ∧ SlL W' (.slice r1 LS.length r3) LS ∧ Below W.heap.size W W'))
    (HTW : Hid (∀ W, Below w.heap.size w W → Calls Tryd.prog 23 #[.agg #[.int .i64 N, .slice v1 v2 v3], .agg #[.int .i64 M, .slice y1 y2 y3]] W fun x W' => x = .returned (.agg #[.int .i64 0, .int .i64 0]) ∧ Below W.heap.size W W'))
    (HHM : Hid (∀ W, Below w.heap.size w W → Calls Tryd.prog 29 #[.agg #[.int .i64 N, .slice v1 v2 v3], .agg #[.int .i64 M, .slice y1 y2 y3], .int .i64 1000] W fun x W' => ∃ (r1 : Option Addr) (r3 : Nat), x = .returned (.tuple #[.slice r1 LS.length r3, .bool true]) ∧ (∀ b x, b < W.heap.size → SlL (W'.setCell ⟨b, 0, none⟩ x) (.slice r1 LS.length r3) LS) ∧ Below W.heap.size W W')) :
    Calls Tryd.prog 5 #[.agg #[.int .i64 N, .slice v1 v2 v3], .agg #[.int .i64 M, .slice y1 y2 y3]] w fun e w' => e = .returned (.bool true) ∧ Below w.heap.size w w' := by
  obtain ⟨w0, hw0⟩ : ∃ w0, w0 = (w.alloc (.cells #[.int .i64 N, .slice v1 v2 v3] 24)).alloc (.cells #[.int .i64 M, .slice y1 y2 y3] 24) := ⟨_, rfl⟩
  have hB0 : Below w.heap.size w w0 := by rw [hw0]; exact (balloc w _).alloc (by simp) _
  have hX0 : BoxG w0 w.heap.size N (.slice v1 v2 v3) := by rw [hw0]; exact (blk0 (w := w) (T := 24) _ _).alloc _
  have hY0 : BoxG w0 (w.heap.size + 1) M (.slice y1 y2 y3) := by
    rw [hw0]
    have := blk0 (w := w.alloc (.cells #[.int .i64 N, .slice v1 v2 v3] 24)) (T := 24) (.int .i64 M) (.slice y1 y2 y3)
    rwa [World.size_alloc] at this
  have hs0 : w.heap.size + 1 < w0.heap.size := hY0.lt
  obtain ⟨c0, c1, _, _⟩ := hX0.two
  obtain ⟨d0, d1, _, _⟩ := hY0.two
  have hS : ∀ W9, Below w0.heap.size w0 W9 → (Below w0.heap.size w0 W9 ∧ W9.cell? ⟨w.heap.size, 0, none⟩ = some (.int .i64 N) ∧ W9.cell? ⟨w.heap.size, 1, none⟩ = some (.slice v1 v2 v3) ∧ W9.cell? ⟨w.heap.size + 1, 0, none⟩ = some (.int .i64 M) ∧ W9.cell? ⟨w.heap.size + 1, 1, none⟩ = some (.slice y1 y2 y3)) := fun W9 h => ⟨h, below_cell h c0, below_cell h c1, below_cell h d0, below_cell h d1⟩
  have hS0 := hS _ (bdrew (Below.refl _ w0))
  clear c0 c1 d0 d1
  go_enter Tryd.func5, Tryd.ntmps5
  go_wp2_with fail
  rw [← hw0]
  clear hw0
  go_cut [5, 6] (fun s5 s6 wx => ARel w0 0 0 LS s5 s6 wx)
  case first =>
    clear HTW HHM
    go_region_held3 (fun W9 => Below w0.heap.size w0 W9 ∧ W9.cell? ⟨w.heap.size, 0, none⟩ = some (.int .i64 N) ∧ W9.cell? ⟨w.heap.size, 1, none⟩ = some (.slice v1 v2 v3) ∧ W9.cell? ⟨w.heap.size + 1, 0, none⟩ = some (.int .i64 M) ∧ W9.cell? ⟨w.heap.size + 1, 1, none⟩ = some (.slice y1 y2 y3))
      (first | exact hS0 | assumption | exact hS _ (bcat2 (And.left ‹_›) hl7) | exact hS _ (bcat2 (And.left ‹_›) hl6) | exact hS _ (bcat2 (And.left ‹_›) hl5) | exact hS _ (bcat2 (And.left ‹_›) (balloc _ _)) | exact hS _ (bcat2 hU7 (balloc _ _)) | exact hS _ (bSet (bSet hU7 hU6.size) hU6.size) | exact hS _ (bSet (bSet hU7 hU5.size) hU5.size) | exact hS _ (bSet (bSet hU7 (Nat.le_refl _)) (Nat.le_refl _)))
      (first
        | (go_at_call_of 10 (Value.slice v1 v2 v3); refine (HO1.out _ (bcat2 hB0 (And.left ‹_›))).mono ?_; rintro e5 U5 ⟨a1, a2, a3, rfl, ha5, hl5⟩; have hU5 := bcat2 (And.left ‹_›) hl5; (first | (with_reducible have pA := mkA hl5) | (with_reducible have pA := mkA (undA hl5)) | skip))
        | (go_at_call_of 10 (Value.slice y1 y2 y3); refine (HO2.out _ (bcat2 hB0 (And.left ‹_›))).mono ?_; rintro e6 U6 ⟨b1, b2, b3, rfl, hb6, hl6⟩; have hU6 := bcat2 (And.left ‹_›) hl6; (first | (with_reducible have pB := mkA hl6) | skip); (first | (with_reducible have pA := blk_below pA hl6) | skip))
        | (go_at_call 28; refine (HAL.out _ _ _ (bcat2 hB0 (And.left ‹_›)) (by first | exact ha5.below hl6 | exact (ha5.below (balloc _ _)).below hl6 | exact (ha5.below hl6).below (balloc _ _)) (by first | exact hb6 | exact hb6.below (balloc _ _))).mono ?_; rintro e7 U7 ⟨q1, q3, rfl, hs7, hl7⟩; (first | (with_reducible have pC := mkA hl7) | skip); (first | (with_reducible have pB := blk_below pB hl7) | skip); (first | (with_reducible have pA := blk_below pA hl7) | skip); (try (obtain ⟨_, _, _, _⟩ := pA.two; obtain ⟨_, _⟩ := pA.self)); (try (obtain ⟨_, _, _, _⟩ := pB.two; obtain ⟨_, _⟩ := pB.self)); (try (obtain ⟨_, _, _, _⟩ := pC.two; obtain ⟨_, _⟩ := pC.self)); have hU7 := bcat2 (And.left ‹_›) hl7))
    all_goals (go_wp2; go_meet)
    all_goals (first
      | exact arel_new hU7 hs7
      | exact arel_same hU6.size hU7 pC hs7
      | exact arel_same hU5.size hU7 pB hs7
      | exact arel_same (Nat.le_refl _) hU7 pA hs7)
  case rest =>
    obtain ⟨fb, ra, rc, rfl, rfl, hfb, hF, hsl, hbx⟩ := hcut
    have hB := bcat2 hB0 hbx
    have hX := blk_below hX0 hbx
    have hY := blk_below hY0 hbx
    clear HO1 HO2 HAL hS hS0 hX0 hY0
    have hcall := call31
    obtain ⟨c0, c1, _, _⟩ := hX.two
    obtain ⟨d0, d1, _, _⟩ := hY.two
    go_wp2_with fail
    clear c0 c1 d0 d1
    refine (HTW.out _ hB).mono ?_
    rintro x w4 ⟨rfl, hb4⟩
    have hB4 := bcat2 hB hb4
    have hX4 := blk_below hX hb4
    have hY4 := blk_below hY hb4
    have hF4 := blk_below hF hb4
    have hsl4 := hsl.below hb4
    clear hX hY hB
    obtain ⟨w5, hw5⟩ : ∃ w5, w5 = w4.alloc (.cells #[.int .i64 0, .int .i64 0] 27) := ⟨_, rfl⟩
    have hb5 : Below w4.heap.size w4 w5 := by rw [hw5]; exact balloc w4 _
    have hW5 : Blk w5 w4.heap.size 27 [.int .i64 0, .int .i64 0] := by rw [hw5]; exact blk0 (w := w4) (T := 27) _ _
    obtain ⟨u0, u1, fu0, fu1⟩ := hW5.two
    obtain ⟨g0, g1, _, _⟩ := (blk_below hX4 hb5).two
    obtain ⟨h0, h1, _, _⟩ := (blk_below hY4 hb5).two
    obtain ⟨w6, hw6⟩ : ∃ w6, w6 = w5.alloc (.cells #[.slice none 0 0] 25) := ⟨_, rfl⟩
    have hb6 : Below w5.heap.size w5 w6 := by rw [hw6]; exact balloc w5 _
    have hN6 : Boxed w6 w5.heap.size 25 (.slice none 0 0) := by rw [hw6]; exact Boxed.new w5 25 _
    have hs5 : w5.heap.size = w4.heap.size + 1 := by rw [hw5]; simp
    have hb46 := bcat2 hb5 hb6
    obtain ⟨g2, g3, _, _⟩ := (blk_below hX4 hb46).two
    obtain ⟨h2, h3, _, _⟩ := (blk_below hY4 hb46).two
    obtain ⟨u2, u3, _, _⟩ := (blk_below hW5 hb6).two
    rw [hw6, hw5] at g2 g3 h2 h3 u2 u3
    rw [hw5] at u0 u1 fu0 fu1 g0 g1 h0 h1
    rw [hs5] at hN6
    clear hs5
    go_wp2_with fail
    rw [← hw5, ← hw6]
    clear u0 u1 fu0 fu1 g0 g1 h0 h1 g2 g3 h2 h3 u2 u3 hw6 hw5
    refine (HHM.out _ (bcat2 hB4 hb46)).mono ?_
    rintro x w7 ⟨q1, q3, rfl, hq7, hb7⟩
    have hb47 := bcat2 hb46 hb7
    have hW7 := blk_below hW5 (bcat2 hb6 hb7)
    have hN7 := Boxed.below hN6 hb7
    have hN8 := hN7.set (.slice q1 LS.length q3)
    have hR8 : Blk (w7.setCell ⟨w4.heap.size + 1, 0, none⟩ (.slice q1 LS.length q3)) w4.heap.size 27 [.int .i64 0, .int .i64 0] := hW7.other (p := ⟨w4.heap.size + 1, 0, none⟩) (show w4.heap.size ≠ w4.heap.size + 1 by omega) _
    have hB8 : Below w4.heap.size w4 (w7.setCell ⟨w4.heap.size + 1, 0, none⟩ (.slice q1 LS.length q3)) := bSet hb47 (by omega)
    have hqA := hq7 (w4.heap.size + 1) (.slice q1 LS.length q3) hN6.lt
    have k7 := hN7.cell
    have kf7 := hN7.frozen
    obtain ⟨z0, z1, _, _⟩ := hR8.two
    have HQ := hide hq7
    clear hq7
    go_wp2_with fail
    clear z0 z1 k7 kf7
    generalize w7.setCell ⟨w4.heap.size + 1, 0, none⟩ (.slice q1 LS.length q3) = wA at *
    have hBA := bcat2 hB4 hB8
    refine (homBegun_any _ (hT.below hBA)).mono ?_
    rintro x wB ⟨rfl, hb11⟩
    obtain ⟨u0, u1, _, _⟩ := (blk_below hR8 hb11).two
    obtain ⟨g0, g1, _, _⟩ := (blk_below hF4 (bcat2 hB8 hb11)).two
    have HLA := hide (lsas_good 31 #[.pointer (some ⟨w4.heap.size + 1, 0, none⟩)] (.slice ra LS.length rc) LS LS wB (hsl4.below (bcat2 hB8 hb11)) (fun W => call31 _ W) (fun W hW => (hal1_ok (w4.heap.size + 1) (.slice q1 LS.length q3) W (Boxed.below hN8 (bcat2 hb11 hW))).mono (fun x w' h => by
      obtain ⟨h1, h2⟩ := h
      rw [h2]
      exact ⟨_, h1, hqA.below (bcat2 hb11 hW), Below.refl _ _⟩)))
    go_wp2_with fail
    refine HLA.out.mono ?_
    rintro x wC ⟨rfl, hb12⟩
    go_wp2
    go_ret
    exact ⟨rfl, bcat2 hBA (bcat2 hb11 hb12)⟩
theorem slL_stays {W W' : World} {r : Value} {us : List Value} {ms : List (List Int)} (h : W'.ownsRow W.heap.size 22 1 r us.length us) (hl : Lsts W' W.heap.size r us ms) (hb : Below W.heap.size W W') {b : Nat} {x : Value} (h0 : b < W.heap.size) : SlL (W'.setCell ⟨b, 0, none⟩ x) r ms :=
  SlL.of_own (own_keep' h (fun g h1 h2 => Below.heap_setCell _ _ _ _ (by simp; omega))) (hl.keep (r' := r) (by rw [size_set]; exact Nat.le_refl _) (fun g h1 h2 _ => Below.heap_setCell _ _ _ _ (by simp; omega)) (.inl rfl)) (by rw [size_set]; have := hb.size; omega)
theorem least_of {P : Nat → Prop} : ∀ c, P c → ∃ d, P d ∧ ∀ x, x < d → ¬ P x := by
  intro c
  induction c using Nat.strongRecOn with
  | ind c ih =>
    intro hc
    by_cases h : ∃ x, x < c ∧ P x
    · obtain ⟨x, h1, h2⟩ := h
      exact ih x h1 h2
    · exact ⟨c, hc, fun x h1 h2 => h ⟨x, h1, h2⟩⟩
/-- There are least makers. -/
theorem lm_exists {n e : Nat} {zs : List Int} : ∀ (k : Nat) (ks : List Nat), LM n zs e ks → n ≤ ks.length + k → ∃ ls, LM n zs e ls ∧ ∀ a, a < n → Mkd n zs e (fun x => decide (x ∈ ls)) a
  | k, ks, h, hk => by
    by_cases hall : ∀ a, a < n → Mkd n zs e (fun x => decide (x ∈ ks)) a
    · exact ⟨ks, h, hall⟩
    · have hex : ∃ c, c < n ∧ ¬ Mkd n zs e (fun x => decide (x ∈ ks)) c := Classical.byContradiction fun hno => hall fun a ha => Classical.byContradiction fun h9 => hno ⟨a, ha, h9⟩
      obtain ⟨c0, hc0⟩ := hex
      obtain ⟨c, ⟨hc1, hc2⟩, hc3⟩ := least_of (P := fun c => c < n ∧ ¬ Mkd n zs e (fun x => decide (x ∈ ks)) c) c0 hc0
      have hs := h.snoc hc1 hc2 (fun x hx => Classical.byContradiction fun h9 => hc3 x hx ⟨by omega, h9⟩)
      have hf := hs.fits
      rw [List.length_append, List.length_singleton] at hf
      match k, hk with
      | 0, hk => omega
      | k + 1, hk => exact lm_exists k (ks ++ [c]) hs (by rw [List.length_append, List.length_singleton]; omega)
theorem hall_law (N M : Int) (v y : Value) (zs ys : List Int) (w : World) (hv : Sl w v zs) (hy : Sl w y ys) (hT : Tab w) (b1 : zs.length * 8 ≤ 140737488355328) (b2 : ys.length * 8 ≤ 140737488355328) :
    Calls Tryd.prog 5 #[.agg #[.int .i64 N, v], .agg #[.int .i64 M, y]] w fun e w' => e = .returned (.bool true) ∧ Below w.heap.size w w' := by
  obtain ⟨v1, v2, v3, rfl⟩ := hv.isSlice
  obtain ⟨y1, y2, y3, rfl⟩ := hy.isSlice
  have HO1 : Hid (∀ W, Below w.heap.size w W → Calls Tryd.prog 10 #[.agg #[.int .i64 N, .slice v1 v2 v3]] W fun x W' => ∃ u1 u2 u3, x = .returned (.agg #[.int .i64 N, .slice u1 u2 u3]) ∧ Sl W' (.slice u1 u2 u3) zs ∧ Below W.heap.size W W') := hide fun W h => (ownGroup_any N (.slice v1 v2 v3) zs W (hv.below h) b1).mono (fun x W' h9 => by
    obtain ⟨u, rfl, hu, hb⟩ := h9
    obtain ⟨u1, u2, u3, rfl⟩ := hu.isSlice
    exact ⟨u1, u2, u3, rfl, hu, hb⟩)
  have HO2 : Hid (∀ W, Below w.heap.size w W → Calls Tryd.prog 10 #[.agg #[.int .i64 M, .slice y1 y2 y3]] W fun x W' => ∃ u1 u2 u3, x = .returned (.agg #[.int .i64 M, .slice u1 u2 u3]) ∧ Sl W' (.slice u1 u2 u3) ys ∧ Below W.heap.size W W') := hide fun W h => (ownGroup_any M (.slice y1 y2 y3) ys W (hy.below h) b2).mono (fun x W' h9 => by
    obtain ⟨u, rfl, hu, hb⟩ := h9
    obtain ⟨u1, u2, u3, rfl⟩ := hu.isSlice
    exact ⟨u1, u2, u3, rfl, hu, hb⟩)
  have HTW := hide (fun W (h : Below w.heap.size w W) => rtwo_any N M (.slice v1 v2 v3) (.slice y1 y2 y3) zs ys W (hv.below h) (hy.below h))
  by_cases hc : (twofault N zs M ys).1 = 0
  · have hc1 : (gfault N zs).1 = 0 := by
      unfold twofault at hc
      by_cases h9 : (gfault N zs).1 = 0
      · exact h9
      · rw [if_pos h9] at hc; exact absurd hc h9
    have hc2 : (gfault M ys).1 = 0 := by
      unfold twofault at hc
      rw [if_neg (by simpa using hc1)] at hc
      exact hc
    obtain ⟨n, e, rfl, hg, _⟩ := gfault_grp hc1
    obtain ⟨m, d, rfl, hh, _⟩ := gfault_grp hc2
    have ht : twofault n zs m ys = (0, 0) := by unfold twofault; rw [if_neg (by simpa using hc1)]; exact grp_fault hh
    rw [ht] at HTW
    by_cases h24 : 24 < n ∨ 24 < m
    · exact hall_law_bad n m 2 0 v1 v2 v3 y1 y2 y3 zs ys w hT (by decide) HO1 HO2 (hide fun W u t h hu ht => hall_many n e m d u t zs ys W hu hg ht hh h24) (.inr ⟨HTW, .inl ⟨by omega, rfl, rfl⟩⟩)
    · have hn24 : n ≤ 24 := by omega
      have hm24 : m ≤ 24 := by omega
      by_cases hmany : ∀ ks, LM n zs e ks → (∀ a, a < n → Mkd n zs e (fun x => decide (x ∈ ks)) a) → (homF n zs e m ys d ks (fun _ => true) (ks.length + 1) []).length ≤ 1000
      · obtain ⟨k0, hk1, hk2⟩ := lm_exists n [] (LM.nil n zs e) (by simp)
        refine hall_law_good n m (homF n zs e m ys d k0 (fun _ => true) (k0.length + 1) []) v1 v2 v3 y1 y2 y3 zs ys w hT (by omega) (by omega) HO1 HO2 (hide fun W u t h hu ht => ?_) HTW (hide fun W h => ?_)
        · refine (hall_good n e m d u t zs ys W hu hg ht hh (hT.below h) hn24 hm24 hmany).mono ?_
          rintro x W' ⟨ks, r, vs, rfl, hLM, hgen, hrow, hls, hb⟩
          rw [lm_unique hLM hk1 hgen hk2] at hls
          have hsl := SlL.of_own hrow hls (Nat.lt_of_lt_of_le (Nat.lt_of_lt_of_le hT.lt h.size) hb.size)
          obtain ⟨ra, rc, rfl⟩ := own_slice' hrow
          rw [hls.1] at hsl ⊢
          exact ⟨ra, rc, rfl, hsl, hb⟩
        · refine (homs_ok n e m d 1000 (.slice v1 v2 v3) (.slice y1 y2 y3) zs ys W (hv.below h) hg (hy.below h) hh (by omega)).mono ?_
          rintro x W' ⟨hb, ks, hkn, hkl, hgen, hcase⟩
          have hpm := homs_same hg hh hk1 hk2 hkn hgen
          rcases hcase with ⟨hle, r, us, ms, rfl, hrow, hls, hpm2, hst⟩ | ⟨hno, _⟩
          · have hms : ms = homF n zs e m ys d k0 (fun _ => true) (k0.length + 1) [] := srt_eq (hpm2.trans hpm.symm) hst (homF_sorted (FP := fun _ => True) hg hh hk1 hk2 (fun _ _ _ _ _ _ _ => rfl) (fun _ _ _ => trivial) _ _ (by simp) (by simp) (by simp))
            subst hms
            obtain ⟨ra, rc, hre⟩ := own_slice' hrow
            rw [hls.1] at hre
            subst hre
            exact ⟨ra, rc, rfl, fun b x hb9 => slL_stays hrow hls hb hb9, hb⟩
          · have h9 := hpm.length_eq
            have h8 := hmany k0 hk1 hk2
            exact absurd (by omega) hno
      · have hex : ∃ ks, LM n zs e ks ∧ (∀ a, a < n → Mkd n zs e (fun x => decide (x ∈ ks)) a) ∧ 1000 < (homF n zs e m ys d ks (fun _ => true) (ks.length + 1) []).length := Classical.byContradiction fun hno => hmany fun ks h1 h2 => Classical.byContradiction fun h3 => hno ⟨ks, h1, h2, by omega⟩
        obtain ⟨k0, hk1, hk2, hk3⟩ := hex
        refine hall_law_bad n m 9 0 v1 v2 v3 y1 y2 y3 zs ys w hT (by decide) HO1 HO2 (hide fun W u t h hu ht => hall_much n e m d u t zs ys W hu hg ht hh (hT.below h) hn24 hm24 (fun ks h1 h2 => by rw [lm_unique h1 hk1 h2 hk2]; exact hk3)) (.inr ⟨HTW, .inr ⟨by omega, by omega, rfl, rfl, hide fun W h => ?_⟩⟩)
        refine (homs_ok n e m d 1000 (.slice v1 v2 v3) (.slice y1 y2 y3) zs ys W (hv.below h) hg (hy.below h) hh (by omega)).mono ?_
        rintro x W' ⟨hb, ks, hkn, hkl, hgen, hcase⟩
        rcases hcase with ⟨hle, _⟩ | ⟨_, hx⟩
        · have := (homs_same hg hh hk1 hk2 hkn hgen).length_eq
          omega
        · exact ⟨hx, hb⟩
  · exact hall_law_bad N M _ _ v1 v2 v3 y1 y2 y3 zs ys w hT hc HO1 HO2 (hide fun W u t h hu ht => hall_bad N M u t zs ys W hu ht hc) (.inl HTW)
end Go.Proofs.YtmgengplfebmjaaDoor
