/- What makers and images are extended to, as mathematics: where the search ends well it is a homomorphism of what the makers make; and it does where there is a homomorphism. What the document's Makers answers: things that make the group. What the document's Spread answers: the homomorphism in which images stand for makers, where the makers make all; nothing, where there is none. The document's Spread, walked. The document's search for homomorphisms (the closure of Homs), walked: images of the makers, one behind the other. -/
import Derived.Test.YtlhjeenijcokoaaGreatDoorZ6
import Derived.Test.YtlhjeenijcokoaaGreatDoorZ4
namespace Go.Proofs.YtlhjeenijcokoaaGreatDoor
open Go Go.RowKit

section
variable {n e m d : Nat} {zs ys : List Int} {S S' : List Int × List Nat} {ps : List (Nat × Nat)} {φ : Nat → Nat}
/-- What stands stays. -/
structure Grow (S S' : List Int × List Nat) : Prop where
  pre : S.2 <+: S'.2
  val : ∀ x, x ∈ S.2 → S'.1[x]?.getD 0 = S.1[x]?.getD 0
theorem Grow.refl (S : List Int × List Nat) : Grow S S := ⟨List.prefix_rfl, fun _ _ => rfl⟩
theorem Grow.mem (h : Grow S S') {x : Nat} (hx : x ∈ S.2) : x ∈ S'.2 := h.pre.subset hx
theorem Grow.trans {T : List Int × List Nat} (h : Grow S S') (k : Grow S' T) : Grow S T := ⟨h.pre.trans k.pre, fun x hx => (k.val x (h.mem hx)).trans (h.val x hx)⟩
theorem pre_get {l k : List Nat} (h : l <+: k) {j a : Nat} (hj : l[j]? = some a) : k[j]? = some a := by
  obtain ⟨t, ht⟩ := h
  rw [← ht, List.getElem?_append_left (List.getElem?_eq_some_iff.1 hj).1]
  exact hj
/-- A product with a maker is found, and stands for the product. -/
def OkP (n : Nat) (zs : List Int) (m : Nat) (ys : List Int) (S : List Int × List Nat) (a : Nat) (p : Nat × Nat) : Prop := tm n zs a p.1 ∈ S.2 ∧ S.1[tm n zs a p.1]?.getD 0 = (tm m ys (S.1[a]?.getD 0).toNat p.2 : Int)
theorem OkP.grow {a : Nat} {p : Nat × Nat} (h : OkP n zs m ys S a p) (hg : Grow S S') (ha : a ∈ S.2) : OkP n zs m ys S' a p :=
  ⟨hg.mem h.1, by rw [hg.val _ h.1, h.2, hg.val _ ha]⟩
/-- Words of makers. -/
inductive Wd (n : Nat) (zs : List Int) (e : Nat) (ps : List (Nat × Nat)) : Nat → Prop
  | one : Wd n zs e ps e
  | mul {x : Nat} {p : Nat × Nat} : Wd n zs e ps x → p ∈ ps → Wd n zs e ps (tm n zs x p.1)
theorem exS_grow (h : XI n m S) (ht : IsTab n zs) {a : Nat} {p : Nat × Nat} (ha : a ∈ S.2) (h1 : p.1 < n) (hs : exS n zs m ys a S p = some S') : Grow S S' ∧ OkP n zs m ys S' a p ∧ ∀ x, x ∈ S'.2 → x ∈ S.2 ∨ x = tm n zs a p.1 := by
  have hc := tm_lt ht (h.lt a ha) h1
  unfold exS at hs
  split at hs
  · rename_i hm
    obtain rfl := Option.some.inj hs
    have hnc : tm n zs a p.1 ∉ S.2 := fun hin => by have := h.ok _ hin; omega
    have hv : ∀ x, x ∈ S.2 → ((S.1.set (tm n zs a p.1) (tm m ys (S.1[a]?.getD 0).toNat p.2 : Int)))[x]?.getD 0 = S.1[x]?.getD 0 := fun x hx => by
      rw [get_set (by rw [h.len]; exact hc), if_neg (fun he : x = tm n zs a p.1 => hnc (he ▸ hx))]
    refine ⟨⟨List.prefix_append _ _, hv⟩, ⟨by simp, ?_⟩, fun x hx => ?_⟩
    · show (S.1.set _ _)[tm n zs a p.1]?.getD 0 = (tm m ys ((S.1.set (tm n zs a p.1) (tm m ys (S.1[a]?.getD 0).toNat p.2 : Int))[a]?.getD 0).toNat p.2 : Int)
      rw [hv a ha, get_set (by rw [h.len]; exact hc), if_pos rfl]
    · rcases List.mem_append.1 hx with hx | hx
      · exact .inl hx
      · exact .inr (by simpa using hx)
  · rename_i hm
    split at hs
    · rename_i hv
      obtain rfl := Option.some.inj hs
      refine ⟨Grow.refl _, ⟨?_, hv⟩, fun x hx => .inl hx⟩
      by_cases hin : tm n zs a p.1 ∈ S.2
      · exact hin
      · exact absurd (h.no _ hc hin) hm
    · cases hs
theorem exI_grow (ht : IsTab n zs) (hu : IsTab m ys) {a : Nat} : ∀ (ps : List (Nat × Nat)) {S S' : List Int × List Nat}, XI n m S → a ∈ S.2 → (∀ p, p ∈ ps → p.1 < n ∧ p.2 < m) → exI n zs m ys a ps S = some S' → XI n m S' ∧ Grow S S' ∧ (∀ p, p ∈ ps → OkP n zs m ys S' a p) ∧ ∀ x, x ∈ S'.2 → x ∈ S.2 ∨ ∃ p, p ∈ ps ∧ x = tm n zs a p.1
  | [], S, S', h, ha, hp, hs => by
    obtain rfl := Option.some.inj hs
    exact ⟨h, Grow.refl _, fun p hp => by simp at hp, fun x hx => .inl hx⟩
  | p :: ps, S, S', h, ha, hp, hs => by
    obtain ⟨h1, h2⟩ := hp p (by simp)
    cases he : exS n zs m ys a S p with
    | none => simp only [exI, he] at hs; cases hs
    | some T =>
      simp only [exI, he] at hs
      obtain ⟨g1, o1, m1⟩ := exS_grow h ht ha h1 he
      have hT := (h.step hu ht ha h1 h2 he).1
      obtain ⟨r1, r2, r3, r4⟩ := exI_grow ht hu ps hT (g1.mem ha) (fun q hq => hp q (by simp [hq])) hs
      refine ⟨r1, g1.trans r2, fun q hq => ?_, fun x hx => ?_⟩
      · rcases List.mem_cons.1 hq with rfl | hq
        · exact o1.grow r2 (g1.mem ha)
        · exact r3 q hq
      · rcases r4 x hx with hx | ⟨q, hq, he⟩
        · rcases m1 x hx with hx | hx
          · exact .inl hx
          · exact .inr ⟨p, by simp, hx⟩
        · exact .inr ⟨q, by simp [hq], he⟩
theorem exO_grow (ht : IsTab n zs) (hu : IsTab m ys) (hp : ∀ p, p ∈ ps → p.1 < n ∧ p.2 < m) : ∀ (f k : Nat) {S S' : List Int × List Nat}, XI n m S → n ≤ f + k → (∀ j a, j < k → S.2[j]? = some a → ∀ p, p ∈ ps → OkP n zs m ys S a p) → (∀ x, x ∈ S.2 → Wd n zs e ps x) → exO n zs m ys ps f k S = some S' →
    XI n m S' ∧ Grow S S' ∧ (∀ a, a ∈ S'.2 → ∀ p, p ∈ ps → OkP n zs m ys S' a p) ∧ ∀ x, x ∈ S'.2 → Wd n zs e ps x
  | 0, k, S, S', h, hf, hok, hw, hs => by
    obtain rfl := Option.some.inj hs
    refine ⟨h, Grow.refl _, fun a ha p hp => ?_, hw⟩
    obtain ⟨j, hj, he⟩ := List.mem_iff_getElem.1 ha
    exact hok j a (by have := h.fits; omega) (by rw [List.getElem?_eq_getElem hj, he]) p hp
  | f + 1, k, S, S', h, hf, hok, hw, hs => by
    cases hk : S.2[k]? with
    | none =>
      simp only [exO, hk] at hs
      obtain rfl := Option.some.inj hs
      refine ⟨h, Grow.refl _, fun a ha p hp => ?_, hw⟩
      obtain ⟨j, hj, he⟩ := List.mem_iff_getElem.1 ha
      exact hok j a (by have := List.getElem?_eq_none_iff.1 hk; omega) (by rw [List.getElem?_eq_getElem hj, he]) p hp
    | some a =>
      simp only [exO, hk] at hs
      cases hi : exI n zs m ys a ps S with
      | none => rw [hi] at hs; cases hs
      | some T =>
        rw [hi] at hs
        have ha : a ∈ S.2 := List.mem_of_getElem? hk
        obtain ⟨r1, r2, r3, r4⟩ := exI_grow ht hu ps h ha hp hi
        obtain ⟨q1, q2, q3, q4⟩ := exO_grow ht hu hp f (k + 1) r1 (by omega) (fun j b hj hb p hp => by
          by_cases hjk : j < k
          · have hjl : j < S.2.length := by have := (List.getElem?_eq_some_iff.1 hk).1; omega
            have hb' : S.2[j]? = some b := by
              have h9 := pre_get r2.pre (List.getElem?_eq_getElem hjl)
              rw [hb] at h9
              rw [List.getElem?_eq_getElem hjl, ← h9]
            exact (hok j b hjk hb' p hp).grow r2 (List.mem_of_getElem? hb')
          · have : j = k := by omega
            subst this
            have hkl := (List.getElem?_eq_some_iff.1 hk).1
            have : T.2[j]? = some a := pre_get r2.pre hk
            have : b = a := by rw [hb] at this; exact Option.some.inj this
            subst this
            exact r3 p hp) (fun x hx => by
          rcases r4 x hx with hx | ⟨p, hp, rfl⟩
          · exact hw x hx
          · exact Wd.mul (hw a ha) hp) hs
        exact ⟨q1, r2.trans q2, q3, q4⟩
theorem ext_grow (g : IsGrp n zs e) (h : IsGrp m ys d) (hp : ∀ p, p ∈ ps → p.1 < n ∧ p.2 < m) (hs : ext n zs e m ys d ps = some S) : XI n m S ∧ e ∈ S.2 ∧ S.1[e]?.getD 0 = (d : Int) ∧ (∀ a, a ∈ S.2 → ∀ p, p ∈ ps → OkP n zs m ys S a p) ∧ ∀ x, x ∈ S.2 → Wd n zs e ps x := by
  have h0 := XI.start g.elt h.elt
  obtain ⟨r1, r2, r3, r4⟩ := exO_grow (e := e) g.tab h.tab hp n 0 h0 (by omega) (fun j a hj => by omega) (fun x hx => by
    have : x = e := by simpa [ex0] using hx
    rw [this]; exact Wd.one) hs
  have he : e ∈ (ex0 n e d).2 := by simp [ex0]
  refine ⟨r1, r2.mem he, ?_, r3, r4⟩
  rw [r2.val e he]
  show ((List.replicate n (-1 : Int)).set e (d : Int))[e]?.getD 0 = (d : Int)
  rw [get_set (by simpa using g.elt), if_pos rfl]
/-- What stands for a thing that is found. -/
def vl (S : List Int × List Nat) (x : Nat) : Nat := (S.1[x]?.getD 0).toNat
theorem XI.vl (h : XI n m S) {x : Nat} (hx : x ∈ S.2) : S.1[x]?.getD 0 = (vl S x : Int) ∧ vl S x < m := by
  have := h.ok x hx
  unfold Go.Proofs.YtlhjeenijcokoaaGreatDoor.vl
  omega
theorem wd_mul (g : IsGrp n zs e) (h : IsGrp m ys d) (hp : ∀ p, p ∈ ps → p.1 < n ∧ p.2 < m) (hs : ext n zs e m ys d ps = some S) {x y : Nat} (hx : x ∈ S.2) (hy : Wd n zs e ps y) : y ∈ S.2 ∧ tm n zs x y ∈ S.2 ∧ vl S (tm n zs x y) = tm m ys (vl S x) (vl S y) := by
  obtain ⟨r1, r2, r3, r4, _⟩ := ext_grow g h hp hs
  have hve : vl S e = d := by unfold vl; rw [r3]; simp
  induction hy with
  | one => exact ⟨r2, by rw [g.right x (r1.lt x hx)]; exact hx, by rw [g.right x (r1.lt x hx), hve, h.right _ (r1.vl hx).2]⟩
  | mul hw hpm ih =>
    rename_i y p
    obtain ⟨i1, i2, i3⟩ := ih
    obtain ⟨p1, p2⟩ := hp p hpm
    have o1 := r4 y i1 p hpm
    have o2 := r4 _ i2 p hpm
    have ha : tm n zs x (tm n zs y p.1) = tm n zs (tm n zs x y) p.1 := (g.ass x y p.1 (r1.lt x hx) (r1.lt y i1) p1).symm
    refine ⟨o1.1, by rw [ha]; exact o2.1, ?_⟩
    have e1 : vl S (tm n zs y p.1) = tm m ys (vl S y) p.2 := by
      have := o1.2
      unfold vl; rw [this]; simp
    have e2 : vl S (tm n zs (tm n zs x y) p.1) = tm m ys (vl S (tm n zs x y)) p.2 := by
      have := o2.2
      unfold vl; rw [this]; simp
    rw [ha, e2, i3, e1, h.ass _ _ _ (r1.vl hx).2 (r1.vl i1).2 p2]
/-- All that the makers make is found, and products are kept. -/
theorem ext_mul (g : IsGrp n zs e) (h : IsGrp m ys d) (hp : ∀ p, p ∈ ps → p.1 < n ∧ p.2 < m) (hs : ext n zs e m ys d ps = some S) {x y : Nat} (hx : x ∈ S.2) (hy : y ∈ S.2) : tm n zs x y ∈ S.2 ∧ vl S (tm n zs x y) = tm m ys (vl S x) (vl S y) :=
  (wd_mul g h hp hs hx ((ext_grow g h hp hs).2.2.2.2 y hy)).2
theorem ext_made (g : IsGrp n zs e) (h : IsGrp m ys d) (hp : ∀ p, p ∈ ps → p.1 < n ∧ p.2 < m) (hs : ext n zs e m ys d ps = some S) {x : Nat} : x ∈ S.2 ↔ Mkd n zs e (fun x => decide (x ∈ ps.map Prod.fst)) x := by
  obtain ⟨r1, r2, r3, r4, r5⟩ := ext_grow g h hp hs
  constructor
  · intro hx
    have := r5 x hx
    clear hx
    induction this with
    | one => exact (Fin.Gen.sg _).one
    | mul hw hpm ih =>
      rename_i y p
      have hy : y < n := r1.lt y (wd_mul g h hp hs r2 hw).1
      exact (Fin.Gen.sg _).mul _ _ (List.mem_range.2 hy) (List.mem_range.2 (hp p hpm).1) ih (Fin.Gen.base (List.mem_range.2 (hp p hpm).1) (decide_eq_true (List.mem_map.2 ⟨p, hpm, rfl⟩)))
  · intro hx
    refine Fin.Gen.least (P := fun x => x ∈ S.2) ⟨r2, fun a b _ _ ha hb => (ext_mul g h hp hs ha hb).1⟩ (fun y hy hY => ?_) hx
    obtain ⟨p, hpm, rfl⟩ := List.mem_map.1 (of_decide_eq_true hY)
    have := (r4 e r2 p hpm).1
    rwa [g.left p.1 (hp p hpm).1] at this
theorem ext_at (g : IsGrp n zs e) (h : IsGrp m ys d) (hp : ∀ p, p ∈ ps → p.1 < n ∧ p.2 < m) (hs : ext n zs e m ys d ps = some S) {p : Nat × Nat} (hpm : p ∈ ps) : vl S p.1 = p.2 := by
  obtain ⟨r1, r2, r3, r4, _⟩ := ext_grow g h hp hs
  have := (r4 e r2 p hpm).2
  rw [g.left p.1 (hp p hpm).1, r3] at this
  unfold vl
  rw [this, Int.toNat_natCast, Int.toNat_natCast, h.left p.2 (hp p hpm).2]
/-- Where the makers make all, it is a homomorphism. -/
theorem ext_hom (g : IsGrp n zs e) (h : IsGrp m ys d) (hp : ∀ p, p ∈ ps → p.1 < n ∧ p.2 < m) (hs : ext n zs e m ys d ps = some S) (hall : ∀ a, a < n → Mkd n zs e (fun x => decide (x ∈ ps.map Prod.fst)) a) : IsHom n zs m ys (vl S) ∧ S.1 = li ((List.range n).map (vl S)) := by
  obtain ⟨r1, _⟩ := ext_grow g h hp hs
  have hin : ∀ a, a < n → a ∈ S.2 := fun a ha => (ext_made g h hp hs).2 (hall a ha)
  refine ⟨⟨fun a ha => (r1.vl (hin a ha)).2, fun a b ha hb => (ext_mul g h hp hs (hin a ha) (hin b hb)).2⟩, ?_⟩
  apply List.ext_getElem
  · rw [r1.len]; simp [li]
  · intro i h1 h2
    rw [r1.len] at h1
    have := (r1.vl (hin i h1)).1
    rw [List.getElem?_eq_getElem (by rw [r1.len]; exact h1), Option.getD_some] at this
    rw [this]
    simp [li]
/-- Where there is a homomorphism, the search ends well, and finds it. -/
theorem exS_hom (h : XI n m S) (ht : IsTab n zs) (H : IsHom n zs m ys φ) {a : Nat} {p : Nat × Nat} (ha : a ∈ S.2) (h1 : p.1 < n) (hφ : φ p.1 = p.2) (hv : ∀ x, x ∈ S.2 → S.1[x]?.getD 0 = (φ x : Int)) : ∃ S', exS n zs m ys a S p = some S' ∧ ∀ x, x ∈ S'.2 → S'.1[x]?.getD 0 = (φ x : Int) := by
  have hc := tm_lt ht (h.lt a ha) h1
  have hval : (tm m ys (S.1[a]?.getD 0).toNat p.2 : Int) = (φ (tm n zs a p.1) : Int) := by rw [hv a ha, Int.toNat_natCast, H.mul a p.1 (h.lt a ha) h1, hφ]
  by_cases hm : S.1[tm n zs a p.1]?.getD 0 = -1
  · refine ⟨_, if_pos hm, fun x hx => ?_⟩
    show (S.1.set _ _)[x]?.getD 0 = _
    rw [get_set (by rw [h.len]; exact hc)]
    by_cases he : x = tm n zs a p.1
    · rw [if_pos he, hval, he]
    · rw [if_neg he]
      rcases List.mem_append.1 hx with hx | hx
      · exact hv x hx
      · simp at hx; exact absurd hx he
  · have hin : tm n zs a p.1 ∈ S.2 := by
      by_cases hin : tm n zs a p.1 ∈ S.2
      · exact hin
      · exact absurd (h.no _ hc hin) hm
    refine ⟨S, ?_, hv⟩
    unfold exS
    rw [if_neg hm, if_pos (by rw [hval]; exact hv _ hin)]
theorem exI_hom (ht : IsTab n zs) (hu : IsTab m ys) (H : IsHom n zs m ys φ) {a : Nat} : ∀ (ps : List (Nat × Nat)) {S : List Int × List Nat}, XI n m S → a ∈ S.2 → (∀ p, p ∈ ps → p.1 < n ∧ p.2 < m ∧ φ p.1 = p.2) → (∀ x, x ∈ S.2 → S.1[x]?.getD 0 = (φ x : Int)) → ∃ S', exI n zs m ys a ps S = some S' ∧ ∀ x, x ∈ S'.2 → S'.1[x]?.getD 0 = (φ x : Int)
  | [], S, h, ha, hp, hv => ⟨S, rfl, hv⟩
  | p :: ps, S, h, ha, hp, hv => by
    obtain ⟨h1, h2, h3⟩ := hp p (by simp)
    obtain ⟨T, hT, hvT⟩ := exS_hom h ht H ha h1 h3 hv
    obtain ⟨g1, _, _⟩ := exS_grow h ht ha h1 hT
    have hX := (h.step hu ht ha h1 h2 hT).1
    obtain ⟨S', hS', hv'⟩ := exI_hom ht hu H ps hX (g1.mem ha) (fun q hq => hp q (by simp [hq])) hvT
    exact ⟨S', by simp only [exI, hT, hS'], hv'⟩
theorem exO_hom (ht : IsTab n zs) (hu : IsTab m ys) (H : IsHom n zs m ys φ) (hp : ∀ p, p ∈ ps → p.1 < n ∧ p.2 < m ∧ φ p.1 = p.2) : ∀ (f k : Nat) {S : List Int × List Nat}, XI n m S → (∀ x, x ∈ S.2 → S.1[x]?.getD 0 = (φ x : Int)) → ∃ S', exO n zs m ys ps f k S = some S' ∧ ∀ x, x ∈ S'.2 → S'.1[x]?.getD 0 = (φ x : Int)
  | 0, k, S, h, hv => ⟨S, rfl, hv⟩
  | f + 1, k, S, h, hv => by
    cases hk : S.2[k]? with
    | none => exact ⟨S, by simp only [exO, hk], hv⟩
    | some a =>
      have ha : a ∈ S.2 := List.mem_of_getElem? hk
      obtain ⟨T, hT, hvT⟩ := exI_hom ht hu H ps h ha hp hv
      obtain ⟨r1, _⟩ := exI_grow ht hu ps h ha (fun p hq => ⟨(hp p hq).1, (hp p hq).2.1⟩) hT
      obtain ⟨S', hS', hv'⟩ := exO_hom ht hu H hp f (k + 1) r1 hvT
      exact ⟨S', by simp only [exO, hk, hT, hS'], hv'⟩
theorem ext_of_hom (g : IsGrp n zs e) (h : IsGrp m ys d) (H : IsHom n zs m ys φ) (hp : ∀ p, p ∈ ps → p.1 < n ∧ φ p.1 = p.2) : ∃ S, ext n zs e m ys d ps = some S ∧ ∀ x, x ∈ S.2 → S.1[x]?.getD 0 = (φ x : Int) :=
  exO_hom g.tab h.tab H (fun p hq => ⟨(hp p hq).1, by rw [← (hp p hq).2]; exact H.lt _ (hp p hq).1, (hp p hq).2⟩) n 0 (XI.start g.elt h.elt) (fun x hx => by
    have : x = e := by simpa [ex0] using hx
    subst this
    show ((List.replicate n (-1 : Int)).set x (d : Int))[x]?.getD 0 = _
    rw [get_set (by simpa using g.elt), if_pos rfl, IsHom.one g h H])
end
end Go.Proofs.YtlhjeenijcokoaaGreatDoor

namespace Go.Proofs.YtlhjeenijcokoaaGreatDoor
open Go Go.RowKit

/-- How the search for makers stands: k things are left. -/
structure MkS (w wr : World) (n : Nat) (v r : Value) (zs : List Int) (e k : Nat) (xs : List Nat) : Prop where
  row : Row wr w.heap.size r (li xs)
  box : BoxG wr w.heap.size n v
  bel : Below w.heap.size w wr
  lt : ∀ x, x ∈ xs → x < n
  len : xs.length + k ≤ n
  gen : ∀ x, x < n → k ≤ x → Mkd n zs e (fun a => decide (a ∈ xs)) x
theorem mkd_mono {n e : Nat} {zs : List Int} {xs ys : List Nat} (h : ∀ x, x ∈ xs → x ∈ ys) {a : Nat} (hm : Mkd n zs e (fun a => decide (a ∈ xs)) a) : Mkd n zs e (fun a => decide (a ∈ ys)) a :=
  hm _ (Fin.Gen.sg _) (fun z hz hq => Fin.Gen.base hz (decide_eq_true (h z (of_decide_eq_true hq))))
theorem lst_full {n : Nat} {p : Nat → Bool} (h : n ≤ (lst n p).length) {a : Nat} (ha : a < n) : p a = true := by
  have h1 : (lst n p).length = (List.range n).length := by
    have := List.length_filter_le p (List.range n)
    rw [List.length_range] at this ⊢
    unfold lst at h ⊢
    omega
  unfold lst at h1
  exact (List.length_filter_eq_length_iff.1 h1) a (List.mem_range.2 ha)
set_option maxRecDepth 100000 in
set_option maxHeartbeats 4000000 in
theorem makers_ok (n e : Nat) (v : Value) (zs : List Int) (w : World) (hv : Sl w v zs) (hg : IsGrp n zs e) :
    Calls Tryz.prog 47 #[.agg #[.int .i64 n, v]] w fun x w' => ∃ (r : Value) (xs : List Nat), x = .returned r ∧ Row w' w.heap.size r (li xs) ∧ (∀ x, x ∈ xs → x < n) ∧ xs.length ≤ n ∧ (∀ x, x < n → Mkd n zs e (fun a => decide (a ∈ xs)) x) ∧ Below w.heap.size w w' := by
  obtain ⟨i0, hi, hz0, hz1, hz2⟩ := info_parts info3b
  obtain ⟨v1, v2, v3, rfl⟩ := hv.isSlice
  have hn := hg.tab.le
  have hn0 : 0 < n := Nat.lt_of_le_of_lt (Nat.zero_le _) hg.elt
  have hst : MkS w (w.alloc (.cells #[.int .i64 n, .slice v1 v2 v3] 24)) n (.slice v1 v2 v3) (.slice none 0 0) zs e n [] :=
    ⟨World.ownsRow_nil _ _ _ _, blk0 _ _, balloc w _, by simp, by simp, fun x h1 h2 => by omega⟩
  have hw1 : IntKind.i64.wrap ((n : Int) - 1) = (n : Int) - 1 := by rw [IntKind.wrap_i64]; omega
  go_enter Tryz.func47, Tryz.ntmps47
  go_wp2
  go_loopw [3, 4] (fun r i wr => ∃ (k : Nat) (xs : List Nat), i = .int .i64 ((k : Int) - 1) ∧ MkS w wr n (.slice v1 v2 v3) r zs e k xs) (fun _ i _ => ((intOf i) + 1).toNat)
  case atStart => exact ⟨n, [], rfl, hst⟩
  case round =>
    obtain ⟨k, xs, rfl, hM⟩ := hrel
    obtain ⟨r, rfl⟩ : ∃ r, r = u3 := ⟨_, rfl⟩
    clear hst hw1
    obtain ⟨q1, q3, hrs⟩ := own_slice hM.row
    rw [li_len] at hrs
    subst hrs
    obtain ⟨c0, c1, _, _⟩ := hM.box.two
    have hkl := hM.len
    by_cases hk0 : k = 0
    · subst hk0
      go_wp2_with fail
      go_quiet (fail)
      have hM2 : Below w.heap.size w (wr.drewN nq) := bdrewN hM.bel nq
      have hR2 : Row (wr.drewN nq) w.heap.size (.slice q1 xs.length q3) (li xs) := hM.row
      go_wp2
      go_ret
      exact ⟨_, xs, rfl, hR2, hM.lt, by omega, fun x hx => hM.gen x hx (by omega), hM2⟩
    · obtain ⟨j, rfl⟩ : ∃ j, k = j + 1 := ⟨k - 1, by omega⟩
      have hjj : ((j + 1 : Nat) : Int) - 1 = (j : Int) := by omega
      rw [hjj]
      clear hjj hk0
      have hj0 : (0 : Int) ≤ (j : Int) := by omega
      have hw9 : IntKind.i64.wrap ((j : Int) - 1) = (j : Int) - 1 := by rw [IntKind.wrap_i64]; omega
      obtain ⟨p, hp⟩ := mkd_test n zs e (fun a => decide (a ∈ xs))
      have HSP := hide (fun W (h : Below wr.heap.size wr W) => span_ok n e (.slice v1 v2 v3) (.slice q1 xs.length q3) zs xs p W ((hv.below hM.bel).below h) hg ((row_sl hM.row (Nat.lt_of_le_of_lt (Nat.zero_le _) hM.box.lt)).below h) hM.lt (by omega) hp)
      have HP := hide hp
      clear hp
      have hS : ∀ W, Below wr.heap.size wr W → (Below wr.heap.size wr W ∧ W.cell? ⟨w.heap.size, 0, none⟩ = some (.int .i64 n) ∧ W.cell? ⟨w.heap.size, 1, none⟩ = some (.slice v1 v2 v3)) := fun W h => ⟨h, below_cell h c0, below_cell h c1⟩
      have hS0 := hS _ (bdrew (Below.refl _ wr))
      by_cases hall : (lst n p).length < n
      · have halli : (((lst n p).length : Nat) : Int) < (n : Int) := by omega
        go_wp2_with fail
        clear c0 c1
        go_region_held3 (fun W => Below wr.heap.size wr W ∧ W.cell? ⟨w.heap.size, 0, none⟩ = some (.int .i64 n) ∧ W.cell? ⟨w.heap.size, 1, none⟩ = some (.slice v1 v2 v3))
          (first | exact hS0 | assumption | exact hS _ (bcat2 (And.left ‹_›) hl1))
          (first | (go_at_call 84; refine (HSP.out _ (And.left ‹_›)).mono ?_; rintro e1 W1 ⟨r1, rfl, hr1, hl1⟩; obtain ⟨t1, t3, ht9⟩ := own_slice hr1; rw [li_len] at ht9; subst ht9))
        all_goals (
          obtain ⟨hB9, c0, c1⟩ := ‹Below wr.heap.size wr W1 ∧ _›
          clear hr1 hl1
          go_wp2_with fail
          clear c0 c1
          refine (HSP.out _ hB9).mono ?_
          rintro x W2 ⟨r2, rfl, hr2, hl2⟩
          obtain ⟨t5, t7, ht9⟩ := own_slice hr2
          rw [li_len] at ht9
          subst ht9
          have hB2 := bcat2 hB9 hl2
          have hsl2 := row_sl hr2 (Nat.lt_of_lt_of_le (Nat.lt_of_le_of_lt (Nat.zero_le _) hM.box.lt) hB2.size)
          go_wp2_with fail
          refine (rhas_ok _ _ _ _ hsl2).mono ?_
          rintro x W3 ⟨rfl, hW3⟩
          subst hW3
          have hX2 := blk_below hM.box hB2
          have hR2 := row_below hM.row hB2
          have hBw := bcat2 hM.bel hB2
          have hdm : decide ((j : Int) ∈ li (lst n p)) = p (j) := by
            rw [Bool.eq_iff_iff, decide_eq_true_eq]
            constructor
            · intro h9
              obtain ⟨z, hz, he⟩ := List.mem_map.1 h9
              have : z = j := by omega
              subst this
              exact (mem_lst.1 hz).2
            · intro h9
              exact List.mem_map.2 ⟨j, mem_lst.2 ⟨by omega, h9⟩, by omega⟩
          rw [hdm]
          cases hpk : p (j)
          · go_wp2_with (first
              | (at_builtin; refine wpList_append_own _ rfl _ _ 22 rfl w.heap.size 3 i0 (.int .i64 0) 1 8 under22b hi hz0 hz1 hz2 rfl (by decide) _ _ _ rfl (World.ownsRow.alloc hR2 _) ⟨W3.heap.size, 0, none⟩ 1 1 [.int .i64 (j : Int)] rfl rfl ?c1 ?c2 ?c3 ?c4 ?c5 ?_))
            case c1 => exact cell_one_new _ _ _
            case c2 => simp [Value.oneCell']
            case c3 => unfold maxLen; rw [li_len]; omega
            case c4 => rw [li_len]; omega
            case c5 => simp; have := hBw.size; omega
            intro v' w2 hown' hgrow _
            obtain ⟨g', cap', rfl⟩ := ownsRow_succ hown'
            have hB3 : Below w.heap.size w w2 := (hBw.alloc hBw.size _).grown hgrow (by simp; have := hBw.size; omega) (fun j e => owns_ge hR2 j e)
            have hX3 : BoxG w2 w.heap.size n (.slice v1 v2 v3) := (hX2.alloc _).grown hgrow (fun h9 => by
              have := owns_ge hR2 _ h9.symm
              rcases hR2.2 with ⟨h8, _⟩ | ⟨g9, cap9, cur9, h8, h7, h6, _⟩
              · rw [h8] at h9; simp [Value.ownBlock] at h9
              · rw [h8] at h9
                simp [Value.ownBlock] at h9
                subst h9
                have h5 : W3.heap[w.heap.size]? = _ := hX2
                rw [h6] at h5
                simp at h5)
            have hown5 : Row w2 w.heap.size (.slice (some ⟨g', 0, none⟩) ((li xs).length + 1) cap') (li (xs ++ [j])) := by
              unfold Row
              have : li (xs ++ [j]) = li xs ++ [(j : Int)] := by
                unfold li
                rw [List.map_append]
                simp
              rw [this]; simpa using hown'
            clear hown' hgrow
            go_wp2
            go_roundw
            case rel => exact ⟨j, xs ++ [j], by go_num, hown5, hX3, hB3, fun x hx => by
              rcases List.mem_append.1 hx with h9 | h9
              · exact hM.lt x h9
              · simp at h9; omega, by simp; omega, fun x hx hkx => by
              by_cases e9 : x = j
              · subst e9
                exact mkd_base hx (by simp)
              · exact mkd_mono (fun z hz => List.mem_append_left _ hz) (hM.gen x hx (by omega))⟩
            case measure => simp [intOf]
          · go_wp2
            go_roundw
            case rel => exact ⟨j, xs, by go_num, hR2, hX2, hBw, hM.lt, by omega, fun x hx hkx => by
              by_cases e9 : x = j
              · subst e9
                exact (HP.out _ hx).1 hpk
              · exact hM.gen x hx (by omega)⟩
            case measure => simp [intOf])
      · have halli : ¬ (((lst n p).length : Nat) : Int) < (n : Int) := by omega
        go_wp2_with fail
        clear c0 c1
        go_region_held3 (fun W => Below wr.heap.size wr W ∧ W.cell? ⟨w.heap.size, 0, none⟩ = some (.int .i64 n) ∧ W.cell? ⟨w.heap.size, 1, none⟩ = some (.slice v1 v2 v3))
          (first | exact hS0 | assumption | exact hS _ (bcat2 (And.left ‹_›) hl1))
          (first | (go_at_call 84; refine (HSP.out _ (And.left ‹_›)).mono ?_; rintro e1 W1 ⟨r1, rfl, hr1, hl1⟩; obtain ⟨t1, t3, ht9⟩ := own_slice hr1; rw [li_len] at ht9; subst ht9))
        all_goals (
          obtain ⟨hB9, c0, c1⟩ := ‹Below wr.heap.size wr W1 ∧ _›
          clear hr1 hl1 c0 c1
          go_wp2
          go_ret
          exact ⟨_, xs, rfl, row_below hM.row hB9, hM.lt, by omega, fun x hx => (HP.out x hx).1 (lst_full (by omega) hx), bcat2 hM.bel hB9⟩)
end Go.Proofs.YtlhjeenijcokoaaGreatDoor

namespace Go.Proofs.YtlhjeenijcokoaaGreatDoor
open Go Go.RowKit

section
variable {n e m d : Nat} {zs ys : List Int} {ps : List (Nat × Nat)} {M0 M : List Int} {again : Bool} {a i : Nat}
/-- How many are not known yet. -/
def neg (M : List Int) : Nat := (M.filter fun x => decide (x < 0)).length
theorem neg_set : ∀ {M : List Int} {c : Nat} {z : Int}, c < M.length → M[c]?.getD 0 < 0 → 0 ≤ z → neg (M.set c z) < neg M
  | [], c, z, h, _, _ => by simp at h
  | x :: M, 0, z, h, h1, h2 => by
    have h1 : x < 0 := by simpa using h1
    simp only [neg, List.set_cons_zero, List.filter_cons, decide_eq_true h1, if_true, List.length_cons]
    rw [if_neg (by simp; omega)]
    omega
  | x :: M, c + 1, z, h, h1, h2 => by
    have h9 := neg_set (M := M) (c := c) (z := z) (by simpa using h) (by simpa using h1) h2
    simp only [neg] at h9
    simp only [neg, List.set_cons_succ, List.filter_cons]
    split <;> simp <;> omega
/-- A homomorphism in which images stand for makers. -/
def Leads (n : Nat) (zs : List Int) (m : Nat) (ys : List Int) (ps : List (Nat × Nat)) (φ : Nat → Nat) : Prop := IsHom n zs m ys φ ∧ ∀ p, p ∈ ps → φ p.1 = p.2
/-- How the document's search stands. -/
structure Spd (n : Nat) (zs : List Int) (e m : Nat) (ys : List Int) (d : Nat) (ps : List (Nat × Nat)) (M0 M : List Int) (again : Bool) (a i : Nat) : Prop where
  len : M.length = n
  val : ∀ x, x < n → M[x]?.getD 0 = -1 ∨ (0 ≤ M[x]?.getD 0 ∧ M[x]?.getD 0 < m)
  one : M[e]?.getD 0 = d
  hom : ∀ φ, Leads n zs m ys ps φ → ∀ x, x < n → 0 ≤ M[x]?.getD 0 → M[x]?.getD 0 = (φ x : Int)
  more : again = true → neg M < neg M0
  same : again = false → M = M0
  done : again = false → ∀ x k p, x < n → ps[k]? = some p → (x < a ∨ (x = a ∧ k < i)) → 0 ≤ M[x]?.getD 0 → M[tm n zs p.1 x]?.getD 0 = (tm m ys p.2 (M[x]?.getD 0).toNat : Int)
theorem Spd.start (h : Spd n zs e m ys d ps M0 M again a i) : Spd n zs e m ys d ps M M false 0 0 :=
  ⟨h.len, h.val, h.one, h.hom, fun h => (by cases h), fun _ => rfl, fun _ _ _ _ _ _ h => by omega⟩
theorem Spd.begin (g : IsGrp n zs e) (h : IsGrp m ys d) : Spd n zs e m ys d ps ((List.replicate n (-1)).set e (d : Int)) ((List.replicate n (-1)).set e (d : Int)) false 0 0 := by
  have hat : ∀ x, x < n → ((List.replicate n (-1 : Int)).set e (d : Int))[x]?.getD 0 = if x = e then (d : Int) else -1 := fun x hx => by
    rw [get_set (by simpa using g.elt)]
    split
    · rfl
    · simp [hx]
  refine ⟨by simp, fun x hx => ?_, by rw [hat e g.elt, if_pos rfl], fun φ hφ x hx h0 => ?_, fun h => (by cases h), fun _ => rfl, fun _ _ _ _ _ _ h => by omega⟩
  · rw [hat x hx]
    have := h.elt
    split
    · right; omega
    · left; rfl
  · rw [hat x hx] at h0 ⊢
    split at h0
    · rename_i he
      subst he
      rw [if_pos rfl, IsHom.one g h hφ.1]
    · omega
theorem Spd.skip (h : Spd n zs e m ys d ps M0 M again a i) (hno : ∀ p, ps[i]? = some p → 0 ≤ M[a]?.getD 0 → M[tm n zs p.1 a]?.getD 0 = (tm m ys p.2 (M[a]?.getD 0).toNat : Int)) : Spd n zs e m ys d ps M0 M again a (i + 1) :=
  ⟨h.len, h.val, h.one, h.hom, h.more, h.same, fun hag x k p hx hk hxk h1 => by
    by_cases e9 : x = a ∧ k = i
    · obtain ⟨rfl, rfl⟩ := e9; exact hno p hk h1
    · exact h.done hag x k p hx hk (by omega) h1⟩
theorem Spd.row (h : Spd n zs e m ys d ps M0 M again a i) (hi : ps.length ≤ i ∨ M[a]?.getD 0 < 0) : Spd n zs e m ys d ps M0 M again (a + 1) 0 :=
  ⟨h.len, h.val, h.one, h.hom, h.more, h.same, fun hag x k p hx hk hxk h1 => by
    have hkl := (List.getElem?_eq_some_iff.1 hk).1
    by_cases hxa : x = a
    · subst hxa; exact h.done hag x k p hx hk (by omega) h1
    · exact h.done hag x k p hx hk (by omega) h1⟩
theorem Leads.at {φ : Nat → Nat} (H : Leads n zs m ys ps φ) {p : Nat × Nat} (hp : p ∈ ps) (h1 : p.1 < n) (ha : a < n) : φ (tm n zs p.1 a) = tm m ys p.2 (φ a) := by
  rw [H.1.mul _ _ h1 ha, H.2 p hp]
theorem Spd.put (ht : IsTab n zs) (hu : IsTab m ys) (h : Spd n zs e m ys d ps M0 M again a i) {p : Nat × Nat} (hp : p ∈ ps) (h1 : p.1 < n) (h2 : p.2 < m) (ha : a < n) (h0 : 0 ≤ M[a]?.getD 0) (hn : M[tm n zs p.1 a]?.getD 0 < 0) : Spd n zs e m ys d ps M0 (M.set (tm n zs p.1 a) (tm m ys p.2 (M[a]?.getD 0).toNat : Int)) true a (i + 1) := by
  have hb := tm_lt ht h1 ha
  have hy : tm m ys p.2 (M[a]?.getD 0).toNat < m := tm_lt hu h2 (by have := h.val a ha; omega)
  have hat : ∀ x, (M.set (tm n zs p.1 a) (tm m ys p.2 (M[a]?.getD 0).toNat : Int))[x]?.getD 0 = if x = tm n zs p.1 a then (tm m ys p.2 (M[a]?.getD 0).toNat : Int) else M[x]?.getD 0 := fun x => get_set (by rw [h.len]; exact hb)
  refine ⟨by simp [h.len], fun x hx => ?_, ?_, fun φ H x hx h9 => ?_, fun _ => ?_, fun h => (by cases h), fun h => by cases h⟩
  · rw [hat]
    split
    · right; omega
    · exact h.val x hx
  · rw [hat, if_neg, h.one]
    intro he
    rw [← he, h.one] at hn
    omega
  · rw [hat] at h9 ⊢
    by_cases hx9 : x = tm n zs p.1 a
    · rw [if_pos hx9, hx9, H.at hp h1 ha]
      have := h.hom φ H a ha h0
      rw [this, Int.toNat_natCast]
    · rw [if_neg hx9] at h9 ⊢
      exact h.hom φ H x hx h9
  · have hl := neg_set (M := M) (c := tm n zs p.1 a) (z := (tm m ys p.2 (M[a]?.getD 0).toNat : Int)) (by rw [h.len]; exact hb) hn (by omega)
    cases hag : again
    · rw [← h.same hag]; exact hl
    · have := h.more hag; omega
theorem Spd.clash (ht : IsTab n zs) (h : Spd n zs e m ys d ps M0 M again a i) {p : Nat × Nat} (hp : p ∈ ps) (h1 : p.1 < n) (ha : a < n) (h0 : 0 ≤ M[a]?.getD 0) (hn : ¬ M[tm n zs p.1 a]?.getD 0 < 0) (hne : ¬ M[tm n zs p.1 a]?.getD 0 = (tm m ys p.2 (M[a]?.getD 0).toNat : Int)) (φ : Nat → Nat) : ¬ Leads n zs m ys ps φ := fun H => by
  have e1 := h.hom φ H a ha h0
  have e2 := h.hom φ H _ (tm_lt ht h1 ha) (by omega)
  apply hne
  rw [e2, H.at hp h1 ha, e1, Int.toNat_natCast]
theorem Spd.fin (g : IsGrp n zs e) (hh : IsGrp m ys d) (h : Spd n zs e m ys d ps M0 M false a i) (ha : n ≤ a) (hp : ∀ p, p ∈ ps → p.1 < n ∧ p.2 < m) (hall : ∀ x, x < n → Mkd n zs e (fun x => decide (x ∈ ps.map Prod.fst)) x) : ∃ φ, Leads n zs m ys ps φ ∧ M = li ((List.range n).map φ) := by
  let f : Nat → Nat := fun x => (M[x]?.getD 0).toNat
  have hfd : f e = d := by show (M[e]?.getD 0).toNat = d; rw [h.one]; simp
  have hfl : ∀ x, x < n → 0 ≤ M[x]?.getD 0 → f x < m ∧ M[x]?.getD 0 = (f x : Int) := fun x hx h0 => by
    have := h.val x hx
    show (M[x]?.getD 0).toNat < m ∧ M[x]?.getD 0 = ((M[x]?.getD 0).toNat : Int)
    omega
  have hst : ∀ p, p ∈ ps → ∀ x, x < n → 0 ≤ M[x]?.getD 0 → 0 ≤ M[tm n zs p.1 x]?.getD 0 ∧ f (tm n zs p.1 x) = tm m ys p.2 (f x) := fun p hpm x hx h0 => by
    obtain ⟨k, hk⟩ := List.mem_iff_getElem?.1 hpm
    have := h.done rfl x k p hx hk (by omega) h0
    refine ⟨by rw [this]; omega, ?_⟩
    show (M[tm n zs p.1 x]?.getD 0).toNat = _
    rw [this, Int.toNat_natCast]
  have hone : 0 ≤ M[e]?.getD 0 := by rw [h.one]; omega
  have hbase : ∀ p, p ∈ ps → 0 ≤ M[p.1]?.getD 0 ∧ f p.1 = p.2 := fun p hpm => by
    have h9 := hst p hpm e g.elt hone
    rw [g.right p.1 (hp p hpm).1, hfd, hh.right p.2 (hp p hpm).2] at h9
    exact h9
  have S : Fin.Sg (List.range n) (tm n zs) e (fun y => y ∈ List.range n → 0 ≤ M[y]?.getD 0 ∧ ∀ x, x < n → 0 ≤ M[x]?.getD 0 → 0 ≤ M[tm n zs y x]?.getD 0 ∧ f (tm n zs y x) = tm m ys (f y) (f x)) := by
    refine ⟨fun _ => ⟨hone, fun x hx h0 => ?_⟩, fun u v hu hv h1 h2 _ => ?_⟩
    · rw [g.left x hx, hfd, hh.left _ (hfl x hx h0).1]
      exact ⟨h0, rfl⟩
    · obtain ⟨u1, u2⟩ := h1 hu
      obtain ⟨v1, v2⟩ := h2 hv
      have hu := List.mem_range.1 hu
      have hv := List.mem_range.1 hv
      obtain ⟨p1, p2⟩ := u2 v hv v1
      refine ⟨p1, fun x hx h0 => ?_⟩
      obtain ⟨q1, q2⟩ := v2 x hx h0
      obtain ⟨r1, r2⟩ := u2 _ (tm_lt g.tab hv hx) q1
      rw [g.ass u v x hu hv hx]
      refine ⟨r1, ?_⟩
      rw [r2, q2, p2, hh.ass _ _ _ (hfl u hu u1).1 (hfl v hv v1).1 (hfl x hx h0).1]
  have hS : ∀ y, y < n → 0 ≤ M[y]?.getD 0 ∧ ∀ x, x < n → 0 ≤ M[x]?.getD 0 → 0 ≤ M[tm n zs y x]?.getD 0 ∧ f (tm n zs y x) = tm m ys (f y) (f x) := fun y hy => hall y hy _ S (fun z hz hq _ => by
    obtain ⟨p, hpm, rfl⟩ := List.mem_map.1 (of_decide_eq_true hq)
    refine ⟨(hbase p hpm).1, fun x hx h0 => ?_⟩
    rw [(hbase p hpm).2]
    exact hst p hpm x hx h0) (List.mem_range.2 hy)
  refine ⟨f, ⟨⟨fun x hx => (hfl x hx (hS x hx).1).1, fun x y hx hy => ((hS x hx).2 y hy (hS y hy).1).2⟩, fun p hpm => (hbase p hpm).2⟩, ?_⟩
  apply List.ext_getElem
  · rw [h.len]; simp [li]
  · intro j h1 h2
    rw [h.len] at h1
    have := (hfl j h1 (hS j h1).1).2
    rw [List.getElem?_eq_getElem (by rw [h.len]; exact h1), Option.getD_some] at this
    rw [this]
    simp [li]
end
end Go.Proofs.YtlhjeenijcokoaaGreatDoor

namespace Go.Proofs.YtlhjeenijcokoaaGreatDoor
open Go Go.RowKit

theorem rpl_set {x : Int} {n k : Nat} (h : k < n) : (rpl x n k).set k x = rpl x n (k + 1) := by
  unfold rpl
  rw [List.set_append_right _ _ (by simp)]
  obtain ⟨j, hj⟩ : ∃ j, n - k = j + 1 := ⟨n - k - 1, by omega⟩
  rw [hj, List.length_replicate, Nat.sub_self, List.replicate_succ, List.set_cons_zero, show n - (k + 1) = j by omega, List.replicate_succ' (n := k), List.append_assoc]
  rfl
/-- How many of a block's cells are below nought. -/
def cntN (ib : Nat) (W : World) : Nat := match W.heap[ib]? with
  | some (.cells c _ _) => (c.toList.filter fun v => match v with | .int _ z => decide (z < 0) | _ => false).length
  | _ => 0
theorem cntN_blk {ib : Nat} {M : List Int} {W : World} (h : Blk W ib 3 (M.map (Value.int .i64))) : cntN ib W = neg M := by
  unfold cntN
  rw [show W.heap[ib]? = _ from h]
  unfold neg
  simp only [List.filter_map, List.length_map]
  rfl
/-- What lies there all the while. -/
structure SdS (w wr : World) (n : Nat) (v : Value) (m : Nat) (y : Value) (M : List Int) : Prop where
  bg : BoxG wr w.heap.size n v
  bh : BoxG wr (w.heap.size + 1) m y
  mm : Blk wr (w.heap.size + 2) 3 (M.map (Value.int .i64))
  bel : Below w.heap.size w wr
section
variable {w wr : World} {n m : Nat} {v y : Value} {M : List Int}
theorem SdS.below {W : World} (h : SdS w wr n v m y M) (hb : Below wr.heap.size wr W) : SdS w W n v m y M := ⟨blk_below h.bg hb, blk_below h.bh hb, blk_below h.mm hb, bcat2 h.bel hb⟩
theorem SdS.put (h : SdS w wr n v m y M) (c : Nat) (i : Int) : SdS w (wr.setCell ⟨w.heap.size + 2, c, none⟩ (.int .i64 i)) n v m y (M.set c i) :=
  ⟨h.bg.other (p := ⟨w.heap.size + 2, c, none⟩) (by simp) _, h.bh.other (p := ⟨w.heap.size + 2, c, none⟩) (by simp) _, h.mm.setInt c i, h.bel.setCell (p := ⟨w.heap.size + 2, c, none⟩) (by simp) _⟩
theorem SdS.cells (h : SdS w wr n v m y M) : wr.cell? ⟨w.heap.size, 0, none⟩ = some (.int .i64 n) ∧ wr.cell? ⟨w.heap.size, 1, none⟩ = some v ∧ wr.cell? ⟨w.heap.size + 1, 0, none⟩ = some (.int .i64 m) ∧ wr.cell? ⟨w.heap.size + 1, 1, none⟩ = some y := ⟨h.bg.two.1, h.bg.two.2.1, h.bh.two.1, h.bh.two.2.1⟩
end
set_option maxRecDepth 100000 in
set_option maxHeartbeats 8000000 in
theorem spread_ok (n e m d : Nat) (v y kv iv : Value) (zs ys : List Int) (ps : List (Nat × Nat)) (w : World) (hg : IsGrp n zs e) (hh : IsGrp m ys d) (hv : Sl w v zs) (hy : Sl w y ys) (hk : Sl w kv (li (ps.map Prod.fst))) (hi : Sl w iv (li (ps.map Prod.snd))) (hp : ∀ p, p ∈ ps → p.1 < n ∧ p.2 < m) (hall : ∀ x, x < n → Mkd n zs e (fun x => decide (x ∈ ps.map Prod.fst)) x) :
    Calls Tryz.prog 49 #[.agg #[.int .i64 n, v], .agg #[.int .i64 m, y], kv, iv] w fun x w' => Below w.heap.size w w' ∧ ((x = .returned (.slice none 0 0) ∧ ∀ φ, ¬ Leads n zs m ys ps φ) ∨ ∃ φ g, Leads n zs m ys ps φ ∧ x = .returned (.slice (some ⟨g, 0, none⟩) n n) ∧ w.heap.size ≤ g ∧ Blk w' g 3 ((li ((List.range n).map φ)).map (Value.int .i64))) := by
  obtain ⟨i0, hi3, hz0, hz1, hz2⟩ := info_parts info3b
  have hn := hg.tab.le
  have hen := hg.elt
  have hdm := hh.elt
  have hm := hh.tab.le
  obtain ⟨w0, hw0⟩ : ∃ w0, w0 = (w.alloc (.cells #[.int .i64 n, v] 24)).alloc (.cells #[.int .i64 m, y] 24) := ⟨_, rfl⟩
  have hB0 : Below w.heap.size w w0 := by rw [hw0]; exact (balloc w _).alloc (by simp) _
  have hG0 : BoxG w0 w.heap.size n v := by rw [hw0]; exact Blk.alloc (blk0 _ _) _
  have hH0 : BoxG w0 (w.heap.size + 1) m y := by
    rw [hw0]
    have := blk0 (w := w.alloc (.cells #[.int .i64 n, v] 24)) (T := 24) (.int .i64 m) y
    rwa [World.size_alloc] at this
  have hs0 : w0.heap.size = w.heap.size + 2 := by rw [hw0]; simp
  obtain ⟨c0, c1, _, _⟩ := hG0.two
  have HE1 := hide (fun W (h : Below w.heap.size w W) => E_ok n v zs W hg.tab (hv.below h))
  have HE2 := hide (fun W (h : Below w.heap.size w W) => E_ok m y ys W hh.tab (hy.below h))
  rw [hg.one] at HE1
  rw [hh.one] at HE2
  have HM1 := hide (fun W a b (h : Below w.heap.size w W) (ha : a < n) (hb : b < n) => M_ok n v zs a b W hg.tab (hv.below h) ha hb)
  have HM2 := hide (fun W a b (h : Below w.heap.size w W) (ha : a < m) (hb : b < m) => M_ok m y ys a b W hh.tab (hy.below h) ha hb)
  obtain ⟨ka, kc, kb, ko, rfl, hkr, hkb, hk3, hk4⟩ := hk
  obtain ⟨ia, ic, ib, io, rfl, hir, hib, _, _⟩ := hi
  have hl1 : (li (ps.map Prod.fst)).length = ps.length := by rw [li_len, List.length_map]
  have hl2 : (li (ps.map Prod.snd)).length = ps.length := by rw [li_len, List.length_map]
  have hpl : ps.length ≤ 9223372036854775807 := by rw [hl1] at hk3; unfold maxLen at hk4; omega
  have HKA := hide (fun (h : 0 < ps.length) => hkr.at_ (by omega))
  have HIA := hide (fun (h : 0 < ps.length) => hir.at_ (by omega))
  have HKC := hide (fun j (h : j < ps.length) => show w.cell? ⟨kb, ko + j, none⟩ = some (.int .i64 (ps[j].1 : Int)) by
    have := hkr.cell j (by omega)
    rwa [li_get (by simpa using h), List.getElem_map] at this)
  have HIC := hide (fun j (h : j < ps.length) => show w.cell? ⟨ib, io + j, none⟩ = some (.int .i64 (ps[j].2 : Int)) by
    have := hir.cell j (by omega)
    rwa [li_get (by simpa using h), List.getElem_map] at this)
  rw [hl1, hl2] at *
  clear hkr hir hl1 hl2
  have HP := hide hp
  have HALL := hide hall
  have HBEG := hide (Spd.begin (ps := ps) hg hh)
  clear hp hall
  rw [hw0] at c0 c1
  go_enter Tryz.func49, Tryz.ntmps49
  go_wp2_with (first
    | (at_make; refine wpList_make_full _ rfl _ _ 22 rfl (w.heap.size + 2) 3 i0 (.int .i64 0) 1 under22b hi3 hz0 hz1 _ _ _ _ n rfl rfl rfl rfl (by rw [hz2]; omega) (by unfold maxLen; omega) (by simp) ?_))
  rw [← hw0]
  intro w2 hown hgr
  have hM2 : Blk w2 (w.heap.size + 2) 3 ((rpl (-1) n 0).map (Value.int .i64)) := by
    have := Blk.of_owns hown
    rw [made_rep] at this
    rw [rpl_map]
    simpa using this
  have hQ2 : SdS w w2 n v m y (rpl (-1) n 0) := ⟨hG0.grown hgr (by simp), hH0.grown hgr (by simp), hM2, hB0.grown hgr hB0.size (by simp)⟩
  clear hown hgr c0 c1 hG0 hH0 hB0 hM2 hw0 hs0
  go_wp2
  go_loopw [10] (fun i wr => ∃ k : Nat, k ≤ n ∧ i = .int .i64 k ∧ SdS w wr n v m y (rpl (-1) n k)) (fun i _ => n - (intOf i).toNat)
  case atStart => exact ⟨0, Nat.zero_le _, rfl, hQ2⟩
  case round =>
    obtain ⟨k, hk, rfl, hQ⟩ := hrel
    clear hQ2
    obtain ⟨c0, c1, c2, c3⟩ := hQ.cells
    by_cases hlt : k < n
    · have hki : (k : Int) < (n : Int) := by omega
      have hck := hQ.mm.int (y := k) (by rw [rpl_len hk]; exact hlt)
      have hfk := hQ.mm.frozen k
      have hP := hQ.put k (-1)
      rw [rpl_set hlt] at hP
      go_wp2
      go_roundw
      case rel => exact ⟨k + 1, by omega, by go_num, hP⟩
      case measure => simp [intOf]; omega
    · have hkn : n = k := by omega
      subst hkn
      have hrp : rpl (-1) n n = List.replicate n (-1) := by unfold rpl; simp
      rw [hrp] at hQ
      have hei : (e : Int) < (n : Int) := by omega
      have hS : ∀ U, Below wr.heap.size wr U → (Below w.heap.size w U ∧ U.cell? ⟨w.heap.size, 0, none⟩ = some (.int .i64 n) ∧ U.cell? ⟨w.heap.size, 1, none⟩ = some v ∧ U.cell? ⟨w.heap.size + 1, 0, none⟩ = some (.int .i64 m) ∧ U.cell? ⟨w.heap.size + 1, 1, none⟩ = some y) := fun U hU => ⟨(hQ.below hU).bel, (hQ.below hU).cells⟩
      have hS3 : ∀ U, Below wr.heap.size wr U → (Below w.heap.size w (U.setCell ⟨w.heap.size + 2, e, none⟩ (.int .i64 d)) ∧ (U.setCell ⟨w.heap.size + 2, e, none⟩ (.int .i64 d)).cell? ⟨w.heap.size, 0, none⟩ = some (.int .i64 n) ∧ (U.setCell ⟨w.heap.size + 2, e, none⟩ (.int .i64 d)).cell? ⟨w.heap.size, 1, none⟩ = some v ∧ (U.setCell ⟨w.heap.size + 2, e, none⟩ (.int .i64 d)).cell? ⟨w.heap.size + 1, 0, none⟩ = some (.int .i64 m) ∧ (U.setCell ⟨w.heap.size + 2, e, none⟩ (.int .i64 d)).cell? ⟨w.heap.size + 1, 1, none⟩ = some y) := fun U hU => ⟨((hQ.below hU).put e d).bel, ((hQ.below hU).put e d).cells⟩
      have hS0 := hS _ (bdrew (Below.refl _ wr))
      have hk1 : Hid True := trivial
      go_wp2_with fail
      clear c0 c1 c2 c3
      go_region_held3 (fun U => Below w.heap.size w U ∧ U.cell? ⟨w.heap.size, 0, none⟩ = some (.int .i64 n) ∧ U.cell? ⟨w.heap.size, 1, none⟩ = some v ∧ U.cell? ⟨w.heap.size + 1, 0, none⟩ = some (.int .i64 m) ∧ U.cell? ⟨w.heap.size + 1, 1, none⟩ = some y)
        (first | exact hS0 | assumption | exact hS3 _ hx2 | exact hS _ hx2 | exact hS _ hx1)
        (first
          | (go_at_call 63; clear hk1; refine (HE1.out _ (And.left ‹_›)).mono ?_; rintro e1 U1 ⟨rfl, hl1⟩; have hx1 := undrew' hl1)
          | (go_at_call 63; refine (HE2.out _ (And.left ‹_›)).mono ?_; rintro e2 U2 ⟨rfl, hl2⟩; have hx2 := bcat2 hx1 hl2; have hc1 := (hQ.below hx2).mm.int (y := e) (by simpa using hen); have hf1 := (hQ.below hx2).mm.frozen e))
      all_goals (
        have hP9 := (hQ.below hx2).put e d
        clear hS hS3 hS0 hc1 hf1
        generalize U2.setCell ⟨w.heap.size + 2, e, none⟩ (.int .i64 d) = w4 at *
        clear hx2 hx1 hl1 hl2 hQ)
      have hb0 := HBEG.out
      generalize (List.replicate n (-1)).set e (d : Int) = M1 at hP9 hb0
      go_wp2
      go_loopw [11] (fun s wr => ∃ (ag : Bool) (M : List Int), s = .bool ag ∧ SdS w wr n v m y M ∧ Spd n zs e m ys d ps M M false 0 0 ∧ (ag = false → ∃ φ, Leads n zs m ys ps φ ∧ M = li ((List.range n).map φ))) (fun s wr => if boolOf s then cntN (w.heap.size + 2) wr + 1 else 0)
      case atStart => exact ⟨true, M1, rfl, hP9, hb0, fun h => by cases h⟩
      case round =>
        clear hP9 hb0
        obtain ⟨ag, M0, rfl, hZ0, hN0, hfin⟩ := hrel
        have HCN := hide (cntN_blk hZ0.mm)
        cases ag with
        | false =>
          obtain ⟨φ, hφ, rfl⟩ := hfin rfl
          go_wp2
          go_ret
          refine ⟨hZ0.bel, .inr ⟨φ, hφ, ?_⟩⟩
          exact ⟨w.heap.size + 2, rfl, by omega, hZ0.mm⟩
        | true =>
          clear hfin
          go_wp2
          go_loopw [11, 12] (fun s i wx => ∃ (ag' : Bool) (M : List Int) (a : Nat), a ≤ n ∧ s = .bool ag' ∧ i = .int .i64 a ∧ SdS w wx n v m y M ∧ Spd n zs e m ys d ps M0 M ag' a 0) (fun _ i _ => n - (intOf i).toNat)
          case atStart => exact ⟨false, M0, 0, by omega, rfl, rfl, hZ0, hN0⟩
          case round =>
            clear hZ0 hN0
            obtain ⟨ag', M, a, ha, rfl, rfl, hZ, hN⟩ := hrel
            obtain ⟨c0, c1, c2, c3⟩ := hZ.cells
            by_cases hla : a < n
            · have hai : (a : Int) < (n : Int) := by omega
              go_wp2
              clear c0 c1 c2 c3
              go_loopw [11, 13] (fun s i wx => ∃ (ag' : Bool) (M : List Int) (j : Nat), j ≤ ps.length ∧ s = .bool ag' ∧ i = .int .i64 j ∧ SdS w wx n v m y M ∧ Spd n zs e m ys d ps M0 M ag' a j) (fun _ i _ => ps.length - (intOf i).toNat)
              case atStart => exact ⟨ag', M, 0, Nat.zero_le _, rfl, rfl, hZ, hN⟩
              case round =>
                clear hZ hN
                obtain ⟨ag', M, j, hj, rfl, rfl, hZ, hN⟩ := hrel
                obtain ⟨c0, c1, c2, c3⟩ := hZ.cells
                have hca := hZ.mm.int (y := a) (by rw [hN.len]; exact hla)
                by_cases hlj : j < ps.length
                · have hji : (j : Int) < (ps.length : Int) := by omega
                  by_cases hneg : M[a]?.getD 0 < 0
                  · have hm1 : M[a]?.getD 0 = -1 := by have := hN.val a hla; omega
                    have HNR := hide (hN.row (.inr hneg))
                    rw [hm1] at hca
                    clear hm1 hneg hN
                    go_wp2
                    go_roundw
                    case rel => exact ⟨ag', M, a + 1, by omega, rfl, by go_num, hZ, HNR.out⟩
                    case measure => simp [intOf]; omega
                  · obtain ⟨q, hq⟩ : ∃ q, ps[j]? = some q := ⟨_, List.getElem?_eq_getElem hlj⟩
                    have hql : ps[j] = q := by rw [List.getElem?_eq_getElem hlj] at hq; exact Option.some.inj hq
                    have hqm := List.mem_of_getElem? hq
                    obtain ⟨hp1, hp2⟩ := HP.out q hqm
                    have hck := below_cell hZ.bel (HKC.out j hlj)
                    have hci := below_cell hZ.bel (HIC.out j hlj)
                    rw [hql] at hck hci
                    obtain rfl := HKA.out (by omega)
                    obtain rfl := HIA.out (by omega)
                    have h0 : 0 ≤ M[a]?.getD 0 := by omega
                    have hea : M[a]?.getD 0 = ((M[a]?.getD 0).toNat : Int) := by omega
                    have hfa : (M[a]?.getD 0).toNat < m := by have := hN.val a hla; omega
                    have hbn := tm_lt hg.tab hp1 hla
                    have hcb := hZ.mm.int (y := tm n zs q.1 a) (by rw [hN.len]; exact hbn)
                    have HSK := hide (fun (h : M[tm n zs q.1 a]?.getD 0 = (tm m ys q.2 (M[a]?.getD 0).toNat : Int)) => hN.skip (fun p hp' _ => by rw [hq] at hp'; obtain rfl := Option.some.inj hp'; exact h))
                    have HPU := hide (fun (h : M[tm n zs q.1 a]?.getD 0 < 0) => hN.put hg.tab hh.tab hqm hp1 hp2 hla h0 h)
                    have HCL := hide (fun (h : ¬ M[tm n zs q.1 a]?.getD 0 < 0) (h2 : ¬ M[tm n zs q.1 a]?.getD 0 = (tm m ys q.2 (M[a]?.getD 0).toNat : Int)) => hN.clash hg.tab hqm hp1 hla h0 h h2)
                    have HQ1 := hide (fun W (h : Below w.heap.size w W) => HM1.out W q.1 a h hp1 hla)
                    have HQ2 := hide (fun W (h : Below w.heap.size w W) => HM2.out W q.2 _ h hp2 hfa)
                    rw [hea] at hca
                    have HN := hide hN
                    clear hea h0 hneg hN hq hql hqm
                    generalize (M[a]?.getD 0).toNat = fa at *
                    generalize hzz : M[tm n zs q.1 a]?.getD 0 = z at *
                    generalize tm m ys q.2 fa = im at *
                    generalize tm n zs q.1 a = b at *
                    obtain ⟨pk, pi⟩ := q
                    simp only at hck hci HQ1 HQ2 hp1 hp2
                    clear hzz
                    have hbi : (b : Int) < (n : Int) := by omega
                    have hfi : (0 : Int) ≤ (fa : Int) := by omega
                    have HZ := hide hZ
                    have hBw := hZ.bel
                    have hS' : ∀ W, Below wr.heap.size wr W → (Below wr.heap.size wr W ∧ W.cell? ⟨w.heap.size, 0, none⟩ = some (.int .i64 n) ∧ W.cell? ⟨w.heap.size, 1, none⟩ = some v ∧ W.cell? ⟨kb, ko + j, none⟩ = some (.int .i64 (pk : Int))) := fun W h => ⟨h, below_cell h c0, below_cell h c1, below_cell h hck⟩
                    have hS1 := hS' _ (bdrew (Below.refl _ wr))
                    go_wp2_with fail
                    clear hck c0 c1 hZ
                    go_region_held3 (fun W => Below wr.heap.size wr W ∧ W.cell? ⟨w.heap.size, 0, none⟩ = some (.int .i64 n) ∧ W.cell? ⟨w.heap.size, 1, none⟩ = some v ∧ W.cell? ⟨kb, ko + j, none⟩ = some (.int .i64 (pk : Int)))
                      (first | exact hS1 | assumption | exact hS' _ (bcat2 (And.left ‹_›) hl1))
                      (first | (go_at_call 45; refine (HQ1.out _ (bcat2 hBw (And.left ‹_›))).mono ?_; rintro e1 U1 ⟨rfl, hl1⟩))
                    have hb1 := And.left ‹Below wr.heap.size wr U1 ∧ _›
                    have hZ1 := HZ.out.below hb1
                    have hci1 := below_cell hb1 hci
                    have hca1 := below_cell hb1 hca
                    have hcb1 := below_cell hb1 hcb
                    obtain ⟨c0, c1, c2, c3⟩ := hZ1.cells
                    clear hS' hS1 hl1 hb1 hci hca hcb
                    have HZ1 := hide hZ1
                    have hBw1 := hZ1.bel
                    clear HZ hBw
                    have hS' : ∀ W, Below U1.heap.size U1 W → (Below U1.heap.size U1 W ∧ W.cell? ⟨w.heap.size + 1, 0, none⟩ = some (.int .i64 m) ∧ W.cell? ⟨w.heap.size + 1, 1, none⟩ = some y ∧ W.cell? ⟨ib, io + j, none⟩ = some (.int .i64 (pi : Int)) ∧ W.cell? ⟨w.heap.size + 2, a, none⟩ = some (.int .i64 (fa : Int))) := fun W h => ⟨h, below_cell h c2, below_cell h c3, below_cell h hci1, below_cell h hca1⟩
                    have hS1 := hS' _ (bdrew (Below.refl _ U1))
                    go_wp2_with fail
                    clear hci1 hca1 c0 c1 c2 c3 hZ1
                    go_region_held3 (fun W => Below U1.heap.size U1 W ∧ W.cell? ⟨w.heap.size + 1, 0, none⟩ = some (.int .i64 m) ∧ W.cell? ⟨w.heap.size + 1, 1, none⟩ = some y ∧ W.cell? ⟨ib, io + j, none⟩ = some (.int .i64 (pi : Int)) ∧ W.cell? ⟨w.heap.size + 2, a, none⟩ = some (.int .i64 (fa : Int)))
                      (first | exact hS1 | assumption | exact hS' _ (bcat2 (And.left ‹_›) hl1))
                      (first | (go_at_call 45; refine (HQ2.out _ (bcat2 hBw1 (And.left ‹_›))).mono ?_; rintro e2 U2 ⟨rfl, hl1⟩))
                    have hb2 := And.left ‹Below U1.heap.size U1 U2 ∧ _›
                    have hZ2 := HZ1.out.below hb2
                    have hcb2 := below_cell hb2 hcb1
                    clear hS' hS1 hl1 hb2 hcb1 HZ1 hBw1
                    have hf2 := hZ2.mm.frozen b
                    by_cases hz : z < 0
                    · have HPX := hide (HPU.out hz)
                      have hP := hZ2.put b (im : Int)
                      clear HPU HSK HCL
                      go_wp2
                      go_roundw
                      case rel => exact ⟨true, _, j + 1, by omega, rfl, by go_num, hP, HPX.out⟩
                      case measure => simp [intOf]; omega
                    · by_cases hz2' : z = (im : Int)
                      · have HPX := hide (HSK.out hz2')
                        clear HPU HSK HCL
                        subst hz2'
                        go_wp2
                        go_roundw
                        case rel => exact ⟨ag', M, j + 1, by omega, rfl, by go_num, hZ2, HPX.out⟩
                        case measure => simp [intOf]; omega
                      · have HPX := hide (HCL.out (by omega) hz2')
                        have hne2 : (z != (im : Int)) = true := by simpa using hz2'
                        clear HPU HSK HCL
                        go_wp2
                        go_ret
                        exact ⟨hZ2.bel, .inl ⟨rfl, HPX.out⟩⟩
                · have HNR := hide (hN.row (.inl (by omega)))
                  clear hN
                  have hjn : ¬ (j : Int) < (ps.length : Int) := by omega
                  go_wp2
                  go_roundw
                  case rel => exact ⟨ag', M, a + 1, by omega, rfl, by go_num, hZ, HNR.out⟩
                  case measure => simp [intOf]; omega
            · have hst9 := hN.start
              have HMO := hide hN.more
              have HFN : Hid (ag' = false → ∃ φ, Leads n zs m ys ps φ ∧ M = li ((List.range n).map φ)) := fun hag => by subst hag; exact hN.fin hg hh (by omega) HP.out HALL.out
              have HC9 := hide (cntN_blk hZ.mm)
              go_wp2
              go_roundw
              case rel => exact ⟨ag', M, rfl, hZ, hst9, HFN.out⟩
              case measure =>
                simp only [boolOf, HC9.out, HCN.out]
                cases hag : ag' with
                | false => simp
                | true => have := HMO.out hag; simp; omega
end Go.Proofs.YtlhjeenijcokoaaGreatDoor

namespace Go.Proofs.YtlhjeenijcokoaaGreatDoor
open Go Go.RowKit

/-- The document's search: js stand for the first makers. -/
def dhF (n : Nat) (zs : List Int) (e m : Nat) (ys : List Int) (d : Nat) (ks : List Nat) : Nat → List Nat → List (List Int)
  | 0, js => (match ext n zs e m ys d (ks.zip js) with | some S => [S.1] | none => [])
  | f + 1, js => (List.range m).flatMap fun b => if ordN n zs e (ks[js.length]?.getD 0) % ordN m ys d b = 0 then dhF n zs e m ys d ks f (js ++ [b]) else []
theorem dhF_none {n e m d : Nat} {zs ys : List Int} {ks js : List Nat} (g : IsGrp n zs e) (h : IsGrp m ys d) (hp : ∀ p, p ∈ ks.zip js → p.1 < n ∧ p.2 < m) (hall : ∀ x, x < n → Mkd n zs e (fun x => decide (x ∈ (ks.zip js).map Prod.fst)) x) (hno : ∀ φ, ¬ Leads n zs m ys (ks.zip js) φ) : dhF n zs e m ys d ks 0 js = [] := by
  unfold dhF
  cases hR : ext n zs e m ys d (ks.zip js) with
  | none => rfl
  | some S =>
    obtain ⟨H, _⟩ := ext_hom g h hp hR hall
    exact absurd ⟨H, fun p hpm => ext_at g h hp hR hpm⟩ (hno (vl S))
theorem dhF_some {n e m d : Nat} {zs ys : List Int} {ks js : List Nat} {φ : Nat → Nat} (g : IsGrp n zs e) (h : IsGrp m ys d) (hp : ∀ p, p ∈ ks.zip js → p.1 < n ∧ p.2 < m) (hall : ∀ x, x < n → Mkd n zs e (fun x => decide (x ∈ (ks.zip js).map Prod.fst)) x) (hφ : Leads n zs m ys (ks.zip js) φ) : dhF n zs e m ys d ks 0 js = [li ((List.range n).map φ)] := by
  unfold dhF
  obtain ⟨S, hR, hv⟩ := ext_of_hom g h hφ.1 (fun p hpm => ⟨(hp p hpm).1, hφ.2 p hpm⟩)
  rw [hR]
  obtain ⟨_, hS⟩ := ext_hom g h hp hR hall
  have hin : ∀ a, a < n → a ∈ S.2 := fun a ha => (ext_made g h hp hR).2 (hall a ha)
  show [S.1] = _
  rw [hS]
  congr 1
  unfold li
  rw [List.map_map, List.map_map]
  refine List.map_congr_left fun a ha => ?_
  have ha := List.mem_range.1 ha
  have h9 := hv a (hin a ha)
  show (vl S a : Int) = (φ a : Int)
  unfold vl
  omega
/-- What lies below a mark stays, but for the images' block and the box of what is found. -/
structure Kp (Bo tg ob : Nat) (W W' : World) : Prop where
  os : W'.os = W.os
  tape : W'.tape = W.tape
  output : W'.output = W.output
  size : W.heap.size ≤ W'.heap.size
  block : ∀ b, b < Bo → b ≠ tg → b ≠ ob → W'.heap[b]? = W.heap[b]?
section
variable {Bo tg ob : Nat} {W0 W W' : World}
theorem Kp.refl : Kp Bo tg ob W W := ⟨rfl, rfl, rfl, Nat.le_refl _, fun _ _ _ _ => rfl⟩
theorem Kp.below (h : Kp Bo tg ob W0 W) (hb : Below W.heap.size W W') (hB : Bo ≤ W.heap.size) : Kp Bo tg ob W0 W' :=
  ⟨hb.os.trans h.os, hb.tape.trans h.tape, hb.output.trans h.output, Nat.le_trans h.size hb.size, fun b h1 h2 h3 => (hb.block b (by omega)).trans (h.block b h1 h2 h3)⟩
theorem Kp.set (h : Kp Bo tg ob W0 W) (p : Addr) (v : Value) (hp : p.block = tg ∨ p.block = ob) : Kp Bo tg ob W0 (W.setCell p v) :=
  ⟨h.os, h.tape, h.output, by rw [size_set]; exact h.size, fun b h1 h2 h3 => (Below.heap_setCell W p v b (by rcases hp with hp | hp <;> omega)).trans (h.block b h1 h2 h3)⟩
theorem Kp.grown {row : Option Nat} (h : Kp Bo tg ob W0 W) (hg : W.grownBy W' row) (hB : Bo ≤ W.heap.size) (hr : ∀ j, row = some j → Bo ≤ j) : Kp Bo tg ob W0 W' :=
  ⟨hg.os.trans h.os, hg.tape.trans h.tape, hg.output.trans h.output, Nat.le_trans h.size hg.size, fun b h1 h2 h3 => (hg.block b (by omega) (fun h9 => by have := hr b h9.symm; omega)).trans (h.block b h1 h2 h3)⟩
theorem Kp.to_below (h : Kp Bo tg ob W0 W) {B : Nat} (h1 : B ≤ tg) (h2 : B ≤ ob) (h3 : B ≤ Bo) : Below B W0 W :=
  ⟨h.os, h.tape, h.output, h.size, fun b hb => h.block b (by omega) (by omega) (by omega)⟩
end
/-- How the images, and what is found, lie. -/
structure HmV (Bo tg ob : Nat) (W : World) (T : List Int) (os : List (List Int)) : Prop where
  sz : Bo ≤ W.heap.size
  tt : Blk W tg 3 (T.map (Value.int .i64))
  ex : ∃ r vs, Boxed W ob 38 r ∧ W.ownsRow Bo 22 1 r vs.length vs ∧ Lsts W Bo r vs os
section
variable {Bo tg ob : Nat} {W W' : World} {T : List Int} {os : List (List Int)}
theorem HmV.below (h : HmV Bo tg ob W T os) (hb : Below W.heap.size W W') : HmV Bo tg ob W' T os := by
  obtain ⟨r, vs, h1, h2, h3⟩ := h.ex
  exact ⟨Nat.le_trans h.sz hb.size, blk_below h.tt hb, r, vs, Boxed.below h1 hb, own_keep' h2 (fun g _ h9 => hb.block g h9), h3.keep hb.size (fun g _ h9 _ => hb.block g h9) (.inl rfl)⟩
theorem HmV.put (h : HmV Bo tg ob W T os) (hto : tg ≠ ob) (ht : tg < Bo) (k : Nat) (x : Int) : HmV Bo tg ob (W.setCell ⟨tg, k, none⟩ (.int .i64 x)) (T.set k x) os := by
  obtain ⟨r, vs, h1, h2, h3⟩ := h.ex
  have hk : ∀ c, c ≠ tg → (W.setCell ⟨tg, k, none⟩ (.int .i64 x)).heap[c]? = W.heap[c]? := fun c hc => Below.heap_setCell _ _ _ _ hc
  exact ⟨by rw [size_set]; exact h.sz, h.tt.setInt k x, r, vs, (hk _ (Ne.symm hto)).trans h1, own_keep' h2 (fun g h8 h9 => hk g (by omega)), h3.keep (by rw [size_set]; exact Nat.le_refl _) (fun g h8 h9 _ => hk g (by omega)) (.inl rfl)⟩
end
/-- What lies there all the while. -/
structure HmE (n : Nat) (zs : List Int) (e m : Nat) (ys : List Int) (d : Nat) (ks : List Nat) (v y : Value) (most : Nat) (l1 : Option Addr) (l3 lb gb hb tb mb rb nb rg Bo tg ob : Nat) (W0 : World) : Prop where
  fl : ∀ W, Kp Bo tg ob W0 W → Boxed W lb 22 (.slice l1 ks.length l3) ∧ Sl W (.slice l1 ks.length l3) (li ks)
  fg : ∀ W, Kp Bo tg ob W0 W → BoxG W gb n v ∧ Sl W v zs
  fh : ∀ W, Kp Bo tg ob W0 W → BoxG W hb m y ∧ Sl W y ys
  fm : ∀ W, Kp Bo tg ob W0 W → Boxed W mb 3 (.int .i64 most)
  fr : ∀ W, Kp Bo tg ob W0 W → Boxed W rb 22 (.slice (some ⟨rg, 0, none⟩) m m) ∧ Blk W rg 3 ((li ((List.range m).map (ordN m ys d))).map (Value.int .i64))
  fn : ∀ W, Kp Bo tg ob W0 W → Boxed W nb 51 (.func (.func 48) #[] #[.pointer (some ⟨lb, 0, none⟩), .pointer (some ⟨gb, 0, none⟩), .pointer (some ⟨hb, 0, none⟩), .pointer (some ⟨tb, 0, none⟩), .pointer (some ⟨ob, 0, none⟩), .pointer (some ⟨mb, 0, none⟩), .pointer (some ⟨rb, 0, none⟩), .pointer (some ⟨nb, 0, none⟩)])
  ft : ∀ W, Kp Bo tg ob W0 W → Boxed W tb 22 (.slice (some ⟨tg, 0, none⟩) ks.length ks.length)
  fne : tg ≠ ob
  ftl : tg < Bo
  fol : ob < Bo
/-- How the search ends. -/
def HmP (n : Nat) (zs : List Int) (e m : Nat) (ys : List Int) (d : Nat) (ks : List Nat) (most Bo tg ob : Nat) (W0 : World) (f : Nat) (js : List Nat) (os : List (List Int)) (x : Ending) (W' : World) : Prop :=
  Kp Bo tg ob W0 W' ∧ Bo ≤ W'.heap.size ∧ x = .returned (.bool (decide ((os ++ dhF n zs e m ys d ks f js).length ≤ most))) ∧ ((os ++ dhF n zs e m ys d ks f js).length ≤ most → ∃ T', HmV Bo tg ob W' T' (os ++ dhF n zs e m ys d ks f js) ∧ T'.length = ks.length ∧ T'.take js.length = li js)
theorem call75 (a x1 x2 x3 x4 x5 x6 x7 x8 : Value) (W : World) : Sem.run Tryz.prog (callFunc 48 (#[a] ++ #[x1, x2, x3, x4, x5, x6, x7, x8])) W = .ok (.enter 48 (#[a] ++ #[x1, x2, x3, x4, x5, x6, x7, x8])) W := by kernel_rfl
theorem nilq3 (w : World) : Sem.run Tryz.prog (binOp BinOp.neq 22 (.slice none 0 0) (.slice none 0 0)) w = .ok (.bool false) w := by kernel_rfl
theorem nilq4 (g l : Nat) (w : World) : Sem.run Tryz.prog (binOp BinOp.neq 22 (.slice (some ⟨g, 0, none⟩) l l) (.slice none 0 0)) w = .ok (.bool true) w := by kernel_rfl
set_option maxRecDepth 100000 in
set_option maxHeartbeats 8000000 in
theorem homs_leaf {n e m d : Nat} {zs ys : List Int} {ks : List Nat} {v1 : Option Addr} {v2 v3 : Nat} {y1 : Option Addr} {y2 y3 most : Nat} {l1 : Option Addr} {l3 lb gb hb tb mb rb nb rg Bo tg ob : Nat} {W0 : World}
    (hg : IsGrp n zs e) (hh : IsGrp m ys d) (hE : HmE n zs e m ys d ks (.slice v1 v2 v3) (.slice y1 y2 y3) most l1 l3 lb gb hb tb mb rb nb rg Bo tg ob W0) (hkn : ∀ k, k ∈ ks → k < n) (hks : ks.length ≤ n) (hmost : most ≤ 10000) (hall : ∀ x, x < n → Mkd n zs e (fun a => decide (a ∈ ks)) x)
    (js : List Nat) (T : List Int) (os : List (List Int)) (W : World) (hjl : js.length = ks.length) (hjm : ∀ j, j ∈ js → j < m) (hK : Kp Bo tg ob W0 W) (hV : HmV Bo tg ob W T os) (hTl : T.length = ks.length) (hTj : T.take js.length = li js) (hos : os.length ≤ most) :
    Calls Tryz.prog 48 (#[.int .i64 js.length] ++ #[.pointer (some ⟨lb, 0, none⟩), .pointer (some ⟨gb, 0, none⟩), .pointer (some ⟨hb, 0, none⟩), .pointer (some ⟨tb, 0, none⟩), .pointer (some ⟨ob, 0, none⟩), .pointer (some ⟨mb, 0, none⟩), .pointer (some ⟨rb, 0, none⟩), .pointer (some ⟨nb, 0, none⟩)]) W (HmP n zs e m ys d ks most Bo tg ob W0 0 js os) := by
  show Calls Tryz.prog 48 #[.int .i64 js.length, .pointer (some ⟨lb, 0, none⟩), .pointer (some ⟨gb, 0, none⟩), .pointer (some ⟨hb, 0, none⟩), .pointer (some ⟨tb, 0, none⟩), .pointer (some ⟨ob, 0, none⟩), .pointer (some ⟨mb, 0, none⟩), .pointer (some ⟨rb, 0, none⟩), .pointer (some ⟨nb, 0, none⟩)] W _
  obtain ⟨i2, hi2, hz0, hz1, hz2⟩ := info_parts info22b
  have hn60 := hg.tab.le
  rw [hjl] at hTj ⊢
  rw [← hTl, List.take_length] at hTj
  have hz1' : (ks.zip js).map Prod.fst = ks := List.map_fst_zip (by omega)
  have hz2' : (ks.zip js).map Prod.snd = js := List.map_snd_zip (by omega)
  have hp : ∀ p, p ∈ ks.zip js → p.1 < n ∧ p.2 < m := fun p hp => ⟨hkn _ (List.of_mem_zip hp).1, hjm _ (List.of_mem_zip hp).2⟩
  have hall' : ∀ x, x < n → Mkd n zs e (fun x => decide (x ∈ (ks.zip js).map Prod.fst)) x := by rw [hz1']; exact hall
  obtain ⟨hl0, hlS⟩ := hE.fl W hK
  obtain ⟨hg0, hgS⟩ := hE.fg W hK
  obtain ⟨hh0, hhS⟩ := hE.fh W hK
  have ht0 := hE.ft W hK
  have hTS : Sl W (.slice (some ⟨tg, 0, none⟩) ks.length ks.length) (li js) := by
    rw [← hTj]
    exact Sl.of_blk hV.tt hTl.symm (by omega)
  have HSP := hide (spread_ok n e m d (.slice v1 v2 v3) (.slice y1 y2 y3) (.slice l1 ks.length l3) (.slice (some ⟨tg, 0, none⟩) ks.length ks.length) zs ys (ks.zip js) W hg hh hgS hhS (by rw [hz1']; exact hlS) (by rw [hz2']; exact hTS) hp hall')
  have c0 := hl0.cell
  obtain ⟨c1, c2, _, _⟩ := hg0.two
  obtain ⟨c3, c4, _, _⟩ := hh0.two
  have c5 := ht0.cell
  have HNO := hide (dhF_none (d := d) hg hh hp hall')
  have HSO := hide (fun φ (hφ : Leads n zs m ys (ks.zip js) φ) => dhF_some (d := d) hg hh hp hall' hφ)
  have HTL := hide hTl
  have HTJ := hide hTj
  have HJL := hide hjl
  clear hlS hgS hhS hTS hp hall' hz1' hz2' hTl hTj hjl hl0 hg0 hh0 ht0
  go_enter Tryz.func48, Tryz.ntmps48
  go_wp2_with fail
  clear c0 c1 c2 c3 c4 c5
  refine HSP.out.mono ?_
  rintro x W1 ⟨hb1, hcase⟩
  have hK1 := hK.below hb1 hV.sz
  have hV1 := hV.below hb1
  have hm1 := (hE.fm W1 hK1).cell
  rcases hcase with ⟨rfl, hno⟩ | ⟨φ, g, hφ, rfl, hgW, hgB⟩
  · have hd := HNO.out hno
    obtain ⟨r, vs, hr1, hr2, hr3⟩ := hV1.ex
    obtain ⟨ra, rc, rfl⟩ := own_slice' hr2
    have hvl := hr3.1
    have k0 := hr1.cell
    have hle : ((vs.length : Nat) : Int) ≤ (most : Int) := by omega
    have hq := nilq3 W1
    have HVL := hide hvl
    clear hvl
    go_wp2
    go_ret
    refine ⟨hK1, hV1.sz, ?_, ?_⟩
    · rw [hd, List.append_nil, decide_eq_true hos]; rfl
    · rw [hd, List.append_nil]
      exact fun _ => ⟨T, hV1, HTL.out, by rw [HJL.out, ← HTL.out, List.take_length]; exact HTJ.out⟩
  · have hd := HSO.out φ hφ
    obtain ⟨r, vs, hr1, hr2, hr3⟩ := hV1.ex
    obtain ⟨ra, rc, rfl⟩ := own_slice' hr2
    have HOB := hide (show ∀ j, (Value.slice ra vs.length rc).ownBlock = some j → j < W.heap.size from fun j hj => by
      obtain ⟨r9, vs9, h91, h92, _⟩ := hV.ex
      have h93 := (Boxed.below h91 hb1).cell
      rw [hr1.cell] at h93
      injection h93 with h93
      subst h93
      rcases h92.2 with ⟨h8, _⟩ | ⟨g9, cap9, cur9, h8, h7, h6, _⟩
      · rw [h8] at hj; simp [Value.ownBlock] at hj
      · rw [h8] at hj
        simp [Value.ownBlock] at hj
        subst hj
        exact (Array.getElem?_eq_some_iff.1 h6).1)
    have hvl := hr3.1
    have k0 := hr1.cell
    have kf := hr1.frozen
    have hq := nilq4 g n W1
    have HVL := hide hvl
    have hv9 : vs.length ≤ 10000 := by omega
    have hB1 := hV1.sz
    clear hvl
    go_wp2_with (first
      | (at_builtin; refine wpList_append_own_at _ rfl _ _ 38 rfl Bo 22 i2 (.slice none 0 0) 1 24 under25b hi2 hz0 hz1 hz2 rfl (by decide) _ _ _ rfl (World.ownsRow.alloc hr2 _) ⟨W1.heap.size, 0, none⟩ 1 1 [.slice (some ⟨g, 0, none⟩) n n] rfl rfl ?c1 ?c2 ?c3 ?c4 ?c5 ?_))
    case c1 => exact cell_one_new _ _ _
    case c2 => simp [Value.oneCell']
    case c3 => unfold maxLen; omega
    case c4 => omega
    case c5 => simp; omega
    intro v' W2 hown' hgrow hnil hloc
    obtain ⟨ra', rcap', rfl⟩ := own_slice' hown'
    have hge := owns_ge hr2
    have hob : ∀ j, (Value.slice ra vs.length rc).ownBlock = some j → j < W.heap.size := HOB.out
    have hne : ∀ b, b < Bo → some b ≠ (Value.slice ra vs.length rc).ownBlock := fun b h1 h2 => by have := hge b h2.symm; omega
    have hO2 : Boxed W2 ob 38 (.slice ra vs.length rc) := (hr1.alloc _).kept hgrow (hne _ hE.fol)
    have hK2 : Kp Bo tg ob W0 W2 := (hK1.below (balloc W1 _) hB1).grown hgrow (by simp; omega) (fun j e => hge j e)
    have hT2 : Blk W2 tg 3 (T.map (Value.int .i64)) := (hV1.tt.alloc _).grown hgrow (hne _ hE.ftl)
    have hszw : W1.heap.size + 1 ≤ W2.heap.size := by have := hgrow.size; simpa using this
    have hK3 := hK2.set ⟨ob, 0, none⟩ (.slice ra' (vs.length + 1) rcap') (.inr rfl)
    have hO3 := hO2.set (.slice ra' (vs.length + 1) rcap')
    have hT3 : Blk (W2.setCell ⟨ob, 0, none⟩ (.slice ra' (vs.length + 1) rcap')) tg 3 (T.map (Value.int .i64)) := hT2.other (p := ⟨ob, 0, none⟩) hE.fne _
    have hkeep : ∀ b, b < W1.heap.size → b ≠ ob → (Value.slice ra vs.length rc).ownBlock ≠ some b → (W2.setCell ⟨ob, 0, none⟩ (.slice ra' (vs.length + 1) rcap')).heap[b]? = W1.heap[b]? := fun b h1 h2 h3 => by
      rw [Below.heap_setCell _ _ _ _ h2, hgrow.block b (by simp; omega) (fun e => h3 e.symm)]
      exact Below.heap_alloc _ _ _ h1
    have hlo : (Value.slice ra' (vs.length + 1) rcap').ownBlock = (Value.slice ra vs.length rc).ownBlock ∨ ∀ g, (Value.slice ra' (vs.length + 1) rcap').ownBlock = some g → W1.heap.size ≤ g := by
      rcases hloc with h | h
      · exact .inl h
      · right; intro g hg; rw [h] at hg; simp at hg; omega
    have hgn : (Value.slice ra vs.length rc).ownBlock ≠ some g := fun e => by have := hob g e; omega
    have hgn' : ∀ b, (Value.slice ra' (vs.length + 1) rcap').ownBlock = some b → g ≠ b := fun b hb e => by
      subst e
      rcases hlo with h | h
      · exact hgn (h.symm.trans hb)
      · have := h g hb; have := hgB.lt; omega
    have hgo : g ≠ ob := fun e => by have := hE.fol; have := hV.sz; omega
    have hM5 : Blk (W2.setCell ⟨ob, 0, none⟩ (.slice ra' (vs.length + 1) rcap')) g 3 ((li ((List.range n).map φ)).map (Value.int .i64)) := (hkeep g hgB.lt hgo hgn).trans hgB
    have hcl : (li ((List.range n).map φ)).length = n := by simp [li]
    have hV3 : HmV Bo tg ob (W2.setCell ⟨ob, 0, none⟩ (.slice ra' (vs.length + 1) rcap')) T (os ++ [li ((List.range n).map φ)]) := by
      refine ⟨by rw [size_set]; omega, hT3, .slice ra' (vs.length + 1) rcap', vs ++ [.slice (some ⟨g, 0, none⟩) n n], hO3, ?_, ?_⟩
      · rw [List.length_append]
        exact own_keep' hown' (fun b h1 h2 => Below.heap_setCell _ _ _ _ (by have := hE.fol; simp; omega))
      · refine (hr3.keep (by rw [size_set]; omega) (fun b h1 h2 h3 => hkeep b h2 (by have := hE.fol; omega) h3) hlo).snoc ?_
        exact ⟨some ⟨g, 0, none⟩, n, g, 0, by rw [hcl], ⟨fun _ => rfl, fun j hj => by rw [Nat.zero_add]; exact hM5.int hj⟩, hM5.lt, by omega, by unfold maxLen; omega, by have := hV.sz; omega, hgn'⟩
    have k1 := hO2.cell
    have kf1 := hO2.frozen
    have k3 := hO3.cell
    have hm3 := (hE.fm _ hK3).cell
    have HK3 := hide hK3
    have HV3 := hide hV3
    clear hM5 hgo hgn' hgn hlo hkeep hT3 hO3 hK3 hK2 hT2 hO2 hne hob hge hown' hgrow hnil hloc hV3 hcl hm1 kf k0
    have hvo : vs.length + 1 = (os ++ [li ((List.range n).map φ)]).length := by rw [List.length_append, HVL.out]; rfl
    have HVO := hide hvo
    clear hvo
    by_cases hle : vs.length + 1 ≤ most
    · have hlei : ((vs.length + 1 : Nat) : Int) ≤ (most : Int) := by omega
      have hlej : ((vs.length : Nat) : Int) + 1 ≤ (most : Int) := by omega
      go_wp2
      go_ret
      refine ⟨HK3.out, HV3.out.sz, ?_, ?_⟩
      · rw [hd, ← HVO.out, decide_eq_true hle]; rfl
      · rw [hd]
        exact fun _ => ⟨T, HV3.out, HTL.out, by rw [HJL.out, ← HTL.out, List.take_length]; exact HTJ.out⟩
    · have hlei : ¬ ((vs.length + 1 : Nat) : Int) ≤ (most : Int) := by omega
      have hlej : ¬ ((vs.length : Nat) : Int) + 1 ≤ (most : Int) := by omega
      go_wp2
      go_ret
      refine ⟨HK3.out, HV3.out.sz, ?_, ?_⟩
      · rw [hd, ← HVO.out, decide_eq_false hle]; rfl
      · rw [hd, ← HVO.out]
        exact fun h => absurd h hle
theorem take_set_one {T : List Int} {k : Nat} {x : Int} (h : k < T.length) : (T.set k x).take (k + 1) = T.take k ++ [x] := by
  rw [List.take_set, List.take_succ_eq_append_getElem h, List.set_append_right _ _ (by rw [List.length_take]; omega)]
  rw [List.length_take, show k - min k T.length = 0 by omega]
  rfl
theorem flat_succ {α : Type} (F : Nat → List α) (y : Nat) : (List.range (y + 1)).flatMap F = (List.range y).flatMap F ++ F y := by
  rw [List.range_succ, List.flatMap_append]
  simp
theorem flat_le {α : Type} (F : Nat → List α) {y m : Nat} (h : y ≤ m) : ((List.range y).flatMap F).length ≤ ((List.range m).flatMap F).length := by
  obtain ⟨k, rfl⟩ : ∃ k, m = y + k := ⟨m - y, by omega⟩
  induction k with
  | zero => exact Nat.le_refl _
  | succ k ih => rw [← Nat.add_assoc, flat_succ, List.length_append]; have := ih (by omega); omega
set_option maxRecDepth 100000 in
set_option maxHeartbeats 8000000 in
theorem homs_next {n e m d : Nat} {zs ys : List Int} {ks : List Nat} {v1 : Option Addr} {v2 v3 : Nat} {y1 : Option Addr} {y2 y3 most : Nat} {l1 : Option Addr} {l3 lb gb hb tb mb rb nb rg Bo tg ob : Nat} {W0 : World}
    (hg : IsGrp n zs e) (hh : IsGrp m ys d) (hE : HmE n zs e m ys d ks (.slice v1 v2 v3) (.slice y1 y2 y3) most l1 l3 lb gb hb tb mb rb nb rg Bo tg ob W0) (hkn : ∀ k, k ∈ ks → k < n) (hks : ks.length ≤ n) (hmost : most ≤ 10000) (hall : ∀ x, x < n → Mkd n zs e (fun a => decide (a ∈ ks)) x) :
    ∀ (f : Nat) (js : List Nat) (T : List Int) (os : List (List Int)) (W : World), js.length + f = ks.length → (∀ j, j ∈ js → j < m) → Kp Bo tg ob W0 W → HmV Bo tg ob W T os → T.length = ks.length → T.take js.length = li js → os.length ≤ most →
    Calls Tryz.prog 48 (#[.int .i64 js.length] ++ #[.pointer (some ⟨lb, 0, none⟩), .pointer (some ⟨gb, 0, none⟩), .pointer (some ⟨hb, 0, none⟩), .pointer (some ⟨tb, 0, none⟩), .pointer (some ⟨ob, 0, none⟩), .pointer (some ⟨mb, 0, none⟩), .pointer (some ⟨rb, 0, none⟩), .pointer (some ⟨nb, 0, none⟩)]) W (HmP n zs e m ys d ks most Bo tg ob W0 f js os) := by
  have hn60 := hg.tab.le
  have hm60 := hh.tab.le
  intro f
  induction f with
  | zero => exact fun js T os W h1 h2 h3 h4 h5 h6 h7 => homs_leaf hg hh hE hkn hks hmost hall js T os W h1 h2 h3 h4 h5 h6 h7
  | succ f ih =>
    intro js T os W hjl hjm hK hV hTl hTj hos
    show Calls Tryz.prog 48 #[.int .i64 js.length, .pointer (some ⟨lb, 0, none⟩), .pointer (some ⟨gb, 0, none⟩), .pointer (some ⟨hb, 0, none⟩), .pointer (some ⟨tb, 0, none⟩), .pointer (some ⟨ob, 0, none⟩), .pointer (some ⟨mb, 0, none⟩), .pointer (some ⟨rb, 0, none⟩), .pointer (some ⟨nb, 0, none⟩)] W _
    have HIH := hide ih
    clear ih
    obtain ⟨F, hF⟩ : ∃ F : Nat → List (List Int), F = fun b => if ordN n zs e (ks[js.length]?.getD 0) % ordN m ys d b = 0 then dhF n zs e m ys d ks f (js ++ [b]) else [] := ⟨_, rfl⟩
    have hdF : dhF n zs e m ys d ks (f + 1) js = (List.range m).flatMap F := by rw [hF]; rfl
    have hjk : js.length < ks.length := by omega
    obtain ⟨c, hc⟩ : ∃ c, ks[js.length] = c := ⟨_, rfl⟩
    have hcn : c < n := by rw [← hc]; exact hkn _ (List.getElem_mem hjk)
    rw [show ks[js.length]?.getD 0 = c by rw [List.getElem?_eq_getElem hjk, Option.getD_some, hc]] at hF
    have hop := ord_pos (n := n) (zs := zs) (e := e) c
    have hol := ord_le hg hcn
    have HO := hide (fun W9 (h : Below W.heap.size W W9) => O_ok hg hcn (.slice v1 v2 v3) W9 ((hE.fg W hK).2.below h))
    have HORD := hide (fun b (hb9 : b < m) => And.intro (ord_pos (n := m) (zs := ys) (e := d) b) (ord_le hh hb9))
    generalize ordN n zs e c = oc at *
    obtain ⟨hl0, hlS⟩ := hE.fl W hK
    obtain ⟨hg0, hgS⟩ := hE.fg W hK
    obtain ⟨la, lcap, lpb, lpo, hlv, hlr, hlp, hl4, hl5⟩ := hlS
    injection hlv with e1 e2 e3
    subst e1 e3
    obtain rfl := hlr.at_ (by rw [li_len]; omega)
    have cl := hlr.cell js.length (by rw [li_len]; exact hjk)
    rw [li_get hjk, hc] at cl
    have c0 := hl0.cell
    obtain ⟨c1, c2, _, _⟩ := hg0.two
    have hjk1 : ¬ ((js.length : Nat) : Int) = ((ks.length : Nat) : Int) := by omega
    have hjk2 : ((js.length : Nat) : Int) < ((ks.length : Nat) : Int) := by omega
    have hS : ∀ W9, Below W.heap.size W W9 → (Below W.heap.size W W9 ∧ W9.cell? ⟨lb, 0, none⟩ = some (.slice (some ⟨lpb, lpo, none⟩) ks.length l3) ∧ W9.cell? ⟨gb, 0, none⟩ = some (.int .i64 n) ∧ W9.cell? ⟨gb, 1, none⟩ = some (.slice v1 v2 v3) ∧ W9.cell? ⟨lpb, lpo + js.length, none⟩ = some (.int .i64 c)) := fun W9 h => ⟨h, below_cell h c0, below_cell h c1, below_cell h c2, below_cell h cl⟩
    have hS0 := hS _ (bdrew (Below.refl _ W))
    have HJ := hide hjl
    have HTL := hide hTl
    have HTJ := hide hTj
    have HF := hide hF
    have HDF := hide hdF
    clear hjl hTl hTj hF hdF hlr hl4 hl5 hc e2 hl0 hg0 hgS
    go_enter Tryz.func48, Tryz.ntmps48
    go_wp2_with fail
    clear c0 c1 c2 cl
    go_region_held3 (fun W9 => Below W.heap.size W W9 ∧ W9.cell? ⟨lb, 0, none⟩ = some (.slice (some ⟨lpb, lpo, none⟩) ks.length l3) ∧ W9.cell? ⟨gb, 0, none⟩ = some (.int .i64 n) ∧ W9.cell? ⟨gb, 1, none⟩ = some (.slice v1 v2 v3) ∧ W9.cell? ⟨lpb, lpo + js.length, none⟩ = some (.int .i64 c))
      (first | exact hS0 | assumption | exact hS _ (bcat2 (And.left ‹_›) hq1))
      (first | (go_at_call 46; refine (HO.out _ (And.left ‹_›)).mono ?_; rintro e1 W1 ⟨rfl, hq1⟩))
    all_goals (
      have hB1 := And.left ‹Below W.heap.size W W1 ∧ _›
      have hK1 := hK.below hB1 hV.sz
      have hV1 := hV.below hB1
      clear hS hS0 hq1
      go_wp2
      go_loopw [13] (fun i wr => ∃ (b : Nat) (T' : List Int), b ≤ m ∧ i = .int .i64 b ∧ Kp Bo tg ob W0 wr ∧ HmV Bo tg ob wr T' (os ++ (List.range b).flatMap F) ∧ T'.length = ks.length ∧ T'.take js.length = li js ∧ (os ++ (List.range b).flatMap F).length ≤ most) (fun i _ => m - (intOf i).toNat)
      case atStart => exact ⟨0, T, Nat.zero_le _, rfl, hK1, by simpa using hV1, HTL.out, HTJ.out, by simpa using hos⟩
      case round =>
        obtain ⟨b, T', hbm, rfl, hKb, hVb, hTl, hTj, hob⟩ := hrel
        obtain ⟨h0, _⟩ := hE.fh wr hKb
        obtain ⟨d0, d1, _, _⟩ := h0.two
        by_cases hlt : b < m
        · have hbi : (b : Int) < (m : Int) := by omega
          obtain ⟨hr0, hrB⟩ := hE.fr wr hKb
          have k0 := hr0.cell
          have k1 := hrB.int (y := b) (by rw [li_len]; simpa using hlt)
          rw [show (li ((List.range m).map (ordN m ys d)))[b]?.getD 0 = (ordN m ys d b : Int) by simp [li, hlt]] at k1
          obtain ⟨ho1, ho2⟩ := HORD.out b hlt
          obtain ⟨q, hq⟩ : ∃ q, oc % ordN m ys d b = q := ⟨_, rfl⟩
          have hFb : F b = if q = 0 then dhF n zs e m ys d ks f (js ++ [b]) else [] := by rw [HF.out, ← hq]
          have HFB := hide hFb
          have HFS := hide (flat_succ F b)
          have HFL := hide (flat_le F (show b + 1 ≤ m by omega))
          generalize ordN m ys d b = o at *
          have hrm : (oc : Int).tmod (o : Int) = (q : Int) := by rw [← hq]; exact tmod_nat o rfl
          have hqn : q ≤ 60 := by rw [← hq]; exact Nat.le_trans (Nat.mod_le _ _) (by omega)
          have hwq : IntKind.i64.wrap (q : Int) = (q : Int) := by rw [IntKind.wrap_i64]; omega
          have ho0 : ¬ o = 0 := by omega
          have ho0i : ¬ (o : Int) = 0 := by omega
          have HTl := hide hTl
          have HTj := hide hTj
          have HOb := hide hob
          clear hq hFb hTl hTj hob
          by_cases hq0 : q = 0
          · subst hq0
            have hrm : (oc : Int).tmod (o : Int) = 0 := hrm
            have HFB2 : Hid (F b = dhF n zs e m ys d ks f (js ++ [b])) := by
              have h9 := HFB.out
              rw [if_pos rfl] at h9
              exact h9
            clear HFB
            have ht0 := (hE.ft wr hKb).cell
            have kt := hVb.tt.int (y := js.length) (by rw [HTl.out]; exact hjk)
            have kf := hVb.tt.frozen js.length
            have hK2 := hKb.set ⟨tg, js.length, none⟩ (.int .i64 b) (.inl rfl)
            have hV2 := hVb.put hE.fne hE.ftl js.length b
            have kn := (hE.fn _ hK2).cell
            have hw9 : IntKind.i64.wrap ((js.length : Int) + 1) = (js.length : Int) + 1 := by rw [IntKind.wrap_i64]; omega
            have HC := hide (show Calls Tryz.prog 48 (#[.int .i64 ((js.length : Int) + 1)] ++ #[.pointer (some ⟨lb, 0, none⟩), .pointer (some ⟨gb, 0, none⟩), .pointer (some ⟨hb, 0, none⟩), .pointer (some ⟨tb, 0, none⟩), .pointer (some ⟨ob, 0, none⟩), .pointer (some ⟨mb, 0, none⟩), .pointer (some ⟨rb, 0, none⟩), .pointer (some ⟨nb, 0, none⟩)]) (wr.setCell ⟨tg, js.length, none⟩ (.int .i64 b)) (HmP n zs e m ys d ks most Bo tg ob W0 f (js ++ [b]) (os ++ (List.range b).flatMap F)) from by
              have h9 := HIH.out (js ++ [b]) (T'.set js.length b) (os ++ (List.range b).flatMap F) (wr.setCell ⟨tg, js.length, none⟩ (.int .i64 b)) (by rw [List.length_append]; have := HJ.out; simp; omega) (fun j hj => by
                rcases List.mem_append.1 hj with h8 | h8
                · exact hjm j h8
                · simp at h8; omega) hK2 hV2 (by rw [List.length_set]; exact HTl.out) (by
                rw [List.length_append]
                show (T'.set js.length b).take (js.length + 1) = _
                rw [take_set_one (by rw [HTl.out]; exact hjk), HTj.out]
                simp [li]) HOb.out
              rw [show (((js ++ [b]).length : Nat) : Int) = (js.length : Int) + 1 by simp] at h9
              exact h9)
            have hcall := call75
            clear hV2 hK2
            go_wp2_with fail
            refine HC.out.mono ?_
            rintro x W2 ⟨hK3, hs3, rfl, hok⟩
            rw [List.append_assoc, ← HFB2.out, ← HFS.out] at hok ⊢
            by_cases hle : (os ++ (List.range (b + 1)).flatMap F).length ≤ most
            · obtain ⟨T2, hV3, hT3, hT4⟩ := hok hle
              rw [decide_eq_true hle]
              have hT5 : T2.take js.length = li js := by
                have := congrArg (List.take js.length) hT4
                rw [List.take_take, List.length_append] at this
                rw [show min js.length (js.length + [b].length) = js.length by simp] at this
                rw [this]
                simp [li]
              clear hok
              go_wp2
              go_roundw
              case rel => exact ⟨b + 1, T2, by omega, by go_num, hK3, hV3, hT3, hT5, hle⟩
              case measure => simp [intOf]; omega
            · rw [decide_eq_false hle]
              clear hok
              go_wp2
              go_ret
              have hgt : ¬ (os ++ (List.range m).flatMap F).length ≤ most := by
                have := HFL.out
                rw [List.length_append] at hle ⊢
                omega
              refine ⟨hK3, hs3, ?_, ?_⟩
              · rw [HDF.out, decide_eq_false hgt]; rfl
              · rw [HDF.out]
                exact fun h => absurd h hgt
          · have hqi : ¬ (q : Int) = 0 := by omega
            have hFe : (List.range (b + 1)).flatMap F = (List.range b).flatMap F := by
              have h9 := HFB.out
              rw [if_neg hq0] at h9
              rw [HFS.out, h9, List.append_nil]
            go_wp2
            go_roundw
            case rel => exact ⟨b + 1, T', by omega, by go_num, hKb, by rw [hFe]; exact hVb, HTl.out, HTj.out, by rw [hFe]; exact HOb.out⟩
            case measure => simp [intOf]; omega
        · have hbi : ¬ (b : Int) < (m : Int) := by omega
          have hbe : b = m := by omega
          go_wp2
          go_ret
          refine ⟨hKb, hVb.sz, ?_, ?_⟩
          · rw [HDF.out, ← hbe, decide_eq_true hob]; rfl
          · rw [HDF.out, ← hbe]
            exact fun _ => ⟨T', hVb, hTl, hTj⟩)
end Go.Proofs.YtlhjeenijcokoaaGreatDoor
