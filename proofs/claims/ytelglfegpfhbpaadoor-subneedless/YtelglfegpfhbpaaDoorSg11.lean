/- What Frattini answers is Frattini's subgroup; the closure of the law SubNeedless. -/
import Derived.Test.YtelglfegpfhbpaaDoorSg10
import Derived.Test.YtelglfegpfhbpaaDoorDedW
namespace Go.Proofs.YtelglfegpfhbpaaDoor
open Go Go.RowKit

theorem mem_prop {n : Nat} {P : List (Nat → Bool)} {s : Nat} : s ∈ prop (bits n P) (bs (fun _ => true) n) ↔ (∃ p, p ∈ P ∧ s = bs p n) ∧ s ≠ bs (fun _ => true) n := by
  unfold prop bits
  rw [List.mem_filter, List.mem_map]
  constructor
  · rintro ⟨⟨p, hp, rfl⟩, h⟩
    exact ⟨⟨p, hp, rfl⟩, by simpa using h⟩
  · rintro ⟨⟨p, hp, rfl⟩, h⟩
    exact ⟨⟨p, hp, rfl⟩, by simpa using h⟩
theorem mem_grtA {n : Nat} {P : List (Nat → Bool)} {s : Nat} : s ∈ grtA n P ↔ s ∈ prop (bits n P) (bs (fun _ => true) n) ∧ ∀ t, t ∈ prop (bits n P) (bs (fun _ => true) n) → lessB s t = false := by
  unfold grtA grt
  rw [List.take_length, List.mem_filter]
  simp
theorem lessB_iff {n : Nat} {p q : Nat → Bool} : lessB (bs p n) (bs q n) = true ↔ (∃ a, a < n ∧ q a = true ∧ ¬ p a = true) ∧ ∀ a, a < n → p a = true → q a = true := by
  unfold lessB
  rw [Bool.and_eq_true, inB_iff, decide_eq_true_eq]
  constructor
  · rintro ⟨h1, h2⟩
    refine ⟨?_, h2⟩
    rcases Classical.em (∃ a, a < n ∧ q a = true ∧ ¬ p a = true) with h | h
    · exact h
    · refine absurd (bs_ext fun a ha => ?_) h1
      rw [Bool.eq_iff_iff]
      exact ⟨h2 a ha, fun hq => Classical.byContradiction fun hp => h ⟨a, ha, hq, hp⟩⟩
  · rintro ⟨⟨a, ha, h1, h2⟩, h3⟩
    exact ⟨fun he => h2 (by rw [bs_inj he a ha]; exact h1), h3⟩
theorem less_all {n : Nat} {p : Nat → Bool} : bs p n ≠ bs (fun _ => true) n ↔ ∃ x, x ∈ List.range n ∧ ¬ p x = true := by
  constructor
  · intro h
    rcases Classical.em (∃ x, x ∈ List.range n ∧ ¬ p x = true) with k | k
    · exact k
    · exact absurd (bs_ext fun a ha => Classical.byContradiction fun hp => k ⟨a, List.mem_range.2 ha, fun h9 => hp (by rw [h9])⟩) h
  · rintro ⟨x, hx, h⟩ he
    exact h (bs_inj he x (List.mem_range.1 hx))
theorem frat_mem {n e k : Nat} {zs : List Int} {P : List (Nat → Bool)} (g : IsGrp n zs e) (hk : P.length ≤ k) (hI : SInv n zs e P k 0) {x : Nat} (hx : x < n) :
    ((grtA n P).all fun s => s.testBit x) = true ↔ Fin.Frat (List.range n) (tm n zs) e x := by
  have hin : ∀ t : Nat → Bool, Fin.Sg (List.range n) (tm n zs) e (fun a => t a = true) → (∃ p, p ∈ P ∧ bs t n = bs p n) := fun t ht => by
    have := SInv.all g hI hk (subT_iff.2 ht)
    unfold bits at this
    obtain ⟨p, hp, he⟩ := List.mem_map.1 this
    exact ⟨p, hp, he.symm⟩
  rw [List.all_eq_true]
  constructor
  · intro h M hM
    obtain ⟨t, ht⟩ := Fin.test_of M
    have St : Fin.Sg (List.range n) (tm n zs) e (fun a => t a = true) := ⟨(ht e).2 hM.sg.one, fun a b ha hb h3 h4 => (ht _).2 (hM.sg.mul a b ha hb ((ht a).1 h3) ((ht b).1 h4))⟩
    have hm : bs t n ∈ grtA n P := by
      rw [mem_grtA, mem_prop]
      refine ⟨⟨hin t St, less_all.2 ?_⟩, fun s hs => ?_⟩
      · obtain ⟨y, hy, h2⟩ := hM.less
        exact ⟨y, hy, fun h9 => h2 ((ht y).1 h9)⟩
      · obtain ⟨⟨q, hq, rfl⟩, hne⟩ := mem_prop.1 hs
        cases hl : lessB (bs t n) (bs q n) with
        | false => rfl
        | true =>
          exfalso
          obtain ⟨⟨a, ha, h1, h2⟩, h3⟩ := lessB_iff.1 hl
          obtain ⟨y, hy, h4⟩ := less_all.1 hne
          exact h4 (hM.top (fun a => q a = true) (subT_iff.1 (hI.sub q hq)) (fun z hz hMz => h3 z (List.mem_range.1 hz) ((ht z).2 hMz)) ⟨a, List.mem_range.2 ha, h1, fun h9 => h2 ((ht a).2 h9)⟩ y hy)
    have := h _ hm
    rw [bs_bit] at this
    simp [hx] at this
    exact (ht x).1 this
  · intro h s hs
    obtain ⟨h1, h2⟩ := mem_grtA.1 hs
    obtain ⟨⟨p, hp, rfl⟩, hne⟩ := mem_prop.1 h1
    rw [bs_bit]
    simp only [hx, decide_true, Bool.true_and]
    refine h (fun a => p a = true) ⟨subT_iff.1 (hI.sub p hp), less_all.1 hne, fun Q SQ hpQ ⟨y, hy, hy1, hy2⟩ z hz => ?_⟩
    refine Classical.byContradiction fun hnz => ?_
    obtain ⟨q, hq⟩ := Fin.test_of Q
    have Sq : Fin.Sg (List.range n) (tm n zs) e (fun a => q a = true) := ⟨(hq e).2 SQ.one, fun a b ha hb h3 h4 => (hq _).2 (SQ.mul a b ha hb ((hq a).1 h3) ((hq b).1 h4))⟩
    have hlf := h2 (bs q n) (mem_prop.2 ⟨hin q Sq, less_all.2 ⟨z, hz, fun h9 => hnz ((hq z).1 h9)⟩⟩)
    have hlt : lessB (bs p n) (bs q n) = true := lessB_iff.2 ⟨⟨y, List.mem_range.1 hy, (hq y).2 hy1, hy2⟩, fun a ha h9 => (hq a).2 (hpQ a (List.mem_range.2 ha) h9)⟩
    rw [hlt] at hlf
    exact absurd hlf (by decide)
/-- FRATTINI, of lists: what makes all makes all also without what is in the greatest subgroups' meet. -/
theorem frat_less {n e k : Nat} {zs l : List Int} {P : List (Nat → Bool)} {p : Nat → Bool} (g : IsGrp n zs e) (hk : P.length ≤ k) (hI : SInv n zs e P k 0)
    (hp : ∀ a, a < n → (p a = true ↔ Mkd n zs e (pset l) a)) (hl : (lst n p).length = n) {q : Nat → Bool} (hq : ∀ a, a < n → q a = (pset l a && !((grtA n P).all fun s => s.testBit a))) {r : Nat → Bool} (hr : ∀ a, a < n → (r a = true ↔ Mkd n zs e q a)) : (lst n r).length = n := by
  have hall : ∀ a, a < n → p a = true := by
    intro a ha
    have h1 : (List.range n).filter p = List.range n := List.filter_sublist.eq_of_length (by
      have : ((List.range n).filter p).length = n := hl
      rw [this, List.length_range])
    exact (List.filter_eq_self.1 h1) a (List.mem_range.2 ha)
  have hG := Fin.frat_needless (grp_fg g) (X := fun x => pset l x = true) (fun a ha => (hp a (List.mem_range.1 ha)).1 (hall a (List.mem_range.1 ha)))
  have : lst n r = List.range n := by
    unfold lst
    rw [List.filter_eq_self]
    intro a ha
    rw [hr a (List.mem_range.1 ha)]
    refine Fin.Gen.mono (fun x hx hX => ?_) (hG a ha)
    have hxn := List.mem_range.1 hx
    show q x = true
    rw [hq x hxn, Bool.and_eq_true]
    refine ⟨hX.1, ?_⟩
    cases hb : (grtA n P).all fun s => s.testBit x with
    | false => rfl
    | true => exact absurd ((frat_mem g hk hI hxn).1 hb) hX.2
  rw [this, List.length_range]
/-- A set of things, as a list, has no fault. -/
theorem ent32 (a : Int) (x y : Value) (W : World) : Sem.run Tryd.prog (callFunc 32 (#[.int .i64 a] ++ #[x, y])) W = .ok (.enter 32 (#[.int .i64 a] ++ #[x, y])) W := by kernel_rfl
theorem has_int' (v : Value) (ys : List Int) (a : Int) (w : World) (hv : Sl w v ys) :
    Calls Tryd.prog 30 #[v, .int .i64 a] w fun x w' => x = .returned (.bool (decide (a ∈ ys))) ∧ Below w.heap.size w w' := by
  refine (rhas_ok v ys a w hv).mono ?_
  rintro x w1 ⟨rfl, rfl⟩
  exact ⟨rfl, Below.refl _ _⟩
set_option maxRecDepth 100000 in
set_option maxHeartbeats 2000000 in
theorem ndl1_ok (a : Int) (ab mb : Nat) (av mv : Value) (xs ys : List Int) (w : World) (hA : Boxed w ab 22 av) (hM : Boxed w mb 22 mv) (h1 : Sl w av xs) (h2 : Sl w mv ys) :
    Calls Tryd.prog 32 (#[.int .i64 a] ++ #[.pointer (some ⟨ab, 0, none⟩), .pointer (some ⟨mb, 0, none⟩)]) w fun z w' => z = .returned (.bool (decide (a ∈ xs) && !decide (a ∈ ys))) ∧ Below w.heap.size w w' := by
  show Calls Tryd.prog 32 #[.int .i64 a, .pointer (some ⟨ab, 0, none⟩), .pointer (some ⟨mb, 0, none⟩)] w _
  have c0 := hA.cell
  have c1 := hM.cell
  have HH := hide (has_int' av xs a w h1)
  cases hd : decide (a ∈ xs) with
  | false =>
    rw [hd] at HH
    go_enter Tryd.func32, Tryd.ntmps32
    go_wp2_with fail
    refine HH.out.mono ?_
    rintro x w1 ⟨rfl, hb1⟩
    go_wp2
    go_ret
    exact ⟨rfl, hb1⟩
  | true =>
    rw [hd] at HH
    go_enter Tryd.func32, Tryd.ntmps32
    go_wp2_with fail
    refine HH.out.mono ?_
    rintro x w1 ⟨rfl, hb1⟩
    have c1 := below_cell hb1 c1
    go_wp2_with fail
    refine (has_int' mv ys a w1 (h2.below hb1)).mono ?_
    rintro x w2 ⟨rfl, hb2⟩
    go_wp2
    go_ret
    exact ⟨rfl, bcat2 hb1 hb2⟩
end Go.Proofs.YtelglfegpfhbpaaDoor
