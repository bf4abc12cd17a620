/- Greatest normal subgroups and composition series of finite groups as mathematics: THE THEOREM OF JORDAN AND HOELDER: all have the same factors. No condition. Package series' greatest: a greatest normal subgroup of a subgroup. Condition: the library's table of places lies as its text lays it. Normaliser at a subgroup. Condition: the library's table of places lies as its text lays it. Package quot's numbers and group: lists that are parts of a group, numbered. Package quot's Part: a subgroup as a group of its own. Condition: the library's table of places lies as its text lays it. A subgroup as a group of its own, as mathematics. Sylow's theorems about what All answers: each thing whose order is a power of p is in one of them, all have as many things, and how many things have such an order is a multiple of that. No condition. What the law SylowAll asks of mathematics: of what All answers. No condition. -/
import Derived.Test.YtjiapicknkjhmaaGreatDoorZ1
import Derived.Test.YtjiapicknkjhmaaGreatDoorZ6
import Derived.Test.YtjiapicknkjhmaaGreatDoorZ5
import Derived.Test.YtjiapicknkjhmaaGreatDoorZ3
import Derived.BigQuiet
import Derived.Deep.AppendLies
import Derived.Deep.DeepCutAuto
import Derived.Deep.RegionLaw
import Derived.Laws.EntriesVeiled
import Derived.Maps.AppendAt
import Derived.Maps.Ext
import Derived.Maps.OwnOps
import Derived.Maps.OwnSet
namespace Go.Proofs.YtjiapicknkjhmaaGreatDoor.Fin
variable {l : List Nat} {m : Nat → Nat → Nat} {e : Nat} {iv : Nat → Nat}

abbrev SgB (l : List Nat) (m : Nat → Nat → Nat) (e : Nat) (q : Nat → Bool) : Prop := Sg l m e (fun a => q a = true)
/-- Is what the first has in the second? -/
def In (l : List Nat) (p q : Nat → Bool) : Prop := ∀ x, x ∈ l → p x = true → q x = true
/-- How many things. -/
def sz (l : List Nat) (q : Nat → Bool) : Nat := (l.filter q).length
/-- Conjugated by the second, the first stays. -/
def Nb (l : List Nat) (m : Nat → Nat → Nat) (iv : Nat → Nat) (C A : Nat → Bool) : Prop := ∀ x a, x ∈ l → a ∈ l → C x = true → A a = true → C (cj m iv x a) = true
theorem In.refl (p : Nat → Bool) : In l p p := fun _ _ h => h
theorem In.trans {p q r : Nat → Bool} (h1 : In l p q) (h2 : In l q r) : In l p r := fun x hx h => h2 x hx (h1 x hx h)
theorem in_filter {p q : Nat → Bool} (h : In l p q) : l.filter p = (l.filter q).filter p := by
  rw [List.filter_filter]
  apply filter_eq
  intro x hx
  cases hpx : p x with
  | false => simp
  | true => simp [h x hx hpx]
theorem sz_le {p q : Nat → Bool} (h : In l p q) : sz l p ≤ sz l q := by
  unfold sz
  rw [in_filter h]
  exact List.length_filter_le _ _
theorem sz_lt {p q : Nat → Bool} (h : In l p q) (hx : ∃ x, x ∈ l ∧ q x = true ∧ ¬ p x = true) : sz l p < sz l q := by
  obtain ⟨x, hx, h1, h2⟩ := hx
  unfold sz
  rw [in_filter h]
  exact List.length_filter_lt_length_iff_exists.2 ⟨x, List.mem_filter.2 ⟨hx, h1⟩, h2⟩
theorem sz_same {p q : Nat → Bool} (h : In l p q) (h' : In l q p) : sz l p = sz l q := Nat.le_antisymm (sz_le h) (sz_le h')
theorem in_of_sz {p q : Nat → Bool} (h : In l p q) (h1 : sz l p = sz l q) : In l q p := fun x hx hq => Classical.byContradiction fun hn => by
  have := sz_lt h ⟨x, hx, hq, hn⟩
  omega
theorem sz_dvd (F : Fg l m e) {p q : Nat → Bool} (S : SgB l m e p) (T : SgB l m e q) (h : In l p q) : sz l p ∣ sz l q :=
  lagr (sg_fg F T) (sg_fg F S) (fun x hx => by
    obtain ⟨h1, h2⟩ := List.mem_filter.1 hx
    exact List.mem_filter.2 ⟨h1, h x h1 h2⟩)
theorem sz_pos (F : Fg l m e) {p : Nat → Bool} (S : SgB l m e p) : 0 < sz l p := List.length_pos_of_mem (List.mem_filter.2 ⟨F.one, S.one⟩)
theorem sz_one (F : Fg l m e) {p : Nat → Bool} (S : SgB l m e p) : sz l p = 1 ↔ ∀ x, x ∈ l → p x = true → x = e := by
  constructor
  · intro h x hx hp
    obtain ⟨y, hy⟩ := List.length_eq_one_iff.1 h
    have h1 : x ∈ l.filter p := List.mem_filter.2 ⟨hx, hp⟩
    have h2 : e ∈ l.filter p := List.mem_filter.2 ⟨F.one, S.one⟩
    rw [hy, List.mem_singleton] at h1 h2
    rw [h1, h2]
  · intro h
    refine Nat.le_antisymm ?_ (sz_pos F S)
    exact nodup_len (l.filter p) [e] (F.nd.filter _) (fun z hz => by
      obtain ⟨h1, h2⟩ := List.mem_filter.1 hz
      simp [h z h1 h2])

/-- The products of two sets. -/
def prq (l : List Nat) (m : Nat → Nat → Nat) (p q : Nat → Bool) (x : Nat) : Bool := l.any fun a => p a && l.any fun b => q b && decide (m a b = x)
theorem prq_iff {p q : Nat → Bool} {x : Nat} : prq l m p q x = true ↔ ∃ a b, a ∈ l ∧ b ∈ l ∧ p a = true ∧ q b = true ∧ m a b = x := by
  unfold prq
  simp only [List.any_eq_true, Bool.and_eq_true, decide_eq_true_eq]
  exact ⟨fun ⟨a, h1, h2, b, h3, h4, h5⟩ => ⟨a, b, h1, h3, h2, h4, h5⟩, fun ⟨a, b, h1, h3, h2, h4, h5⟩ => ⟨a, h1, h2, b, h3, h4, h5⟩⟩
theorem prq_sg (F : Fg l m e) (V : Iv l m e iv) {p q : Nat → Bool} (S : SgB l m e p) (T : SgB l m e q) (hN : Nb l m iv q p) : SgB l m e (prq l m p q) := by
  refine ⟨prq_iff.2 ⟨e, e, F.one, F.one, S.one, T.one, F.left e F.one⟩, fun x y _ _ hx hy => ?_⟩
  obtain ⟨a, b, ha, hb, h1, h2, rfl⟩ := prq_iff.1 hx
  obtain ⟨c, d, hc, hd, h3, h4, rfl⟩ := prq_iff.1 hy
  have hj := cj_mem F V hb hc
  refine prq_iff.2 ⟨m a c, m (cj m iv b c) d, F.cl _ _ ha hc, F.cl _ _ hj hd, S.mul _ _ ha hc h1 h3, T.mul _ _ hj hd (hN b c hb hc h2 h3) h4, ?_⟩
  rw [F.ass a c _ ha hc (F.cl _ _ hj hd), ← F.ass c _ d hc hj hd, cj_eq F V hb hc, F.ass b c d hb hc hd, F.ass a b _ ha hb (F.cl _ _ hc hd)]
theorem prq_left (F : Fg l m e) {p q : Nat → Bool} (T : SgB l m e q) : In l p (prq l m p q) := fun x hx h => prq_iff.2 ⟨x, e, hx, F.one, h, T.one, F.right x hx⟩
theorem prq_right (F : Fg l m e) {p q : Nat → Bool} (S : SgB l m e p) : In l q (prq l m p q) := fun x hx h => prq_iff.2 ⟨e, x, F.one, hx, S.one, h, F.left x hx⟩
theorem prq_in {p q r : Nat → Bool} (T : SgB l m e r) (h1 : In l p r) (h2 : In l q r) : In l (prq l m p q) r := fun _ _ h => by
  obtain ⟨a, b, ha, hb, h3, h4, rfl⟩ := prq_iff.1 h
  exact T.mul a b ha hb (h1 a ha h3) (h2 b hb h4)
theorem prq_nb (F : Fg l m e) (V : Iv l m e iv) {p q A : Nat → Bool} (h1 : Nb l m iv p A) (h2 : Nb l m iv q A) : Nb l m iv (prq l m p q) A := fun _ c _ hc hx hA => by
  obtain ⟨a, b, ha, hb, h3, h4, rfl⟩ := prq_iff.1 hx
  exact prq_iff.2 ⟨cj m iv a c, cj m iv b c, cj_mem F V ha hc, cj_mem F V hb hc, h1 a c ha hc h3 hA, h2 b c hb hc h4 hA, (cj_mul F V ha hb hc).symm⟩
theorem nb_own (F : Fg l m e) (V : Iv l m e iv) {p : Nat → Bool} (S : SgB l m e p) : Nb l m iv p p := fun _ a hx ha h1 h2 =>
  S.mul _ _ (V a ha).1 (F.cl _ _ hx ha) (S.inv F ha (V a ha).1 (V a ha).2.1 h2) (S.mul _ _ hx ha h1 h2)
theorem Nb.less {p A B : Nat → Bool} (h : Nb l m iv p A) (hB : In l B A) : Nb l m iv p B := fun x a hx ha h1 h2 => h x a hx ha h1 (hB a ha h2)
/-- x, conjugated by c, is x times something that c makes with its conjugates by x. -/
theorem cj_split (F : Fg l m e) (V : Iv l m e iv) {x c : Nat} (hx : x ∈ l) (hc : c ∈ l) : m x (m (cj m iv (iv c) x) c) = cj m iv x c := by
  have hi := (V c hc).1
  have hj := (V x hx).1
  have h1 := cj_mem F V hi hx
  rw [← F.ass x _ c hx h1 hc, cj_eq F V hi hx]
  unfold cj
  rw [F.ass _ x c hi hx hc]

/-- The second one is a greatest normal subgroup of the first one. -/
structure Mxn (l : List Nat) (m : Nat → Nat → Nat) (e : Nat) (iv : Nat → Nat) (A B : Nat → Bool) : Prop where
  sg : SgB l m e B
  sub : In l B A
  nm : Nb l m iv B A
  less : ∃ x, x ∈ l ∧ A x = true ∧ ¬ B x = true
  top : ∀ C : Nat → Bool, SgB l m e C → In l B C → In l C A → Nb l m iv C A → In l C B ∨ In l A C
theorem Mxn.congr {A A' B B' : Nat → Bool} (h : Mxn l m e iv A B) (h1 : ∀ x, x ∈ l → A x = A' x) (h2 : ∀ x, x ∈ l → B x = B' x) (F : Fg l m e) (V : Iv l m e iv) : Mxn l m e iv A' B' where
  sg := ⟨by show B' e = true; rw [← h2 e F.one]; exact h.sg.one, fun a b ha hb h3 h4 => by
    show B' _ = true
    rw [← h2 _ (F.cl _ _ ha hb)]
    exact h.sg.mul a b ha hb (by rw [h2 a ha]; exact h3) (by rw [h2 b hb]; exact h4)⟩
  sub := fun x hx h3 => by rw [← h1 x hx]; exact h.sub x hx (by rw [h2 x hx]; exact h3)
  nm := fun x a hx ha h3 h4 => by rw [← h2 _ (cj_mem F V hx ha)]; exact h.nm x a hx ha (by rw [h2 x hx]; exact h3) (by rw [h1 a ha]; exact h4)
  less := by
    obtain ⟨x, hx, h3, h4⟩ := h.less
    exact ⟨x, hx, by rw [← h1 x hx]; exact h3, by rw [← h2 x hx]; exact h4⟩
  top := fun C hC h3 h4 h5 => by
    rcases h.top C hC (fun x hx h6 => h3 x hx (by rw [← h2 x hx]; exact h6)) (fun x hx h6 => by rw [h1 x hx]; exact h4 x hx h6) (fun x a hx ha h6 h7 => h5 x a hx ha h6 (by rw [← h1 a ha]; exact h7)) with h6 | h6
    · exact .inl fun x hx h7 => by rw [← h2 x hx]; exact h6 x hx h7
    · exact .inr fun x hx h7 => h6 x hx (by rw [h1 x hx]; exact h7)
theorem mxn_over (F : Fg l m e) (V : Iv l m e iv) {A : Nat → Bool} : ∀ (k : Nat) (p : Nat → Bool), SgB l m e p → In l p A → Nb l m iv p A → (∃ x, x ∈ l ∧ A x = true ∧ ¬ p x = true) → sz l A - sz l p ≤ k → ∃ B, Mxn l m e iv A B ∧ In l p B
  | 0, p, _, hin, _, hl, hk => by
    have := sz_lt hin hl
    omega
  | k + 1, p, S, hin, hN, hl, hk => by
    rcases Classical.em (∃ C : Nat → Bool, SgB l m e C ∧ In l p C ∧ In l C A ∧ Nb l m iv C A ∧ (∃ x, x ∈ l ∧ C x = true ∧ ¬ p x = true) ∧ ∃ x, x ∈ l ∧ A x = true ∧ ¬ C x = true) with ⟨C, h1, h2, h3, h4, h5, h6⟩ | hno
    · have h7 := sz_lt h2 h5
      have h8 := sz_lt h3 h6
      obtain ⟨B, h9, h10⟩ := mxn_over F V k C h1 h3 h4 h6 (by omega)
      exact ⟨B, h9, h2.trans h10⟩
    · refine ⟨p, ⟨S, hin, hN, hl, fun C h1 h2 h3 h4 => ?_⟩, In.refl p⟩
      rcases Classical.em (In l C p) with h5 | h5
      · exact .inl h5
      · refine .inr fun x hx hA => Classical.byContradiction fun hn => hno ⟨C, h1, h2, h3, h4, ?_, x, hx, hA, hn⟩
        exact Classical.byContradiction fun h6 => h5 fun y hy hC => Classical.byContradiction fun h7 => h6 ⟨y, hy, hC, h7⟩

/-- A composition series, from the first one on to the one alone. -/
def Cs (l : List Nat) (m : Nat → Nat → Nat) (e : Nat) (iv : Nat → Nat) : (Nat → Bool) → List (Nat → Bool) → Prop
  | A, [] => ∀ x, x ∈ l → A x = true → x = e
  | A, B :: t => Mxn l m e iv A B ∧ Cs l m e iv B t
/-- Its factors. -/
def facs (l : List Nat) : (Nat → Bool) → List (Nat → Bool) → List Nat
  | _, [] => []
  | A, B :: t => sz l A / sz l B :: facs l B t
theorem Cs.congr (F : Fg l m e) (V : Iv l m e iv) {A A' : Nat → Bool} (hA : ∀ x, x ∈ l → A x = A' x) : ∀ {s : List (Nat → Bool)}, Cs l m e iv A s → Cs l m e iv A' s
  | [], h => fun x hx h1 => h x hx (by rw [hA x hx]; exact h1)
  | _ :: _, h => ⟨h.1.congr hA (fun _ _ => rfl) F V, h.2⟩
theorem facs_congr {A A' : Nat → Bool} (h : sz l A = sz l A') : ∀ s, facs l A s = facs l A' s
  | [] => rfl
  | B :: t => by show sz l A / sz l B :: _ = sz l A' / sz l B :: _; rw [h]
theorem one_sgb (F : Fg l m e) : SgB l m e (fun a => decide (a = e)) := ⟨by simp, fun a b _ _ h1 h2 => by
  simp only [decide_eq_true_eq] at h1 h2 ⊢
  rw [h1, h2, F.left e F.one]⟩
theorem cs_exists (F : Fg l m e) (V : Iv l m e iv) : ∀ (k : Nat) (A : Nat → Bool), SgB l m e A → sz l A ≤ k → ∃ s, Cs l m e iv A s
  | 0, A, S, hk => by have := sz_pos F S; omega
  | k + 1, A, S, hk => by
    rcases Classical.em (∀ x, x ∈ l → A x = true → x = e) with h | h
    · exact ⟨[], h⟩
    · obtain ⟨B, hB, _⟩ := mxn_over F V (A := A) (sz l A) (fun a => decide (a = e)) (one_sgb F) (fun x _ hx => by rw [decide_eq_true_eq] at hx; rw [hx]; exact S.one)
        (fun x a _ ha hx _ => by rw [decide_eq_true_eq] at hx; rw [hx, cj_one F V ha]; simp)
        (Classical.byContradiction fun h1 => h fun x hx hA => Classical.byContradiction fun h2 => h1 ⟨x, hx, hA, by simpa using h2⟩) (by omega)
      have h1 := sz_lt hB.sub hB.less
      obtain ⟨s, hs⟩ := cs_exists F V k B hB.sg (by omega)
      exact ⟨B :: s, hB, hs⟩

/-- Two greatest normal subgroups: what both have is one of each. -/
theorem mxn_both (F : Fg l m e) (V : Iv l m e iv) {N : Nat} (hl : ∀ x, x ∈ l → x < N) {A B C : Nat → Bool} (SA : SgB l m e A) (hB : Mxn l m e iv A B) (hC : Mxn l m e iv A C) (hne : ¬ (In l B C ∧ In l C B)) :
    Mxn l m e iv B (fun x => B x && C x) ∧ sz l A * sz l (fun x => B x && C x) = sz l B * sz l C := by
  have hBC : ¬ In l B C := fun h => by
    rcases hB.top C hC.sg h hC.sub hC.nm with h1 | h1
    · exact hne ⟨h, h1⟩
    · obtain ⟨x, hx, h2, h3⟩ := hC.less
      exact h3 (h1 x hx h2)
  have hCB : ¬ In l C B := fun h => by
    rcases hC.top B hB.sg h hB.sub hB.nm with h1 | h1
    · exact hne ⟨h1, h⟩
    · obtain ⟨x, hx, h2, h3⟩ := hB.less
      exact h3 (h1 x hx h2)
  have hall : In l A (prq l m B C) := by
    rcases hB.top _ (prq_sg F V hB.sg hC.sg (hC.nm.less hB.sub)) (prq_left F hC.sg) (prq_in SA hB.sub hC.sub) (prq_nb F V hB.nm hC.nm) with h | h
    · exact absurd ((prq_right F hB.sg).trans h) hCB
    · exact h
  have SD : SgB l m e (fun x => B x && C x) := ⟨by simp [hB.sg.one, hC.sg.one], fun a b ha hb h1 h2 => by
    simp only [Bool.and_eq_true] at h1 h2 ⊢
    exact ⟨hB.sg.mul a b ha hb h1.1 h2.1, hC.sg.mul a b ha hb h1.2 h2.2⟩⟩
  refine ⟨⟨SD, fun x _ h => by simp only [Bool.and_eq_true] at h; exact h.1, fun x a hx ha h1 h2 => ?_, ?_, fun E hE h1 h2 h3 => ?_⟩, ?_⟩
  · simp only [Bool.and_eq_true] at h1 ⊢
    exact ⟨nb_own F V hB.sg x a hx ha h1.1 h2, hC.nm x a hx ha h1.2 (hB.sub a ha h2)⟩
  · exact Classical.byContradiction fun h => hBC fun x hx h1 => Classical.byContradiction fun h2 => h ⟨x, hx, h1, by simp [h1, h2]⟩
  · have hEA := h2.trans hB.sub
    have hnb : Nb l m iv (prq l m E C) A := fun x a hx ha h4 h5 => by
      obtain ⟨y, c, hy, hc, h6, h7, rfl⟩ := prq_iff.1 h4
      obtain ⟨b, d, hb, hd, h8, h9, rfl⟩ := prq_iff.1 (hall a ha h5)
      have hy1 := cj_mem F V hy hb
      have e1 := h3 y b hy hb h6 h8
      have hi := (V d hd).1
      have hk := cj_mem F V hi hy1
      have hCk : C (cj m iv (iv d) (cj m iv y b)) = true := hC.nm _ _ hi hy1 (hC.sg.inv F hd hi (V d hd).2.1 h9) (hEA _ hy1 e1)
      have hcj := cj_mem F V hc ha
      refine prq_iff.2 ⟨cj m iv y b, m (m (cj m iv (iv d) (cj m iv y b)) d) (cj m iv c (m b d)), hy1, F.cl _ _ (F.cl _ _ hk hd) hcj, e1, hC.sg.mul _ _ (F.cl _ _ hk hd) hcj (hC.sg.mul _ _ hk hd hCk h9) (hC.nm c _ hc ha h7 h5), ?_⟩
      rw [← F.ass _ _ _ hy1 (F.cl _ _ hk hd) hcj, cj_split F V hy1 hd, cj_cj F V hy hb hd, ← cj_mul F V hy hc ha]
    rcases hC.top _ (prq_sg F V hE hC.sg (hC.nm.less hEA)) (prq_right F hE) (prq_in SA hEA hC.sub) hnb with h4 | h4
    · refine .inl fun x hx h5 => ?_
      simp only [Bool.and_eq_true]
      exact ⟨h2 x hx h5, h4 x hx (prq_left F hC.sg x hx h5)⟩
    · refine .inr fun x hx h5 => ?_
      obtain ⟨y, c, hy, hc, h6, h7, rfl⟩ := prq_iff.1 (h4 x hx (hB.sub x hx h5))
      have hyi := (V y hy).1
      have hBc : B c = true := by
        have h8 : m (iv y) (m y c) = c := by rw [← F.ass _ _ _ hyi hy hc, (V y hy).2.2, F.left c hc]
        rw [← h8]
        exact hB.sg.mul _ _ hyi hx (hB.sg.inv F hy hyi (V y hy).2.1 (h2 y hy h6)) h5
      exact hE.mul y c hy hc h6 (h1 c hc (by simp [hBc, h7]))
  · have h := prod_formula F hl hB.sg hC.sg (prq l m B C) (fun x _ => prq_iff)
    have h1 : sz l A = sz l (prq l m B C) := sz_same hall (prq_in SA hB.sub hC.sub)
    rw [h1]
    exact h
theorem div_of {a b c d : Nat} (hb : 0 < b) (hd : 0 < d) (h : a * d = b * c) (h1 : d ∣ c) : a / b = c / d := by
  obtain ⟨k, rfl⟩ := h1
  have h2 : a = b * k := Nat.eq_of_mul_eq_mul_right hd (by rw [h, Nat.mul_assoc, Nat.mul_comm k d])
  rw [h2, Nat.mul_div_cancel_left k hb, Nat.mul_div_cancel_left k hd]
/-- THE THEOREM OF JORDAN AND HOELDER (how many things the factors have). -/
theorem jordan (F : Fg l m e) (V : Iv l m e iv) {N : Nat} (hl : ∀ x, x ∈ l → x < N) : ∀ (k : Nat) (A : Nat → Bool) (s t : List (Nat → Bool)), SgB l m e A → sz l A ≤ k → Cs l m e iv A s → Cs l m e iv A t → (facs l A s).Perm (facs l A t)
  | 0, A, _, _, S, hk, _, _ => by have := sz_pos F S; omega
  | k + 1, A, [], [], _, _, _, _ => .refl _
  | k + 1, A, [], B :: _, S, _, h1, h2 => by
    obtain ⟨x, hx, h3, h4⟩ := h2.1.less
    exact absurd (by rw [h1 x hx h3]; exact h2.1.sg.one) h4
  | k + 1, A, B :: _, [], S, _, h2, h1 => by
    obtain ⟨x, hx, h3, h4⟩ := h2.1.less
    exact absurd (by rw [h1 x hx h3]; exact h2.1.sg.one) h4
  | k + 1, A, B :: s, C :: t, S, hk, h1, h2 => by
    have hB := h1.1
    have hC := h2.1
    have lB := sz_lt hB.sub hB.less
    have lC := sz_lt hC.sub hC.less
    rcases Classical.em (In l B C ∧ In l C B) with h | h
    · have e1 : ∀ x, x ∈ l → C x = B x := fun x hx => by
        rw [Bool.eq_iff_iff]
        exact ⟨h.2 x hx, h.1 x hx⟩
      have e2 := sz_same h.1 h.2
      show (sz l A / sz l B :: facs l B s).Perm (sz l A / sz l C :: facs l C t)
      rw [← e2, ← facs_congr e2 t]
      exact (jordan F V hl k B s t hB.sg (by omega) h1.2 (Cs.congr F V e1 h2.2)).cons _
    · obtain ⟨mB, eq⟩ := mxn_both F V hl S hB hC h
      obtain ⟨mC0, _⟩ := mxn_both F V hl S hC hB (fun h3 => h ⟨h3.2, h3.1⟩)
      have mC : Mxn l m e iv C (fun x => B x && C x) := mC0.congr (fun _ _ => rfl) (fun x _ => Bool.and_comm _ _) F V
      obtain ⟨r, hr⟩ := cs_exists F V (sz l fun x => B x && C x) (fun x => B x && C x) mB.sg (Nat.le_refl _)
      have p1 := jordan F V hl k B s (_ :: r) hB.sg (by omega) h1.2 ⟨mB, hr⟩
      have p2 := jordan F V hl k C t (_ :: r) hC.sg (by omega) h2.2 ⟨mC, hr⟩
      have hD := sz_pos F mB.sg
      have e1 : sz l A / sz l B = sz l C / sz l (fun x => B x && C x) := div_of (sz_pos F hB.sg) hD eq (sz_dvd F mC.sg hC.sg mC.sub)
      have e2 : sz l A / sz l C = sz l B / sz l (fun x => B x && C x) := div_of (sz_pos F hC.sg) hD (by rw [eq, Nat.mul_comm]) (sz_dvd F mB.sg hB.sg mB.sub)
      show (sz l A / sz l B :: facs l B s).Perm (sz l A / sz l C :: facs l C t)
      refine ((p1.cons _).trans ?_).trans (p2.cons _).symm
      rw [e1, e2]
      exact List.Perm.swap _ _ _
theorem facs_prod (F : Fg l m e) : ∀ (A : Nat → Bool) (s : List (Nat → Bool)), SgB l m e A → Cs l m e iv A s → (facs l A s).foldl (· * ·) 1 = sz l A
  | A, [], S, h => ((sz_one F S).2 h).symm
  | A, B :: t, S, h => by
    have hp : ∀ (xs : List Nat) (c : Nat), xs.foldl (· * ·) c = c * xs.foldl (· * ·) 1 := by
      intro xs
      induction xs with
      | nil => intro c; simp
      | cons a xs ih => intro c; rw [List.foldl_cons, List.foldl_cons, ih (c * a), ih (1 * a), Nat.one_mul, Nat.mul_assoc]
    show (facs l B t).foldl (· * ·) (1 * (sz l A / sz l B)) = _
    rw [hp, facs_prod F B t h.1.sg h.2, Nat.one_mul]
    exact Nat.div_mul_cancel (sz_dvd F h.1.sg S h.1.sub)
theorem facs_len : ∀ (A : Nat → Bool) (s : List (Nat → Bool)), (facs l A s).length = s.length
  | _, [] => rfl
  | _, _ :: t => by show (_ :: _).length = _; simp [facs_len _ t]
end Go.Proofs.YtjiapicknkjhmaaGreatDoor.Fin

namespace Go.Proofs.YtjiapicknkjhmaaGreatDoor
open Go Go.RowKit

theorem andn_bs (p q : Nat → Bool) {n : Nat} (hn : n ≤ 60) : Go.bits BinOp.andNot IntKind.u64 (bs p n : Int) (bs q n : Int) = (bs (fun a => p a && !q a) n : Int) := by
  have h64 : ∀ r : Nat → Bool, bs r n < 2 ^ 64 := fun r => Nat.lt_of_lt_of_le (bs_64 hn) (by decide)
  have hv : ∀ r : Nat → Bool, (BitVec.ofInt 64 (bs r n : Int)).toNat = bs r n := fun r => by
    rw [BitVec.ofInt_natCast, BitVec.toNat_ofNat]; exact Nat.mod_eq_of_lt (h64 r)
  have hx : (BitVec.ofInt 64 (bs p n : Int) &&& ~~~BitVec.ofInt 64 (bs q n : Int)).toNat = bs (fun a => p a && !q a) n := by
    apply Nat.eq_of_testBit_eq
    intro i
    rw [BitVec.testBit_toNat, BitVec.getLsbD_and, BitVec.getLsbD_not, ← BitVec.testBit_toNat, ← BitVec.testBit_toNat, hv, hv, bs_bit, bs_bit, bs_bit]
    by_cases hi : i < n
    · have : i < 64 := by omega
      simp [hi, this]
    · simp [hi]
  show IntKind.u64.wrap ((BitVec.ofInt 64 (bs p n : Int) &&& ~~~BitVec.ofInt 64 (bs q n : Int)).toNat : Int) = _
  rw [hx, IntKind.wrap_u64]
  have := h64 (fun a => p a && !q a)
  omega
/-- The least subgroup that has a set, and is, conjugated by another one's things, the same. -/
noncomputable def clb (n : Nat) (zs : List Int) (e : Nat) (q r : Nat → Bool) : Nat → Bool := (mkd_ex' n zs e (clx n zs e q (lst n r))).choose
theorem clb_iff (n : Nat) (zs : List Int) (e : Nat) (q r : Nat → Bool) : ∀ a, a < n → (clb n zs e q r a = true ↔ Mkd n zs e (clx n zs e q (lst n r)) a) := (mkd_ex' n zs e (clx n zs e q (lst n r))).choose_spec
/-- With one thing more. -/
def plus (q : Nat → Bool) (a : Nat) : Nat → Bool := fun x => q x || decide (x = a)
/-- Where it goes on from a normal subgroup. -/
noncomputable def grw (n : Nat) (zs : List Int) (e : Nat) (s : Nat → Bool) : Nat → (Nat → Bool) → Nat → Bool
  | 0, q => q
  | k + 1, q => match (lst n fun a => s a && !q a).find? (fun a => decide (bs (clb n zs e (plus q a) s) n ≠ bs s n)) with
    | none => q
    | some a => grw n zs e s k (clb n zs e (plus q a) s)
noncomputable def grt (n : Nat) (zs : List Int) (e : Nat) (s : Nat → Bool) : Nat → Bool := grw n zs e s 60 (fun a => decide (a = e))
section
variable {n e : Nat} {zs : List Int} {s q : Nat → Bool}
theorem clx_iff {n e : Nat} {zs : List Int} {q r : Nat → Bool} {y : Nat} : clx n zs e q (lst n r) y = true ↔ ∃ x a, x < n ∧ a < n ∧ q x = true ∧ r a = true ∧ Fin.cj (tm n zs) (iv n zs e) x a = y := by
  unfold clx
  simp only [List.any_eq_true, mem_lst, cjq_iff, List.mem_range]
  exact ⟨fun ⟨a, ⟨ha, h1⟩, x, hx, h2, h3⟩ => ⟨x, a, hx, ha, h2, h1, h3⟩, fun ⟨x, a, hx, ha, h2, h1, h3⟩ => ⟨a, ⟨ha, h1⟩, x, hx, h2, h3⟩⟩
theorem clb_sg (g : IsGrp n zs e) : Fin.SgB (List.range n) (tm n zs) e (clb n zs e q s) := made_sg g (clb_iff n zs e q s)
theorem clb_has (g : IsGrp n zs e) (hs : s e = true) {x : Nat} (hx : x < n) (h : q x = true) : clb n zs e q s x = true := by
  refine (clb_iff n zs e q s x hx).2 (Fin.Gen.base (List.mem_range.2 hx) (clx_iff.2 ⟨x, e, hx, g.elt, h, hs, ?_⟩))
  exact Fin.cj_id (grp_fg g) (grp_iv g) (List.mem_range.2 hx)
theorem clb_in {r : Nat → Bool} (hr : Fin.SgB (List.range n) (tm n zs) e r) (h1 : ∀ x, x < n → q x = true → r x = true) (h2 : Fin.Nb (List.range n) (tm n zs) (iv n zs e) r s) {x : Nat} (hx : x < n) (h : clb n zs e q s x = true) : r x = true :=
  Fin.Gen.least hr (fun y _ h3 => by
    obtain ⟨z, a, hz, ha, h4, h5, rfl⟩ := clx_iff.1 h3
    exact h2 z a (List.mem_range.2 hz) (List.mem_range.2 ha) (h1 z hz h4) h5) ((clb_iff n zs e q s x hx).1 h)
theorem clb_nb (g : IsGrp n zs e) (hs : Fin.SgB (List.range n) (tm n zs) e s) : Fin.Nb (List.range n) (tm n zs) (iv n zs e) (clb n zs e q s) s := fun x a hx ha h1 h2 => by
  have F := grp_fg g
  have V := grp_iv g
  have hm := Fin.cj_mem F V hx ha
  refine (clb_iff n zs e q s _ (List.mem_range.1 hm)).2 ?_
  have h3 := (clb_iff n zs e q s x (List.mem_range.1 hx)).1 h1
  -- the things whose conjugates by a are made are a subgroup
  refine h3 (fun y => Mkd n zs e (clx n zs e q (lst n s)) (Fin.cj (tm n zs) (iv n zs e) y a)) ⟨?_, fun y z hy hz h4 h5 => ?_⟩ (fun y hy h4 => ?_)
  · show Mkd _ _ _ _ (Fin.cj _ _ _ _)
    rw [Fin.cj_one F V ha]
    exact (Fin.Gen.sg _).one
  · show Mkd _ _ _ _ (Fin.cj _ _ _ _)
    rw [Fin.cj_mul F V hy hz ha]
    exact (Fin.Gen.sg _).mul _ _ (Fin.cj_mem F V hy ha) (Fin.cj_mem F V hz ha) h4 h5
  · obtain ⟨z, b, hz, hb, h5, h6, rfl⟩ := clx_iff.1 h4
    have hb' := List.mem_range.2 hb
    refine Fin.Gen.base (Fin.cj_mem F V hy ha) (clx_iff.2 ⟨z, tm n zs b a, hz, tm_lt g.tab hb (List.mem_range.1 ha), h5, hs.mul b a hb' ha h6 h2, ?_⟩)
    rw [Fin.cj_cj F V (List.mem_range.2 hz) hb' ha]
/-- A normal subgroup of a subgroup that is not all of it. -/
structure Nin (n : Nat) (zs : List Int) (e : Nat) (s q : Nat → Bool) : Prop where
  sg : Fin.SgB (List.range n) (tm n zs) e q
  sub : ∀ x, x < n → q x = true → s x = true
  nb : Fin.Nb (List.range n) (tm n zs) (iv n zs e) q s
theorem Nin.up (g : IsGrp n zs e) (hs : Fin.SgB (List.range n) (tm n zs) e s) (h : Nin n zs e s q) {a : Nat} (ha : s a = true) : Nin n zs e s (clb n zs e (plus q a) s) :=
  ⟨clb_sg g, fun x hx h1 => clb_in hs (fun y hy h2 => by
    unfold plus at h2
    rw [Bool.or_eq_true, decide_eq_true_eq] at h2
    rcases h2 with h2 | rfl
    · exact h.sub y hy h2
    · exact ha) (Fin.nb_own (grp_fg g) (grp_iv g) hs) hx h1, clb_nb g hs⟩
theorem plus_less (g : IsGrp n zs e) (hs : s e = true) {a : Nat} (ha : a < n) (hq : ¬ q a = true) : (lst n q).length < (lst n (clb n zs e (plus q a) s)).length :=
  (lst_less fun x hx h => clb_has g hs hx (by unfold plus; rw [h, Bool.true_or])).2 ⟨a, ha, clb_has g hs ha (by unfold plus; simp), hq⟩
/-- What is found in the end is a greatest one. -/
theorem grw_top (g : IsGrp n zs e) (hs : Fin.SgB (List.range n) (tm n zs) e s) : ∀ (k : Nat) (q : Nat → Bool), Nin n zs e s q → n < (lst n q).length + k → (∃ x, x < n ∧ s x = true ∧ ¬ q x = true) →
    Fin.Mxn (List.range n) (tm n zs) e (iv n zs e) s (grw n zs e s k q)
  | 0, q, _, h, _ => by
    have := lst_len n q
    omega
  | k + 1, q, hq, h, hl => by
    unfold grw
    cases hf : (lst n fun a => s a && !q a).find? (fun a => decide (bs (clb n zs e (plus q a) s) n ≠ bs s n)) with
    | none =>
      rw [List.find?_eq_none] at hf
      show Fin.Mxn (List.range n) (tm n zs) e (iv n zs e) s q
      obtain ⟨x, hx, hx1, hx2⟩ := hl
      refine ⟨hq.sg, fun x hx => hq.sub x (List.mem_range.1 hx), hq.nb, ⟨x, List.mem_range.2 hx, hx1, hx2⟩, fun C hC h1 h2 h3 => ?_⟩
      rcases Classical.em (Fin.In (List.range n) C q) with h4 | h4
      · exact .inl h4
      · refine .inr ?_
        obtain ⟨a, ha, ha1, ha2⟩ : ∃ a, a ∈ List.range n ∧ C a = true ∧ ¬ q a = true := Classical.byContradiction fun h5 => h4 fun y hy hC => Classical.byContradiction fun h6 => h5 ⟨y, hy, hC, h6⟩
        have h5 := hf a (mem_lst.2 ⟨List.mem_range.1 ha, by simp [h2 a ha ha1, ha2]⟩)
        have h5 : bs (clb n zs e (plus q a) s) n = bs s n := by simpa using h5
        intro y hy hy1
        have hy' := List.mem_range.1 hy
        have h6 : clb n zs e (plus q a) s y = true := by rw [bs_inj h5 y hy']; exact hy1
        exact clb_in hC (fun z hz h7 => by
          unfold plus at h7
          rw [Bool.or_eq_true, decide_eq_true_eq] at h7
          rcases h7 with h7 | rfl
          · exact h1 z (List.mem_range.2 hz) h7
          · exact ha1) h3 hy' h6
    | some a =>
      have h1 := List.find?_some hf
      have h2 := mem_lst.1 (List.mem_of_find?_eq_some hf)
      rw [decide_eq_true_eq] at h1
      obtain ⟨ha, h3⟩ := h2
      rw [Bool.and_eq_true] at h3
      have h4 : ¬ q a = true := by have := h3.2; simpa using this
      have hup := hq.up g hs h3.1
      show Fin.Mxn (List.range n) (tm n zs) e (iv n zs e) s (grw n zs e s k (clb n zs e (plus q a) s))
      refine grw_top g hs k _ hup ?_ ?_
      · have := plus_less g hs.one ha h4
        omega
      · exact Classical.byContradiction fun h9 => h1 (bs_ext fun x hx => by
          rw [Bool.eq_iff_iff]
          exact ⟨hup.sub x hx, fun h5 => Classical.byContradiction fun h6 => h9 ⟨x, hx, h5, h6⟩⟩)
theorem nin_one (g : IsGrp n zs e) (hs : Fin.SgB (List.range n) (tm n zs) e s) : Nin n zs e s (fun a => decide (a = e)) :=
  ⟨Fin.one_sgb (grp_fg g), fun x _ h => by rw [decide_eq_true_eq] at h; rw [h]; exact hs.one, fun x a _ ha h _ => by
    rw [decide_eq_true_eq] at h
    rw [h, Fin.cj_one (grp_fg g) (grp_iv g) ha]
    simp⟩
theorem grt_top (g : IsGrp n zs e) (hs : Fin.SgB (List.range n) (tm n zs) e s) (hl : ∃ x, x < n ∧ s x = true ∧ x ≠ e) : Fin.Mxn (List.range n) (tm n zs) e (iv n zs e) s (grt n zs e s) := by
  refine grw_top g hs 60 _ (nin_one g hs) ?_ ?_
  · rw [one_lst g.elt]
    have := g.tab.le
    simp
    omega
  · obtain ⟨x, hx, h1, h2⟩ := hl
    exact ⟨x, hx, h1, by simpa using h2⟩
/-- Of the one alone it is that. -/
theorem grt_one (hs : Fin.SgB (List.range n) (tm n zs) e s) (hl : ∀ x, x < n → s x = true → x = e) : bs (grt n zs e s) n = bs s n := by
  have h1 : grt n zs e s = fun a => decide (a = e) := by
    unfold grt grw
    rw [show (lst n fun a => s a && !decide (a = e)) = [] by
      refine List.eq_nil_iff_forall_not_mem.2 fun a ha => ?_
      obtain ⟨h2, h3⟩ := mem_lst.1 ha
      rw [Bool.and_eq_true] at h3
      rw [hl a h2 h3.1] at h3
      simp at h3]
    rfl
  rw [h1]
  refine bs_ext fun x hx => ?_
  rw [Bool.eq_iff_iff, decide_eq_true_eq]
  exact ⟨fun h => by rw [h]; exact hs.one, hl x hx⟩
end
end Go.Proofs.YtjiapicknkjhmaaGreatDoor

namespace Go.Proofs.YtjiapicknkjhmaaGreatDoor
open Go Go.RowKit

end Go.Proofs.YtjiapicknkjhmaaGreatDoor

namespace Go.Proofs.YtjiapicknkjhmaaGreatDoor
open Go Go.RowKit Go.Maps

theorem und89 : Tryz.prog.underlying 75 = some (.map 3 3) := by kernel_rfl
set_option maxRecDepth 100000 in
set_option maxHeartbeats 8000000 in
theorem numbers_ok (v : Value) (ls : List (List Int)) (w : World) (hv : SlL w v ls) (hn : ls.length ≤ 60) (hl : ∀ t, t < ls.length → (ls[t]?.getD []).length ≤ 60)
    (hr : ∀ (t : Nat) (a : Int), a ∈ ls[t]?.getD [] → 0 ≤ a ∧ a < 60) (hd : ∀ (s t : Nat) (a : Int), a ∈ ls[s]?.getD [] → a ∈ ls[t]?.getD [] → s = t) :
    Calls Tryz.prog 47 #[v] w fun x w' => ∃ D, x = .returned (.map (some w.heap.size)) ∧ w'.ownsMap Tryz.prog 3 (plainElem Tryz.prog 3) w.heap.size 3600 D ∧ MLs ls ls.length 0 D ∧ Below w.heap.size w w' := by
  obtain ⟨va, vc, vb, vo, rfl, v1, v2, v3, v4, v5⟩ := hv
  have HV := hide v2
  have HV1 := hide v1
  have HL := hide hl
  have HR := hide hr
  have HD := hide hd
  clear v1 v2 v5 hl hr hd
  have hmm := @run_makeMap Tryz.prog
  go_enter Tryz.func47, Tryz.ntmps47
  go_wp2
  clear hmm
  go_loopw [11] (fun i wr => ∃ (j c : Nat) (D : DataW Unit), j ≤ ls.length ∧ i = .int .i64 j ∧ wr.ownsMap Tryz.prog 3 (plainElem Tryz.prog 3) w.heap.size c D ∧ c ≤ j * 60 ∧ MLs ls j 0 D ∧ Below w.heap.size w wr) (fun i _ => ls.length - (intOf i).toNat)
  case atStart => exact ⟨0, 0, .map [], Nat.zero_le _, rfl, World.ownsMap_made _ _ _ _, Nat.le_refl _, ⟨fun t ht => by omega, fun a ha => by simp at ha⟩, balloc w _⟩
  case round =>
    obtain ⟨j, c, D, hj, rfl, hmap, hc, hM, hB⟩ := hrel
    by_cases hlt : j < ls.length
    · have hji : (j : Int) < (ls.length : Int) := by omega
      obtain rfl := HV1.out (by omega)
      obtain ⟨y, cy, hy⟩ := HV.out j hlt
      have hll := HL.out j hlt
      have cy := below_cell hB cy
      have HD' := hide (fun (D' : DataW Unit) (k : Nat) (h : MLs ls j k D') (hm : IsMap D') (hk : k < (ls[j]?.getD []).length) => h.step hm HD.out hk)
      have HE := hide (fun (D' : DataW Unit) (h : MLs ls j (ls[j]?.getD []).length D') => h.done)
      have HRR := hide (fun a (h : a ∈ ls[j]?.getD []) => HR.out j a h)
      obtain ⟨ya, ycap, yb, yo, rfl, hyr, hyb, _, _⟩ := hy
      generalize hlj : ls[j]?.getD [] = lj at *
      have HLJ := hide hlj
      clear hlj
      have HY := hide hyr
      clear hyr
      have hcap : lj.length ≤ 60 := hll
      go_wp2
      go_loopw [18] (fun i wi => ∃ (k c : Nat) (D : DataW Unit), k ≤ lj.length ∧ i = .int .i64 k ∧ wi.ownsMap Tryz.prog 3 (plainElem Tryz.prog 3) w.heap.size c D ∧ c ≤ j * 60 + k ∧ MLs ls j k D ∧ Below w.heap.size w wi) (fun i _ => lj.length - (intOf i).toNat)
      case atStart => exact ⟨0, c, D, Nat.zero_le _, rfl, hmap, by omega, hM, hB⟩
      case round =>
        obtain ⟨k, c2, D2, hk, rfl, hmap2, hc2, hM2, hB2⟩ := hrel
        have hY2 := HY.out.below hB2 hyb
        by_cases hlt2 : k < lj.length
        · have hki : (k : Int) < (lj.length : Int) := by omega
          obtain rfl := hY2.at_ (by omega)
          have hcx := hY2.cell k hlt2
          obtain ⟨hx0, hx1⟩ := HRR.out (lj[k]?.getD 0) (by simp [hlt2])
          have HST := hide (HD'.out D2 k hM2 (map_is hmap2) hlt2)
          generalize lj[k]?.getD 0 = x at *
          have hkw : (Lit.int .i64 x).wf = true := WalkArith.wf_i64 (by omega)
          have hkey := keyOf_int_mk und3' hkw
          go_wp2_with (first
            | (at_mapUpdate; refine wpList_mapUpdate_own _ rfl _ _ _ 75 rfl 3 3 law3 und89 _ w.heap.size _ D2 rfl hmap2 (by unfold maxLen; omega) _ _ _ rfl rfl hkey _ [] (plainElem_int und3' (WalkArith.wf_i64 (by omega))) ?_; intro w2 hmap3 hgrow2))
          have hB3 := hB2.grown hgrow2 hB2.size (fun k hk => by cases hk; exact Nat.le_refl _)
          go_roundw
          case rel => exact ⟨k + 1, c2 + 1, _, by omega, by go_num, hmap3, by omega, HST.out, hB3⟩
          case measure => simp [intOf]; omega
        · have hki : ¬ (k : Int) < (lj.length : Int) := by omega
          have hke : k = lj.length := by omega
          have HEN := hide (HE.out D2 (by rw [← hke]; exact hM2))
          clear hke
          go_wp2
          go_roundw
          case rel => exact ⟨j + 1, c2, D2, by omega, by go_num, hmap2, by omega, HEN.out, hB2⟩
          case measure => simp [intOf]; omega
    · have hji : ¬ (j : Int) < (ls.length : Int) := by omega
      have hje : j = ls.length := by omega
      have HM := hide (show MLs ls ls.length 0 D by rw [← hje]; exact hM)
      clear hje
      go_wp2
      go_ret
      exact ⟨rfl, D, map_le hmap (by omega), HM.out, hB⟩
theorem look_int {D : DataW Unit} {W : World} {mb c : Nat} {x q : Nat} (h : W.ownsMap Tryz.prog 3 (plainElem Tryz.prog 3) mb c D) (hx : x < 60) (hN : D.atKey (.int .i64 (x : Nat)) (.lit (.int .i64 0)) = .lit (.int .i64 (q : Nat))) :
    (Instr.lookup 75 (.map (some mb)) (.int .i64 (x : Nat)) false).run Tryz.prog W = .ok (.int .i64 (q : Nat)) W := by
  have hkw : (Lit.int .i64 (x : Nat)).wf = true := WalkArith.wf_i64 (by omega)
  obtain ⟨c, h1, h2, _⟩ := h.lookup_int law3 und89 und3' (zero3 _) (keyOf_int_mk und3' hkw)
  rw [hN] at h2
  cases h2
  exact h1
set_option maxRecDepth 100000 in
set_option maxHeartbeats 8000000 in
theorem group_ok (n K : Nat) (v lv : Value) (zs : List Int) (ls : List (List Int)) (hs : Nat → Nat) (F : Nat → Nat → Nat) (mb c : Nat) (D : DataW Unit) (w : World) (ht : IsTab n zs) (hv : Sl w v zs) (hL : SlL w lv ls) (hK : ls.length = K) (hK6 : K ≤ 60)
    (hh : ∀ i, i < K → ∃ t, ls[i]?.getD [] = (hs i : Int) :: t ∧ hs i < n) (hmap : w.ownsMap Tryz.prog 3 (plainElem Tryz.prog 3) mb c D)
    (hF : ∀ i j, i < K → j < K → D.atKey (.int .i64 (tm n zs (hs i) (hs j) : Nat)) (.lit (.int .i64 0)) = .lit (.int .i64 (F i j : Nat))) (hF6 : ∀ i j, i < K → j < K → F i j ≤ 60) :
    Calls Tryz.prog 46 #[.agg #[.int .i64 n, v], lv, .map (some mb)] w fun x w' => ∃ r, x = .returned (.agg #[.int .i64 K, r]) ∧ Row w' w.heap.size r (mkT K F) ∧ Below w.heap.size w w' := by
  obtain ⟨i0, hi, hz0, hz1, hz2⟩ := info_parts info3b
  obtain ⟨va, vl, vc, rfl⟩ := hv.isSlice
  obtain ⟨la, lc, lb, lo, rfl, l1, l2, l3, l4, l5⟩ := hL
  obtain ⟨T, hT⟩ : ∃ T, T = mkT K F := ⟨_, rfl⟩
  have HTL := hide (show T.length = K * K by rw [hT]; exact mkT_len K F)
  have HTG := hide (fun a b (ha : a < K) (hb : b < K) => show T[a * K + b]?.getD 0 = (F a b : Int) by
    obtain ⟨e1, e2⟩ := dm' (a := a) hb
    rw [hT, mkT_get (place_lt ha hb), e1, e2])
  rw [← hT]
  clear hT
  rw [hK] at *
  have HL1 := hide l1
  have HL2 := hide l2
  have HH := hide hh
  have HF := hide hF
  have HF6 := hide hF6
  have HMP := hide hmap
  have HV := hide hv
  have hn := ht.le
  clear l1 l2 l5 hh hF hF6 hmap hK hv
  obtain ⟨w0, hw0⟩ : ∃ w0, w0 = ((w.alloc (.cells #[.int .i64 n, .slice va vl vc] 24)).alloc (.cells #[.int .i64 0, .slice none 0 0] 24)).alloc (.cells #[.int .i64 K, .slice none 0 0] 24) := ⟨_, rfl⟩
  have hB0 : Below w.heap.size w w0 := by rw [hw0]; exact ((balloc w _).alloc (by simp) _).alloc (by simp; omega) _
  have hG0 : BoxG w0 w.heap.size n (.slice va vl vc) := by rw [hw0]; exact ((blk0 (w := w) (T := 24) _ _).alloc _).alloc _
  have hR0 : Blk w0 (w.heap.size + 1) 24 [.int .i64 0, .slice none 0 0] := by
    have := (blk0 (w := w.alloc (.cells #[.int .i64 n, .slice va vl vc] 24)) (T := 24) (.int .i64 0) (.slice none 0 0)).alloc (.cells #[.int .i64 K, .slice none 0 0] 24)
    rw [World.size_alloc] at this
    rw [hw0]; exact this
  have hX0 : Blk w0 (w.heap.size + 1 + 1) 24 [.int .i64 K, .slice none 0 0] := by
    have := blk0 (w := (w.alloc (.cells #[.int .i64 n, .slice va vl vc] 24)).alloc (.cells #[.int .i64 0, .slice none 0 0] 24)) (T := 24) (.int .i64 K) (.slice none 0 0)
    rw [World.size_alloc, World.size_alloc] at this
    rw [hw0]; exact this
  go_enter Tryz.func46, Tryz.ntmps46
  go_wp2
  rw [← hw0]
  clear hw0
  go_loopw [17] (fun i wr => ∃ (a : Nat) (r : Value), a ≤ K ∧ i = .int .i64 a ∧ Row wr (w.heap.size + 1 + 1 + 1) r (T.take (a * K)) ∧ BoxG wr w.heap.size n (.slice va vl vc) ∧ Blk wr (w.heap.size + 1) 24 [.int .i64 0, .slice none 0 0] ∧ Blk wr (w.heap.size + 1 + 1) 24 [.int .i64 K, r] ∧ Below w.heap.size w wr) (fun i _ => K - (intOf i).toNat)
  case atStart => exact ⟨0, .slice none 0 0, by omega, rfl, by simpa using nil_row _ _, hG0, hR0, hX0, hB0⟩
  case round =>
    obtain ⟨a, r, ha, rfl, hrow, hG, hR, hX, hB⟩ := hrel
    clear hR0 hX0 hB0 hG0
    by_cases hlta : a < K
    · have hai : (a : Int) < (K : Int) := by omega
      obtain rfl := HL1.out (by omega)
      obtain ⟨ya, cya, hya⟩ := HL2.out a hlta
      obtain ⟨ta, hta, hna⟩ := HH.out a hlta
      have cya := below_cell hB cya
      rw [hta] at hya
      obtain ⟨y1, y2, yb, yo, rfl, hyr, hyb, hyc, hym⟩ := hya
      have hyl : ((hs a : Int) :: ta).length = ta.length + 1 := rfl
      have hcx := hyr.cell 0 (by rw [hyl]; omega)
      rw [show ((hs a : Int) :: ta)[0]?.getD 0 = (hs a : Int) from rfl, Nat.add_zero] at hcx
      obtain rfl := hyr.at_ (by rw [hyl]; omega)
      rw [hyl] at cya hyc
      have hta9 : ta.length + 1 ≤ 9223372036854775807 := by unfold maxLen at hym; omega
      have HCX := hide hcx
      clear hyr hym hta hcx hyl
      go_wp2
      go_loopw [23] (fun i wr => ∃ (b : Nat) (r : Value), b ≤ K ∧ i = .int .i64 b ∧ Row wr (w.heap.size + 1 + 1 + 1) r (T.take (a * K + b)) ∧ BoxG wr w.heap.size n (.slice va vl vc) ∧ Blk wr (w.heap.size + 1) 24 [.int .i64 0, .slice none 0 0] ∧ Blk wr (w.heap.size + 1 + 1) 24 [.int .i64 K, r] ∧ Below w.heap.size w wr) (fun i _ => K - (intOf i).toNat)
      case atStart => exact ⟨0, r, by omega, rfl, hrow, hG, hR, hX, hB⟩
      case round =>
        obtain ⟨b, r', hb, rfl, hrow', hG', hR', hX', hB'⟩ := hrel
        clear hrow hG hR hX hB
        by_cases hltb : b < K
        · have hbi : (b : Int) < (K : Int) := by omega
          obtain ⟨yb9, cyb, hyb9⟩ := HL2.out b hltb
          obtain ⟨tb, htb, hnb⟩ := HH.out b hltb
          have cyb := below_cell hB' cyb
          rw [htb] at hyb9
          obtain ⟨z1, z2, zb, zo, rfl, hzr, hzb, hzc, hzm⟩ := hyb9
          have hzl : ((hs b : Int) :: tb).length = tb.length + 1 := rfl
          have hcz := hzr.cell 0 (by rw [hzl]; omega)
          rw [show ((hs b : Int) :: tb)[0]?.getD 0 = (hs b : Int) from rfl, Nat.add_zero] at hcz
          obtain rfl := hzr.at_ (by rw [hzl]; omega)
          rw [hzl] at cyb hzc
          have htb9 : tb.length + 1 ≤ 9223372036854775807 := by unfold maxLen at hzm; omega
          have HCZ := hide hcz
          clear hcz
          have HVL := hide (HTG.out a b hlta hltb)
          have hpl := place_lt hlta hltb
          have hlen : (T.take (a * K + b)).length = a * K + b := by rw [List.length_take, HTL.out]; omega
          have HSN := hide (show T.take (a * K + (b + 1)) = T.take (a * K + b) ++ [(F a b : Int)] by
            rw [← Nat.add_assoc, take_snoc' (by rw [HTL.out]; exact hpl), HVL.out])
          have hKK : K * K ≤ 3600 := Nat.mul_le_mul hK6 hK6
          have HLL := hide (show (T.take (a * K + b)).length ≤ 3600 by rw [hlen]; omega)
          have hown : wr.ownsRow (w.heap.size + 1 + 1 + 1) 3 1 r' (T.take (a * K + b)).length ((T.take (a * K + b)).map (Value.int .i64)) := hrow'
          have hp : hs a * n + hs b < n * n := place_lt hna hnb
          have hcm : wr.cell? ⟨w.heap.size, 0, none⟩ = some (.int .i64 n) := hG'.two.1
          have hcv : wr.cell? ⟨w.heap.size, 1, none⟩ = some (.slice va vl vc) := hG'.two.2.1
          obtain ⟨xa, xc, xb, xo, hve, hxr, hxb, _, hxm⟩ := HV.out
          injection hve with e1 e2 e3
          subst e1 e2 e3
          have hzn : zs.length = n * n := ht.len
          have hcc := hxr.cell (hs a * n + hs b) (by rw [hzn]; exact hp)
          obtain rfl := hxr.at_ (by rw [hzn]; omega)
          obtain ⟨h9a, h9b⟩ := ht.rng _ hp
          have hce : zs[hs a * n + hs b]?.getD 0 = (tm n zs (hs a) (hs b) : Int) := by unfold tm; omega
          rw [hce] at hcc
          have hq6 := HF6.out a b hlta hltb
          have hd6 : tm n zs (hs a) (hs b) < 60 := by
            have := tm_lt ht hna hnb
            omega
          have HOL := hide (fun (W : World) (h : Below w.heap.size w W) => look_int (W := W) (HMP.out.kept (below_grown h none) (by simp)) hd6 (HF.out a b hlta hltb))
          generalize tm n zs (hs a) (hs b) = d9 at *
          generalize F a b = q9 at *
          have hpi : (hs a : Int) * (n : Int) + (hs b : Int) = ((hs a * n + hs b : Nat) : Int) := by rw [Int.natCast_add, Int.natCast_mul]
          have hpz : ((hs a * n + hs b : Nat) : Int) < (zs.length : Int) := by rw [hzn]; omega
          have hxm9 : zs.length ≤ 9223372036854775807 := by unfold maxLen at hxm; omega
          have hmu : IntKind.i64.wrap ((hs a : Int) * (n : Int)) = (hs a : Int) * (n : Int) := by
            have h1 : hs a * n ≤ 60 * 60 := Nat.mul_le_mul (Nat.le_of_lt (Nat.lt_of_lt_of_le hna hn)) hn
            rw [IntKind.wrap_i64, ← Int.natCast_mul]
            omega
          have hwp : IntKind.i64.wrap ((hs a * n + hs b : Nat) : Int) = ((hs a * n + hs b : Nat) : Int) := by
            have h1 : n * n ≤ 60 * 60 := Nat.mul_le_mul hn hn
            rw [IntKind.wrap_i64]
            omega
          clear hzn hp
          clear hlen hrow' HVL hxr hzr hzm hzl htb hce h9a h9b hxm
          generalize T.take (a * K + b) = xs at *
          generalize hs a * n + hs b = p9 at *
          have HS := hide (fun (W : World) (h : Below w.heap.size w W) (hG : BoxG W w.heap.size n (.slice (some ⟨xb, xo, none⟩) zs.length vc)) => show (Below w.heap.size w W ∧ W.cell? ⟨w.heap.size, 0, none⟩ = some (.int .i64 n) ∧ W.cell? ⟨w.heap.size, 1, none⟩ = some (.slice (some ⟨xb, xo, none⟩) zs.length vc) ∧ W.cell? ⟨yb, yo, none⟩ = some (.int .i64 (hs a : Int)) ∧ W.cell? ⟨zb, zo, none⟩ = some (.int .i64 (hs b : Int)) ∧ W.cell? ⟨xb, xo + p9, none⟩ = some (.int .i64 (d9 : Int)) ∧ Sem.run Tryz.prog (Instr.lookup 75 (.map (some mb)) (.int .i64 (d9 : Int)) false) W = .ok (.int .i64 (q9 : Int)) W) from ⟨h, hG.two.1, hG.two.2.1, below_cell h HCX.out, below_cell h HCZ.out, below_cell h hcc, HOL.out W h⟩)
          clear hcc HOL
          obtain ⟨rx, rcap, rfl⟩ := own_slice hown
          obtain ⟨x0, x1, fx0, fx1⟩ := hX'.two
          have hs2 := hX'.lt
          go_wp2_with fail
          have hS9 : (fun W => Below w.heap.size w W ∧ W.cell? ⟨w.heap.size, 0, none⟩ = some (.int .i64 n) ∧ W.cell? ⟨w.heap.size, 1, none⟩ = some (.slice (some ⟨xb, xo, none⟩) zs.length vc) ∧ W.cell? ⟨yb, yo, none⟩ = some (.int .i64 (hs a : Int)) ∧ W.cell? ⟨zb, zo, none⟩ = some (.int .i64 (hs b : Int)) ∧ W.cell? ⟨xb, xo + p9, none⟩ = some (.int .i64 (d9 : Int)) ∧ Sem.run Tryz.prog (Instr.lookup 75 (.map (some mb)) (.int .i64 (d9 : Int)) false) W = .ok (.int .i64 (q9 : Int)) W) wr.drew := HS.out _ (bdrew hB') hG'
          refine wp_region_held_drew (S := (fun W => Below w.heap.size w W ∧ W.cell? ⟨w.heap.size, 0, none⟩ = some (.int .i64 n) ∧ W.cell? ⟨w.heap.size, 1, none⟩ = some (.slice (some ⟨xb, xo, none⟩) zs.length vc) ∧ W.cell? ⟨yb, yo, none⟩ = some (.int .i64 (hs a : Int)) ∧ W.cell? ⟨zb, zo, none⟩ = some (.int .i64 (hs b : Int)) ∧ W.cell? ⟨xb, xo + p9, none⟩ = some (.int .i64 (d9 : Int)) ∧ Sem.run Tryz.prog (Instr.lookup 75 (.map (some mb)) (.int .i64 (d9 : Int)) false) W = .ok (.int .i64 (q9 : Int)) W)) (by kernel_rfl) hS9 (fun hHeld => ?_)
          refine wpAnyH_take (i := 0) (oi := ({ dst := some 27, op := Go.Op.fieldAddr 24 (Go.Operand.tmp 7) 1, type := 0, pos := _, after := #[], guard := none } : Oper)) (v := ?_) rfl (by kernel_rfl) (by kernel_rfl) (by kernel_rfl) (fun _ _ _ h => h) (Or.inl ⟨by rfl, ?_⟩) (by assumption) ?_
          rotate_left
          · (intro w hSw; (try dsimp only at hSw); go_simp; try with_reducible rfl)
          simp only [Act.put, List.setIfInBounds_toArray, List.set_cons_zero, List.set_cons_succ]
          refine wpAnyH_take (i := 2) (oi := ({ dst := some 29, op := Go.Op.move (Go.Operand.tmp 2), type := 75, pos := _, after := #[], guard := none } : Oper)) (v := ?_) rfl (by kernel_rfl) (by kernel_rfl) (by kernel_rfl) (fun _ _ _ h => h) (Or.inl ⟨by rfl, ?_⟩) (by assumption) ?_
          rotate_left
          · (intro w hSw; (try dsimp only at hSw); go_simp; try with_reducible rfl)
          simp only [Act.put, List.setIfInBounds_toArray, List.set_cons_zero, List.set_cons_succ]
          refine wpAnyH_take (i := 3) (oi := ({ dst := some 30, op := Go.Op.fieldAddr 24 (Go.Operand.tmp 3) 1, type := 0, pos := _, after := #[], guard := none } : Oper)) (v := ?_) rfl (by kernel_rfl) (by kernel_rfl) (by kernel_rfl) (fun _ _ _ h => h) (Or.inl ⟨by rfl, ?_⟩) (by assumption) ?_
          rotate_left
          · (intro w hSw; (try dsimp only at hSw); go_simp; try with_reducible rfl)
          simp only [Act.put, List.setIfInBounds_toArray, List.set_cons_zero, List.set_cons_succ]
          refine wpAnyH_take (i := 4) (oi := ({ dst := some 31, op := Go.Op.load 22 (Go.Operand.tmp 30), type := 22, pos := _, after := #[{ on := 3, ground := Go.Ground.data }], guard := none } : Oper)) (v := ?_) rfl (by kernel_rfl) (by kernel_rfl) (by kernel_rfl) (fun _ _ _ h => h) (Or.inl ⟨by rfl, ?_⟩) (by assumption) ?_
          rotate_left
          · (intro w hSw; (try dsimp only at hSw); go_simp; try with_reducible rfl)
          simp only [Act.put, List.setIfInBounds_toArray, List.set_cons_zero, List.set_cons_succ]
          refine wpAnyH_take (i := 5) (oi := ({ dst := some 32, op := Go.Op.move (Go.Operand.tmp 9), type := 22, pos := _, after := #[], guard := none } : Oper)) (v := ?_) rfl (by kernel_rfl) (by kernel_rfl) (by kernel_rfl) (fun _ _ _ h => h) (Or.inl ⟨by rfl, ?_⟩) (by assumption) ?_
          rotate_left
          · (intro w hSw; (try dsimp only at hSw); go_simp; try with_reducible rfl)
          simp only [Act.put, List.setIfInBounds_toArray, List.set_cons_zero, List.set_cons_succ]
          refine wpAnyH_take (i := 6) (oi := ({ dst := some 33, op := Go.Op.indexAddr 22 (Go.Operand.tmp 32) (Go.Operand.const (Go.Value.int Go.IntKind.i64 0)), type := 0, pos := _, after := #[{ on := 5, ground := Go.Ground.data }], guard := none } : Oper)) (v := ?_) rfl (by kernel_rfl) (by kernel_rfl) (by kernel_rfl) (fun _ _ _ h => h) (Or.inl ⟨by rfl, ?_⟩) (by assumption) ?_
          rotate_left
          · (intro w hSw; (try dsimp only at hSw); go_simp; try with_reducible rfl)
          simp only [Act.put, List.setIfInBounds_toArray, List.set_cons_zero, List.set_cons_succ]
          refine wpAnyH_take (i := 7) (oi := ({ dst := some 34, op := Go.Op.load 3 (Go.Operand.tmp 33), type := 3, pos := _, after := #[{ on := 6, ground := Go.Ground.data }], guard := none } : Oper)) (v := ?_) rfl (by kernel_rfl) (by kernel_rfl) (by kernel_rfl) (fun _ _ _ h => h) (Or.inl ⟨by rfl, ?_⟩) (by assumption) ?_
          rotate_left
          · (intro w hSw; (try dsimp only at hSw); go_simp; try with_reducible rfl)
          simp only [Act.put, List.setIfInBounds_toArray, List.set_cons_zero, List.set_cons_succ]
          refine wpAnyH_take (i := 8) (oi := ({ dst := some 35, op := Go.Op.fieldAddr 24 (Go.Operand.tmp 3) 0, type := 0, pos := _, after := #[], guard := none } : Oper)) (v := ?_) rfl (by kernel_rfl) (by kernel_rfl) (by kernel_rfl) (fun _ _ _ h => h) (Or.inl ⟨by rfl, ?_⟩) (by assumption) ?_
          rotate_left
          · (intro w hSw; (try dsimp only at hSw); go_simp; try with_reducible rfl)
          simp only [Act.put, List.setIfInBounds_toArray, List.set_cons_zero, List.set_cons_succ]
          refine wpAnyH_take (i := 9) (oi := ({ dst := some 36, op := Go.Op.load 3 (Go.Operand.tmp 35), type := 3, pos := _, after := #[{ on := 8, ground := Go.Ground.data }], guard := none } : Oper)) (v := ?_) rfl (by kernel_rfl) (by kernel_rfl) (by kernel_rfl) (fun _ _ _ h => h) (Or.inl ⟨by rfl, ?_⟩) (by assumption) ?_
          rotate_left
          · (intro w hSw; (try dsimp only at hSw); go_simp; try with_reducible rfl)
          simp only [Act.put, List.setIfInBounds_toArray, List.set_cons_zero, List.set_cons_succ]
          refine wpAnyH_take (i := 10) (oi := ({ dst := some 37, op := Go.Op.binOp Go.BinOp.mul 3 (Go.Operand.tmp 34) (Go.Operand.tmp 36) 3, type := 3, pos := _, after := #[{ on := 7, ground := Go.Ground.data }, { on := 9, ground := Go.Ground.data }], guard := none } : Oper)) (v := ?_) rfl (by kernel_rfl) (by kernel_rfl) (by kernel_rfl) (fun _ _ _ h => h) (Or.inl ⟨by rfl, ?_⟩) (by assumption) ?_
          rotate_left
          · (intro w hSw; (try dsimp only at hSw); go_simp; try with_reducible rfl)
          simp only [Act.put, List.setIfInBounds_toArray, List.set_cons_zero, List.set_cons_succ]
          refine wpAnyH_take (i := 11) (oi := ({ dst := some 38, op := Go.Op.move (Go.Operand.tmp 11), type := 22, pos := _, after := #[], guard := none } : Oper)) (v := ?_) rfl (by kernel_rfl) (by kernel_rfl) (by kernel_rfl) (fun _ _ _ h => h) (Or.inl ⟨by rfl, ?_⟩) (by assumption) ?_
          rotate_left
          · (intro w hSw; (try dsimp only at hSw); go_simp; try with_reducible rfl)
          simp only [Act.put, List.setIfInBounds_toArray, List.set_cons_zero, List.set_cons_succ]
          refine wpAnyH_take (i := 12) (oi := ({ dst := some 39, op := Go.Op.indexAddr 22 (Go.Operand.tmp 38) (Go.Operand.const (Go.Value.int Go.IntKind.i64 0)), type := 0, pos := _, after := #[{ on := 11, ground := Go.Ground.data }], guard := none } : Oper)) (v := ?_) rfl (by kernel_rfl) (by kernel_rfl) (by kernel_rfl) (fun _ _ _ h => h) (Or.inl ⟨by rfl, ?_⟩) (by assumption) ?_
          rotate_left
          · (intro w hSw; (try dsimp only at hSw); go_simp; try with_reducible rfl)
          simp only [Act.put, List.setIfInBounds_toArray, List.set_cons_zero, List.set_cons_succ]
          refine wpAnyH_take (i := 13) (oi := ({ dst := some 40, op := Go.Op.load 3 (Go.Operand.tmp 39), type := 3, pos := _, after := #[{ on := 12, ground := Go.Ground.data }], guard := none } : Oper)) (v := ?_) rfl (by kernel_rfl) (by kernel_rfl) (by kernel_rfl) (fun _ _ _ h => h) (Or.inl ⟨by rfl, ?_⟩) (by assumption) ?_
          rotate_left
          · (intro w hSw; (try dsimp only at hSw); go_simp; try with_reducible rfl)
          simp only [Act.put, List.setIfInBounds_toArray, List.set_cons_zero, List.set_cons_succ]
          refine wpAnyH_take (i := 14) (oi := ({ dst := some 41, op := Go.Op.binOp Go.BinOp.add 3 (Go.Operand.tmp 37) (Go.Operand.tmp 40) 3, type := 3, pos := _, after := #[{ on := 10, ground := Go.Ground.data }, { on := 13, ground := Go.Ground.data }], guard := none } : Oper)) (v := ?_) rfl (by kernel_rfl) (by kernel_rfl) (by kernel_rfl) (fun _ _ _ h => h) (Or.inl ⟨by rfl, ?_⟩) (by assumption) ?_
          rotate_left
          · (intro w hSw; (try dsimp only at hSw); go_simp; try with_reducible rfl)
          simp only [Act.put, List.setIfInBounds_toArray, List.set_cons_zero, List.set_cons_succ]
          refine wpAnyH_take (i := 15) (oi := ({ dst := some 42, op := Go.Op.indexAddr 22 (Go.Operand.tmp 31) (Go.Operand.tmp 41), type := 0, pos := _, after := #[{ on := 4, ground := Go.Ground.data }, { on := 14, ground := Go.Ground.data }], guard := none } : Oper)) (v := ?_) rfl (by kernel_rfl) (by kernel_rfl) (by kernel_rfl) (fun _ _ _ h => h) (Or.inl ⟨by rfl, ?_⟩) (by assumption) ?_
          rotate_left
          · (intro w hSw; (try dsimp only at hSw); go_simp; try with_reducible rfl)
          simp only [Act.put, List.setIfInBounds_toArray, List.set_cons_zero, List.set_cons_succ]
          refine wpAnyH_take (i := 16) (oi := ({ dst := some 43, op := Go.Op.load 3 (Go.Operand.tmp 42), type := 3, pos := _, after := #[{ on := 15, ground := Go.Ground.data }], guard := none } : Oper)) (v := ?_) rfl (by kernel_rfl) (by kernel_rfl) (by kernel_rfl) (fun _ _ _ h => h) (Or.inl ⟨by rfl, ?_⟩) (by assumption) ?_
          rotate_left
          · (intro w hSw; (try dsimp only at hSw); go_simp; try with_reducible rfl)
          simp only [Act.put, List.setIfInBounds_toArray, List.set_cons_zero, List.set_cons_succ]
          refine wpAnyH_take (i := 17) (oi := ({ dst := some 44, op := Go.Op.lookup 75 (Go.Operand.tmp 29) (Go.Operand.tmp 43) false, type := 3, pos := _, after := #[{ on := 2, ground := Go.Ground.data }, { on := 16, ground := Go.Ground.data }], guard := none } : Oper)) (v := ?_) rfl (by kernel_rfl) (by kernel_rfl) (by kernel_rfl) (fun _ _ _ h => h) (Or.inl ⟨by rfl, ?_⟩) (by assumption) ?_
          rotate_left
          · (intro w hSw; (try dsimp only at hSw); go_simp; try with_reducible rfl)
          simp only [Act.put, List.setIfInBounds_toArray, List.set_cons_zero, List.set_cons_succ]
          refine wpAnyH_ready (rs := [1, 18]) (by kernel_rfl) (by simp) (AllReadyH.cons (o := ({ dst := some 28, op := Go.Op.load 22 (Go.Operand.tmp 27), type := 22, pos := _, after := #[{ on := 0, ground := Go.Ground.data }], guard := none } : Oper)) rfl (fun KK hK => ?_) (AllReadyH.cons (o := ({ dst := some 45, op := Go.Op.buildSlice 22 1 #[(0, Go.Operand.tmp 44)], type := 22, pos := _, after := #[{ on := 17, ground := Go.Ground.data }], guard := none } : Oper)) rfl (fun KK hK => ?_) AllReadyH.nil))
          · go_simp
            refine hK.out _ _ hHeld (fun hHeld => ?_)
            clear hK
            try simp only [Act.put, List.setIfInBounds_toArray, List.set_cons_zero, List.set_cons_succ]
            refine wpAnyH_ready (rs := [18]) (by kernel_rfl) (by simp) (AllReadyH.cons (o := ({ dst := some 45, op := Go.Op.buildSlice 22 1 #[(0, Go.Operand.tmp 44)], type := 22, pos := _, after := #[{ on := 17, ground := Go.Ground.data }], guard := none } : Oper)) rfl (fun KK hK => ?_) AllReadyH.nil)
            go_simp
            refine hK.out _ _ (HS.out _ ((bdrew hB').alloc (bdrew hB').size _) (Blk.alloc (show Blk wr.drew w.heap.size 24 [.int .i64 n, .slice (some ⟨xb, xo, none⟩) zs.length vc] from hG') _)) (fun hHeld => ?_)
            clear hK
            try simp only [Act.put, List.setIfInBounds_toArray, List.set_cons_zero, List.set_cons_succ]
            refine wpAnyH_ready (rs := [19]) (by kernel_rfl) (by simp) (AllReadyH.cons (o := ({ dst := some 46, op := Go.Op.call { callee := Go.Callee.builtin Go.Builtin.append, args := #[Go.Operand.tmp 28, Go.Operand.tmp 45], argTypes := #[22, 22] }, type := 22, pos := _, after := #[{ on := 1, ground := Go.Ground.data }, { on := 18, ground := Go.Ground.data }], guard := none } : Oper)) rfl (fun KK hK => ?_) AllReadyH.nil)
            refine step_append_lies _ rfl _ _ 22 rfl (w.heap.size + 1 + 1 + 1) 3 i0 (.int .i64 0) 1 8 under22b hi hz0 hz1 hz2 rfl (by decide) _ _ _ rfl (World.ownsRow.alloc hown _) ⟨wr.heap.size, 0, none⟩ 1 1 [.int .i64 q9] rfl rfl (cell_one_new _ _ _) (by simp [Value.oneCell']) (by decide) (by unfold maxLen; have := HLL.out; omega) (by have := HLL.out; omega) (by simp; omega) _ rfl ?_
            intro g9 cap9 w9 hown9 hgrow hloc _
            have hk9 : ∀ k, k < w.heap.size + 1 + 1 + 1 → w9.heap[k]? = wr.heap[k]? := fun k hk => (hgrow.block k (by simp; omega) (fun e9 => by have := owns_ge hown k e9.symm; omega)).trans (Below.heap_alloc _ _ k (show k < wr.heap.size by omega))
            have hX9 : Blk w9 (w.heap.size + 1 + 1) 24 [.int .i64 K, .slice rx xs.length rcap] := hX'.of_eq (hk9 _ (by omega))
            have hcw := hX9.two.2.1
            have hfw := hX9.two.2.2.2
            have hG9 : BoxG w9 w.heap.size n (.slice (some ⟨xb, xo, none⟩) zs.length vc) := hG'.of_eq (hk9 _ (by omega))
            have hB9 : Below w.heap.size w w9 := ((bdrew hB').alloc (bdrew hB').size _).grown hgrow (by have := hB'.size; simp; omega) (fun t e9 => by have := owns_ge hown t e9; omega)
            have hG3 := hG9.other (p := ⟨w.heap.size + 1 + 1, 1, none⟩) (by simp; omega) (.slice (some ⟨g9, 0, none⟩) (xs.length + 1) cap9)
            have hB3 := hB9.setCell (p := ⟨w.heap.size + 1 + 1, 1, none⟩) (by simp; omega) (.slice (some ⟨g9, 0, none⟩) (xs.length + 1) cap9)
            refine hK.out _ _ (HS.out _ hB9 hG9) (fun hHeld => ?_)
            clear hK
            try simp only [Act.put, List.setIfInBounds_toArray, List.set_cons_zero, List.set_cons_succ]
            refine wpAnyH_take (i := 20) (oi := ({ dst := some 47, op := Go.Op.fieldAddr 24 (Go.Operand.tmp 7) 1, type := 0, pos := _, after := #[{ on := 0, ground := Go.Ground.phase }, { on := 1, ground := Go.Ground.phase }, { on := 2, ground := Go.Ground.phase }, { on := 3, ground := Go.Ground.phase }, { on := 4, ground := Go.Ground.phase }, { on := 5, ground := Go.Ground.phase }, { on := 6, ground := Go.Ground.phase }, { on := 7, ground := Go.Ground.phase }, { on := 8, ground := Go.Ground.phase }, { on := 9, ground := Go.Ground.phase }, { on := 10, ground := Go.Ground.phase }, { on := 11, ground := Go.Ground.phase }, { on := 12, ground := Go.Ground.phase }, { on := 13, ground := Go.Ground.phase }, { on := 14, ground := Go.Ground.phase }, { on := 15, ground := Go.Ground.phase }, { on := 16, ground := Go.Ground.phase }, { on := 17, ground := Go.Ground.phase }, { on := 18, ground := Go.Ground.phase }, { on := 19, ground := Go.Ground.phase }], guard := none } : Oper)) (v := ?_) rfl (by kernel_rfl) (by kernel_rfl) (by kernel_rfl) (fun _ _ _ h => h) (Or.inl ⟨by rfl, ?_⟩) (by assumption) ?_
            rotate_left
            · (intro w hSw; (try dsimp only at hSw); go_simp; try with_reducible rfl)
            simp only [Act.put, List.setIfInBounds_toArray, List.set_cons_zero, List.set_cons_succ]
            refine wpAnyH_ready (rs := [21]) (by kernel_rfl) (by simp) (AllReadyH.cons (o := ({ dst := none, op := Go.Op.store 22 (Go.Operand.tmp 47) (Go.Operand.tmp 46), type := 0, pos := _, after := #[{ on := 20, ground := Go.Ground.data }, { on := 19, ground := Go.Ground.data }, { on := 19, ground := Go.Ground.chain }, { on := 0, ground := Go.Ground.phase }, { on := 1, ground := Go.Ground.phase }, { on := 2, ground := Go.Ground.phase }, { on := 3, ground := Go.Ground.phase }, { on := 4, ground := Go.Ground.phase }, { on := 5, ground := Go.Ground.phase }, { on := 6, ground := Go.Ground.phase }, { on := 7, ground := Go.Ground.phase }, { on := 8, ground := Go.Ground.phase }, { on := 9, ground := Go.Ground.phase }, { on := 10, ground := Go.Ground.phase }, { on := 11, ground := Go.Ground.phase }, { on := 12, ground := Go.Ground.phase }, { on := 13, ground := Go.Ground.phase }, { on := 14, ground := Go.Ground.phase }, { on := 15, ground := Go.Ground.phase }, { on := 16, ground := Go.Ground.phase }, { on := 17, ground := Go.Ground.phase }, { on := 18, ground := Go.Ground.phase }, { on := 19, ground := Go.Ground.phase }], guard := none } : Oper)) rfl (fun KK hK => ?_) AllReadyH.nil)
            go_simp
            refine hK.out _ _ (HS.out _ hB3 hG3) (fun hHeld => ?_)
            clear hK
            try simp only [Act.put, List.setIfInBounds_toArray, List.set_cons_zero, List.set_cons_succ]
            refine wpAnyH_done (by kernel_rfl) ?_ _
            have hX3 := hX9.set 1 (.slice (some ⟨g9, 0, none⟩) (xs.length + 1) cap9)
            have hR9 : Blk w9 (w.heap.size + 1) 24 [.int .i64 0, .slice none 0 0] := hR'.of_eq (hk9 _ (by omega))
            have hR3 := hR9.other (p := ⟨w.heap.size + 1 + 1, 1, none⟩) (by simp) (.slice (some ⟨g9, 0, none⟩) (xs.length + 1) cap9)
            have hrow9 : Row w9 (w.heap.size + 1 + 1 + 1) (.slice (some ⟨g9, 0, none⟩) (xs.length + 1) cap9) (T.take (a * K + (b + 1))) := by
              unfold Row
              rw [HSN.out]
              simpa using hown9
            have hrow3 := row_keep (W' := w9.setCell ⟨w.heap.size + 1 + 1, 1, none⟩ (.slice (some ⟨g9, 0, none⟩) (xs.length + 1) cap9)) hrow9 (fun g h1 _ => Below.heap_setCell _ _ _ g (by simp; omega))
            clear hown9 hgrow hown hrow9 hk9 hloc
            go_wp2
            go_roundw
            case rel => exact ⟨b + 1, _, by omega, by go_num, hrow3, hG3, hR3, hX3, hB3⟩
            case measure => simp [intOf]; omega
          · go_simp
            refine hK.out _ _ (HS.out _ ((bdrew hB').alloc (bdrew hB').size _) (Blk.alloc (show Blk wr.drew w.heap.size 24 [.int .i64 n, .slice (some ⟨xb, xo, none⟩) zs.length vc] from hG') _)) (fun hHeld => ?_)
            clear hK
            try simp only [Act.put, List.setIfInBounds_toArray, List.set_cons_zero, List.set_cons_succ]
            refine wpAnyH_ready (rs := [1]) (by kernel_rfl) (by simp) (AllReadyH.cons (o := ({ dst := some 28, op := Go.Op.load 22 (Go.Operand.tmp 27), type := 22, pos := _, after := #[{ on := 0, ground := Go.Ground.data }], guard := none } : Oper)) rfl (fun KK hK => ?_) AllReadyH.nil)
            have x1a := (Blk.alloc (show Blk wr.drew (w.heap.size + 1 + 1) 24 [.int .i64 K, .slice rx xs.length rcap] from hX') (.cells #[.int .i64 q9] 3)).two.2.1
            go_simp
            refine hK.out _ _ hHeld (fun hHeld => ?_)
            clear hK
            try simp only [Act.put, List.setIfInBounds_toArray, List.set_cons_zero, List.set_cons_succ]
            refine wpAnyH_ready (rs := [19]) (by kernel_rfl) (by simp) (AllReadyH.cons (o := ({ dst := some 46, op := Go.Op.call { callee := Go.Callee.builtin Go.Builtin.append, args := #[Go.Operand.tmp 28, Go.Operand.tmp 45], argTypes := #[22, 22] }, type := 22, pos := _, after := #[{ on := 1, ground := Go.Ground.data }, { on := 18, ground := Go.Ground.data }], guard := none } : Oper)) rfl (fun KK hK => ?_) AllReadyH.nil)
            refine step_append_lies _ rfl _ _ 22 rfl (w.heap.size + 1 + 1 + 1) 3 i0 (.int .i64 0) 1 8 under22b hi hz0 hz1 hz2 rfl (by decide) _ _ _ rfl (World.ownsRow.alloc hown _) ⟨wr.heap.size, 0, none⟩ 1 1 [.int .i64 q9] rfl rfl (cell_one_new _ _ _) (by simp [Value.oneCell']) (by decide) (by unfold maxLen; have := HLL.out; omega) (by have := HLL.out; omega) (by simp; omega) _ rfl ?_
            intro g9 cap9 w9 hown9 hgrow hloc _
            have hk9 : ∀ k, k < w.heap.size + 1 + 1 + 1 → w9.heap[k]? = wr.heap[k]? := fun k hk => (hgrow.block k (by simp; omega) (fun e9 => by have := owns_ge hown k e9.symm; omega)).trans (Below.heap_alloc _ _ k (show k < wr.heap.size by omega))
            have hX9 : Blk w9 (w.heap.size + 1 + 1) 24 [.int .i64 K, .slice rx xs.length rcap] := hX'.of_eq (hk9 _ (by omega))
            have hcw := hX9.two.2.1
            have hfw := hX9.two.2.2.2
            have hG9 : BoxG w9 w.heap.size n (.slice (some ⟨xb, xo, none⟩) zs.length vc) := hG'.of_eq (hk9 _ (by omega))
            have hB9 : Below w.heap.size w w9 := ((bdrew hB').alloc (bdrew hB').size _).grown hgrow (by have := hB'.size; simp; omega) (fun t e9 => by have := owns_ge hown t e9; omega)
            have hG3 := hG9.other (p := ⟨w.heap.size + 1 + 1, 1, none⟩) (by simp; omega) (.slice (some ⟨g9, 0, none⟩) (xs.length + 1) cap9)
            have hB3 := hB9.setCell (p := ⟨w.heap.size + 1 + 1, 1, none⟩) (by simp; omega) (.slice (some ⟨g9, 0, none⟩) (xs.length + 1) cap9)
            refine hK.out _ _ (HS.out _ hB9 hG9) (fun hHeld => ?_)
            clear hK
            try simp only [Act.put, List.setIfInBounds_toArray, List.set_cons_zero, List.set_cons_succ]
            refine wpAnyH_take (i := 20) (oi := ({ dst := some 47, op := Go.Op.fieldAddr 24 (Go.Operand.tmp 7) 1, type := 0, pos := _, after := #[{ on := 0, ground := Go.Ground.phase }, { on := 1, ground := Go.Ground.phase }, { on := 2, ground := Go.Ground.phase }, { on := 3, ground := Go.Ground.phase }, { on := 4, ground := Go.Ground.phase }, { on := 5, ground := Go.Ground.phase }, { on := 6, ground := Go.Ground.phase }, { on := 7, ground := Go.Ground.phase }, { on := 8, ground := Go.Ground.phase }, { on := 9, ground := Go.Ground.phase }, { on := 10, ground := Go.Ground.phase }, { on := 11, ground := Go.Ground.phase }, { on := 12, ground := Go.Ground.phase }, { on := 13, ground := Go.Ground.phase }, { on := 14, ground := Go.Ground.phase }, { on := 15, ground := Go.Ground.phase }, { on := 16, ground := Go.Ground.phase }, { on := 17, ground := Go.Ground.phase }, { on := 18, ground := Go.Ground.phase }, { on := 19, ground := Go.Ground.phase }], guard := none } : Oper)) (v := ?_) rfl (by kernel_rfl) (by kernel_rfl) (by kernel_rfl) (fun _ _ _ h => h) (Or.inl ⟨by rfl, ?_⟩) (by assumption) ?_
            rotate_left
            · (intro w hSw; (try dsimp only at hSw); go_simp; try with_reducible rfl)
            simp only [Act.put, List.setIfInBounds_toArray, List.set_cons_zero, List.set_cons_succ]
            refine wpAnyH_ready (rs := [21]) (by kernel_rfl) (by simp) (AllReadyH.cons (o := ({ dst := none, op := Go.Op.store 22 (Go.Operand.tmp 47) (Go.Operand.tmp 46), type := 0, pos := _, after := #[{ on := 20, ground := Go.Ground.data }, { on := 19, ground := Go.Ground.data }, { on := 19, ground := Go.Ground.chain }, { on := 0, ground := Go.Ground.phase }, { on := 1, ground := Go.Ground.phase }, { on := 2, ground := Go.Ground.phase }, { on := 3, ground := Go.Ground.phase }, { on := 4, ground := Go.Ground.phase }, { on := 5, ground := Go.Ground.phase }, { on := 6, ground := Go.Ground.phase }, { on := 7, ground := Go.Ground.phase }, { on := 8, ground := Go.Ground.phase }, { on := 9, ground := Go.Ground.phase }, { on := 10, ground := Go.Ground.phase }, { on := 11, ground := Go.Ground.phase }, { on := 12, ground := Go.Ground.phase }, { on := 13, ground := Go.Ground.phase }, { on := 14, ground := Go.Ground.phase }, { on := 15, ground := Go.Ground.phase }, { on := 16, ground := Go.Ground.phase }, { on := 17, ground := Go.Ground.phase }, { on := 18, ground := Go.Ground.phase }, { on := 19, ground := Go.Ground.phase }], guard := none } : Oper)) rfl (fun KK hK => ?_) AllReadyH.nil)
            go_simp
            refine hK.out _ _ (HS.out _ hB3 hG3) (fun hHeld => ?_)
            clear hK
            try simp only [Act.put, List.setIfInBounds_toArray, List.set_cons_zero, List.set_cons_succ]
            refine wpAnyH_done (by kernel_rfl) ?_ _
            have hX3 := hX9.set 1 (.slice (some ⟨g9, 0, none⟩) (xs.length + 1) cap9)
            have hR9 : Blk w9 (w.heap.size + 1) 24 [.int .i64 0, .slice none 0 0] := hR'.of_eq (hk9 _ (by omega))
            have hR3 := hR9.other (p := ⟨w.heap.size + 1 + 1, 1, none⟩) (by simp) (.slice (some ⟨g9, 0, none⟩) (xs.length + 1) cap9)
            have hrow9 : Row w9 (w.heap.size + 1 + 1 + 1) (.slice (some ⟨g9, 0, none⟩) (xs.length + 1) cap9) (T.take (a * K + (b + 1))) := by
              unfold Row
              rw [HSN.out]
              simpa using hown9
            have hrow3 := row_keep (W' := w9.setCell ⟨w.heap.size + 1 + 1, 1, none⟩ (.slice (some ⟨g9, 0, none⟩) (xs.length + 1) cap9)) hrow9 (fun g h1 _ => Below.heap_setCell _ _ _ g (by simp; omega))
            clear hown9 hgrow hown hrow9 hk9 hloc
            go_wp2
            go_roundw
            case rel => exact ⟨b + 1, _, by omega, by go_num, hrow3, hG3, hR3, hX3, hB3⟩
            case measure => simp [intOf]; omega
        · have hbi : ¬ (b : Int) < (K : Int) := by omega
          have hbe : b = K := by omega
          have hrow' : Row wr (w.heap.size + 1 + 1 + 1) r' (T.take ((a + 1) * K)) := by rw [show (a + 1) * K = a * K + b by rw [Nat.succ_mul, hbe]]; exact hrow'
          clear hbe
          go_wp2
          go_roundw
          case rel => exact ⟨a + 1, r', by omega, by go_num, hrow', hG', hR', hX', hB'⟩
          case measure => simp [intOf]; omega
    · have hai : ¬ (a : Int) < (K : Int) := by omega
      have hae : a = K := by omega
      have hrow : Row wr (w.heap.size + 1 + 1 + 1) r T := by
        have : T.take (a * K) = T := List.take_of_length_le (by rw [HTL.out, hae]; exact Nat.le_refl _)
        rw [← this]; exact hrow
      clear hae
      obtain ⟨rx, rcap, rfl⟩ := own_slice hrow
      obtain ⟨x0, x1, _, _⟩ := hX.two
      obtain ⟨y0, y1, fy0, fy1⟩ := hR.two
      have hR6 := (hR.set 0 (.int .i64 K)).set 1 (.slice rx T.length rcap)
      have hB6 := (hB.setCell (p := ⟨w.heap.size + 1, 0, none⟩) (by simp) (.int .i64 K)).setCell (p := ⟨w.heap.size + 1, 1, none⟩) (by simp) (.slice rx T.length rcap)
      have hrow6 := row_keep (W' := (wr.setCell ⟨w.heap.size + 1, 0, none⟩ (.int .i64 K)).setCell ⟨w.heap.size + 1, 1, none⟩ (.slice rx T.length rcap)) hrow (fun g h1 _ => (Below.heap_setCell _ _ _ g (by simp; omega)).trans (Below.heap_setCell _ _ _ g (by simp; omega)))
      go_wp2
      obtain ⟨z0, z1, _, _⟩ := hR6.two
      exact bodyPost_ret (v := .agg #[.int .i64 K, .slice rx T.length rcap]) (by simp [results, Tryz.results46, go_sem, z0, z1]) rfl ⟨_, rfl, owns_mono hrow6 (by omega), hB6⟩
end Go.Proofs.YtjiapicknkjhmaaGreatDoor

namespace Go.Proofs.YtjiapicknkjhmaaGreatDoor
open Go Go.RowKit Go.Maps

set_option maxRecDepth 100000 in
set_option maxHeartbeats 4000000 in
theorem part_bad (N : Int) (v u : Value) (zs l : List Int) (w : World) (hv : Sl w v zs) (hu : Sl w u l) (hT : Tab w) (hc : (ufault N zs l).1 ≠ 0) :
    Calls Tryz.prog 17 #[.agg #[.int .i64 N, v], u] w fun x w' => x = .returned (.tuple #[.agg #[.int .i64 0, .slice none 0 0], .agg #[.int .i64 (ufault N zs l).1, .int .i64 (ufault N zs l).2]]) ∧ Below w.heap.size w w' := by
  obtain ⟨w0, BG⟩ := BegQ.new w N v
  have HN := hide (nrm_bad N v u zs l w0 (hv.below BG.bel) (hu.below BG.bel) (hT.below BG.bel) hc)
  obtain ⟨c0, c1, _, _⟩ := BG.box.two
  obtain ⟨c, i, hci⟩ : ∃ c i, ufault N zs l = (c, i) := ⟨_, _, rfl⟩
  rw [hci] at HN hc ⊢
  simp only at HN hc ⊢
  clear hci
  have hcb : (c != 0) = true := by simpa using hc
  rw [BG.eq] at c0 c1
  go_enter Tryz.func17, Tryz.ntmps17
  go_wp2_with fail
  rw [← BG.eq]
  clear c0 c1
  refine HN.out.mono ?_
  rintro x w1 ⟨rfl, hb1⟩
  have hb2 := bcat2 hb1 (balloc w1 (.cells #[.int .i64 c, .int .i64 i] 28))
  have hF2 := blk0 (w := w1) (T := 28) (.int .i64 c) (.int .i64 i)
  have hBw := bcat BG.bel hb2 BG.bel.size
  have hG2 := blk_below BG.grp hb2
  have hR2 := blk_below BG.res hb2
  obtain ⟨t0, t1, _, _⟩ := hF2.two
  obtain ⟨y0, y1, fy0, fy1⟩ := hR2.two
  obtain ⟨g0, g1, fg0, fg1⟩ := hG2.two
  obtain ⟨s0, s1⟩ := hG2.self
  obtain ⟨hR6, hB6⟩ := put2 hR2 hBw (by omega) c i
  have hG6 := (hG2.other (p := ⟨w.heap.size + 1 + 1, 0, none⟩) (by simp) (.int .i64 c)).other (p := ⟨w.heap.size + 1 + 1, 1, none⟩) (by simp) (.int .i64 i)
  obtain ⟨g2, g3, fg2, fg3⟩ := hG6.two
  obtain ⟨s2, s3⟩ := hG6.self
  go_wp2_with fail
  go_region
  all_goals (
    go_wp2
    obtain ⟨z0, z1, _, _⟩ := hR6.two
    exact bodyPost_ret (v := .tuple #[.agg #[.int .i64 0, .slice none 0 0], .agg #[.int .i64 c, .int .i64 i]]) (by simp [results, Tryz.results17, go_sem, z0, z1, g2, g3]) rfl ⟨rfl, bdrew hB6⟩)
/-- Lists of one number each. -/
def sgl (l : List Int) : List (List Int) := l.map fun x => [x]
theorem sgl_len (l : List Int) : (sgl l).length = l.length := by simp [sgl]
theorem sgl_get {l : List Int} {i : Nat} (h : i < l.length) : (sgl l)[i]?.getD [] = [l[i]?.getD 0] := by simp [sgl, h]
theorem sgl_succ {l : List Int} {j : Nat} (h : j < l.length) : sgl (l.take (j + 1)) = sgl (l.take j) ++ [[l[j]?.getD 0]] := by
  unfold sgl
  rw [List.take_add_one, List.map_append, List.getElem?_eq_getElem h]
  simp
theorem sgl_mem {l : List Int} {t : Nat} {x : Int} (h : x ∈ (sgl l)[t]?.getD []) : ∃ ht : t < l.length, x = l[t] := by
  by_cases ht : t < l.length
  · refine ⟨ht, ?_⟩
    simp [sgl, ht] at h
    exact h
  · simp [sgl, ht] at h
/-- Where a thing stands in a list. -/
def place (xs : List Nat) (a : Nat) : Nat := xs.findIdx fun b => decide (b = a)
theorem place_at {xs : List Nat} {a : Nat} (h : a ∈ xs) : ∃ hl : place xs a < xs.length, xs[place xs a] = a := by
  have hl : place xs a < xs.length := List.findIdx_lt_length_of_exists ⟨a, h, by simp⟩
  have h9 := List.findIdx_getElem (w := hl)
  exact ⟨hl, of_decide_eq_true h9⟩
/-- Products, by places. -/
def parF (n : Nat) (zs : List Int) (xs : List Nat) (i j : Nat) : Nat := place xs (tm n zs (xs[i]?.getD 0) (xs[j]?.getD 0))
set_option maxRecDepth 100000 in
set_option maxHeartbeats 8000000 in
theorem part_good (n e : Nat) (v u : Value) (zs l : List Int) (w : World) (hv : Sl w v zs) (hg : IsGrp n zs e) (hu : Sl w u l) (hT : Tab w) (hl : lfault n l = (0, 0)) (hsb : subT n zs e (pset l) = true) :
    Calls Tryz.prog 17 #[.agg #[.int .i64 n, v], u] w fun x w' => ∃ r1 r2 r3, x = .returned (.tuple #[.agg #[.int .i64 (lst n (pset l)).length, .slice r1 r2 r3], .agg #[.int .i64 0, .int .i64 0]]) ∧ Sl w' (.slice r1 r2 r3) (mkT (lst n (pset l)).length (parF n zs (lst n (pset l)))) ∧ Below w.heap.size w w' := by
  obtain ⟨i0, hi, hz0, hz1, hz2⟩ := info_parts info22b
  have hn := hg.tab.le
  have hli := set_lst (show (lfault n l).1 = 0 by rw [hl])
  obtain ⟨xs, hxs⟩ : ∃ xs, xs = lst n (pset l) := ⟨_, rfl⟩
  rw [← hxs] at hli ⊢
  have hxl : xs.length ≤ 60 := by
    have : xs.length ≤ n := by rw [hxs]; unfold lst; exact Nat.le_trans (List.length_filter_le _ _) (by simp)
    omega
  have hll : l.length = xs.length := by
    have := congrArg List.length hli
    rw [li_len] at this
    exact this
  have hget : ∀ i, (h : i < xs.length) → l[i]?.getD 0 = (xs[i] : Int) := fun i h => by rw [hli]; simp [li, h]
  have hxn : ∀ i, (h : i < xs.length) → xs[i] < n := fun i h => by
    have := List.getElem_mem h
    generalize xs[i] = y at *
    rw [hxs] at this
    exact (mem_lst.1 this).1
  have hnd : xs.Nodup := by rw [hxs]; exact List.nodup_range.sublist List.filter_sublist
  have hcl : ∀ i j, (h1 : i < xs.length) → (h2 : j < xs.length) → tm n zs xs[i] xs[j] ∈ xs := fun i j h1 h2 => by
    have m1 := List.getElem_mem h1
    have m2 := List.getElem_mem h2
    generalize xs[i] = y at *
    generalize xs[j] = z at *
    rw [hxs] at m1 m2 ⊢
    obtain ⟨a1, a2⟩ := mem_lst.1 m1
    obtain ⟨b1, b2⟩ := mem_lst.1 m2
    exact mem_lst.2 ⟨tm_lt hg.tab a1 b1, sub_mul hsb a1 b1 a2 b2⟩
  have HNUM := hide (fun W v9 (h : SlL W v9 (sgl l)) => numbers_ok v9 (sgl l) W h (by rw [sgl_len, hll]; exact hxl) (fun t ht => by rw [sgl_len] at ht; rw [sgl_get ht]; simp) (fun t a ha => by
    obtain ⟨ht, rfl⟩ := sgl_mem ha
    have h1 := hget t (by omega)
    have h2 := hxn t (by omega)
    rw [List.getElem?_eq_getElem ht, Option.getD_some] at h1
    omega) (fun s t a h1 h2 => by
    obtain ⟨hs, e1⟩ := sgl_mem h1
    obtain ⟨ht, e2⟩ := sgl_mem h2
    have h3 := hget s (by omega)
    have h4 := hget t (by omega)
    rw [List.getElem?_eq_getElem hs, Option.getD_some] at h3
    rw [List.getElem?_eq_getElem ht, Option.getD_some] at h4
    rcases Nat.lt_trichotomy s t with h | h | h
    · exact absurd (show xs[s]'(by omega) = xs[t]'(by omega) by omega) (List.pairwise_iff_getElem.1 hnd s t (by omega) (by omega) h)
    · exact h
    · exact absurd (show xs[t]'(by omega) = xs[s]'(by omega) by omega) (List.pairwise_iff_getElem.1 hnd t s (by omega) (by omega) h)))
  have HAT := hide (fun (D : DataW Unit) (h : MLs (sgl l) (sgl l).length 0 D) a (ha : a ∈ xs) => h.old (place xs a) (by
    obtain ⟨h1, _⟩ := place_at ha
    rw [sgl_len]; omega) a (by
    obtain ⟨h1, h2⟩ := place_at ha
    rw [sgl_get (by omega), hget _ h1, h2]
    simp))
  have HGR := hide (fun W lv mb c (D : DataW Unit) (h : Below w.heap.size w W) (hL : SlL W lv (sgl l)) (hm : W.ownsMap Tryz.prog 3 (plainElem Tryz.prog 3) mb c D) (hM : MLs (sgl l) (sgl l).length 0 D) =>
    group_ok n xs.length v lv zs (sgl l) (fun i => xs[i]?.getD 0) (parF n zs xs) mb c D W hg.tab (hv.below h) hL (by rw [sgl_len]; exact hll) hxl (fun i hi => by
      refine ⟨[], ?_, ?_⟩
      · rw [sgl_get (by omega), hget i hi, List.getElem?_eq_getElem hi]; rfl
      · rw [List.getElem?_eq_getElem hi]; exact hxn i hi) hm (fun i j hi hj => by
      unfold parF
      simp only [List.getElem?_eq_getElem hi, List.getElem?_eq_getElem hj, Option.getD_some]
      exact HAT.out D hM _ (hcl i j hi hj)) (fun i j hi hj => by
      unfold parF
      simp only [List.getElem?_eq_getElem hi, List.getElem?_eq_getElem hj, Option.getD_some]
      obtain ⟨h1, _⟩ := place_at (hcl i j hi hj)
      omega))
  obtain ⟨w0, BG⟩ := BegQ.new w n v
  have HN := hide (nrm_good n e v u zs l w0 (hv.below BG.bel) hg (hu.below BG.bel) (hT.below BG.bel) hl hsb)
  obtain ⟨bb, hbb⟩ : ∃ bb, bb = nrmq n zs e (pset l) := ⟨_, rfl⟩
  rw [← hbb] at HN
  have HU := hide hu
  obtain ⟨ua, uc, ub, uo, rfl, hur, hub, _, hum⟩ := hu
  have HUR := hide hur
  clear hbb hget hxn hnd hcl hur
  have HXS := hide hxs
  have HLI := hide hli
  have HLL := hide hll
  have HXL := hide hxl
  clear hxs hli hll hxl
  have HL6 := hide (show l.length ≤ 60 by rw [HLL.out]; exact HXL.out)
  obtain ⟨c0, c1, _, _⟩ := BG.box.two
  rw [BG.eq] at c0 c1
  go_enter Tryz.func17, Tryz.ntmps17
  go_wp2_with fail
  rw [← BG.eq]
  clear c0 c1
  refine HN.out.mono ?_
  rintro x w1 ⟨rfl, hb1⟩
  have hb2 := bcat2 hb1 (balloc w1 (.cells #[.int .i64 0, .int .i64 0] 28))
  have hF2 := blk0 (w := w1) (T := 28) (.int .i64 0) (.int .i64 0)
  have hBw := bcat BG.bel hb2 BG.bel.size
  have hX2 := blk_below BG.box hb2
  have hG2 := blk_below BG.grp hb2
  have hR2 := blk_below BG.res hb2
  obtain ⟨t0, t1, _, _⟩ := hF2.two
  go_wp2
  generalize w1.alloc (.cells #[.int .i64 0, .int .i64 0] 28) = w2 at *
  clear t0 t1 hb1 hb2 hF2
  have hum9 : l.length ≤ 9223372036854775807 := by unfold maxLen at hum; omega
  go_loopw [8, 24] (fun r i wr => ∃ (j : Nat) (vs : List Value), j ≤ l.length ∧ i = .int .i64 j ∧ wr.ownsRow w2.heap.size 22 1 r vs.length vs ∧ Lsts wr w2.heap.size r vs (sgl (l.take j)) ∧ Below w2.heap.size w2 wr) (fun _ i _ => l.length - (intOf i).toNat)
  case atStart => exact ⟨0, [], Nat.zero_le _, rfl, World.ownsRow_nil _ _ _ _, ⟨rfl, fun t x l h => by simp at h⟩, Below.refl _ _⟩
  case round =>
    obtain ⟨j, vs, hj, rfl, hrow, hls, hB⟩ := hrel
    obtain ⟨ra, rcap, rfl⟩ := own_slice' hrow
    have HVL := hide (show vs.length = j by rw [hls.1, sgl_len, List.length_take]; omega)
    by_cases hlt : j < l.length
    · have hji : (j : Int) < (l.length : Int) := by omega
      obtain rfl := HUR.out.at_ (by omega)
      have cx := below_cell (bcat2 hBw hB) (HUR.out.cell j hlt)
      have HST := hide (sgl_succ hlt)
      generalize l[j]?.getD 0 = x at *
      have hrow9 := (World.ownsRow.alloc (World.ownsRow.alloc hrow (.cells #[.int .i64 x] 3)) (.cells #[.slice (some ⟨wr.heap.size, 0, none⟩) 1 1] 22))
      go_wp2_with (first
        | (at_builtin; refine wpList_append_own_at _ rfl _ _ 25 rfl w2.heap.size 22 i0 (.slice none 0 0) 1 24 under25b hi hz0 hz1 hz2 rfl (by decide) _ _ _ rfl hrow9 ⟨wr.heap.size + 1, 0, none⟩ 1 1 [.slice (some ⟨wr.heap.size, 0, none⟩) 1 1] rfl rfl ?c1 ?c2 ?c3 ?c4 ?c5 ?_))
      case c1 =>
        have h9 := cell_one_new (wr.alloc (.cells #[.int .i64 x] 3)) (.slice (some ⟨wr.heap.size, 0, none⟩) 1 1) 22
        rw [World.size_alloc] at h9
        exact h9
      case c2 => simp [Value.oneCell']
      case c3 => unfold maxLen; have := HVL.out; have := HL6.out; omega
      case c4 => have := HVL.out; have := HL6.out; omega
      case c5 => have := hB.size; simp; omega
      intro v' w4 hown' hgrow hnil hloc
      obtain ⟨ra', rcap', rfl⟩ := own_slice' hown'
      have hB4 : Below w2.heap.size w2 w4 := ((hB.alloc hB.size _).alloc (by have := hB.size; simp; omega) _).grown hgrow (by have := hB.size; simp; omega) (fun t e => by have := owns_ge hrow t e; omega)
      have hown2 : ∀ g, (Value.slice ra vs.length rcap).ownBlock = some g → g < wr.heap.size := fun g hg => by
        rcases hrow.2 with ⟨h1, _⟩ | ⟨g', cap, cur, h1, _, hh9, _⟩
        · rw [h1] at hg; simp [Value.ownBlock] at hg
        · rw [h1] at hg
          simp [Value.ownBlock] at hg
          subst hg
          exact (Array.getElem?_eq_some_iff.1 hh9).1
      have hbl : ∀ g, g < wr.heap.size → (Value.slice ra vs.length rcap).ownBlock ≠ some g → w4.heap[g]? = wr.heap[g]? := fun g h1 h2 => (hgrow.block g (by simp; omega) (fun e => h2 e.symm)).trans ((Below.heap_alloc _ _ g (by simp; omega)).trans (Below.heap_alloc _ _ g h1))
      have hs4 : wr.heap.size + 2 ≤ w4.heap.size := by have := hgrow.size; simp at this; omega
      have hnew : w4.heap[wr.heap.size]? = some (.cells #[.int .i64 x] 3) := ((hgrow.block _ (by simp; omega) (fun e => by have := hown2 _ e.symm; omega)).trans (Below.heap_alloc _ _ _ (by simp))).trans (World.alloc_heap_new wr _)
      have hlo : (Value.slice ra' (vs.length + 1) rcap').ownBlock = (Value.slice ra vs.length rcap).ownBlock ∨ ∀ g, (Value.slice ra' (vs.length + 1) rcap').ownBlock = some g → wr.heap.size + 2 ≤ g := by
        rcases hloc with h | h
        · exact .inl h
        · right; intro g hg; rw [h] at hg; simp at hg; omega
      have hcx : w4.cell? ⟨wr.heap.size, 0 + 0, none⟩ = some (.int .i64 x) := by simp [World.cell?, hnew]
      have hls4 := (hls.keep (r' := .slice ra' (vs.length + 1) rcap') (by omega) (fun g _ h2 h3 => hbl g h2 h3) (hlo.imp id fun h g hg => by have := h g hg; omega)).snoc (x := .slice (some ⟨wr.heap.size, 0, none⟩) 1 1) (l := [x]) ⟨some ⟨wr.heap.size, 0, none⟩, 1, wr.heap.size, 0, rfl, ⟨fun _ => rfl, fun k hk => by
        have : k = 0 := by simp at hk; omega
        subst this
        exact hcx⟩, by omega, by simp, by unfold maxLen; omega, hB.size, fun g hg e => by
        subst e
        rcases hlo with h | h
        · have := hown2 _ (h ▸ hg); omega
        · have := h _ hg; omega⟩
      have hrow4 : w4.ownsRow w2.heap.size 22 1 (.slice ra' (vs.length + 1) rcap') (vs ++ [Value.slice (some ⟨wr.heap.size, 0, none⟩) 1 1]).length (vs ++ [Value.slice (some ⟨wr.heap.size, 0, none⟩) 1 1]) := by simpa using hown'
      clear hown' hgrow hloc hlo hbl hrow hls hrow9 hown2 hnew hcx hs4
      go_wp2
      go_roundw
      case rel => exact ⟨j + 1, _, by omega, by go_num, hrow4, by rw [HST.out]; exact hls4, hB4⟩
      case measure => simp [intOf]; omega
    · have hji : ¬ (j : Int) < (l.length : Int) := by omega
      have hjl : l.take j = l := List.take_of_length_le (by omega)
      rw [hjl] at hls
      have hBr := bcat2 hBw hB
      have hsl := SlL.of_own hrow hls (Nat.lt_of_lt_of_le hT.lt hBr.size)
      have hX := blk_below hX2 hB
      have hG := blk_below hG2 hB
      have hR := blk_below hR2 hB
      have hRl := hR.lt
      clear hjl hrow hls
      have HNW := hide (fun W (h : SlL W (.slice ra vs.length rcap) (sgl l)) => HNUM.out W _ h)
      go_wp2_with fail
      have hS9 : (fun W => W.cell? ⟨w.heap.size, 0, none⟩ = some (.int .i64 n) ∧ W.cell? ⟨w.heap.size, 1, none⟩ = some v) wr.drew := ⟨hX.two.1, hX.two.2.1⟩
      refine wp_region_held_drew (S := (fun W => W.cell? ⟨w.heap.size, 0, none⟩ = some (.int .i64 n) ∧ W.cell? ⟨w.heap.size, 1, none⟩ = some v)) (by kernel_rfl) hS9 (fun hHeld => ?_)
      refine wpAnyH_take (i := 0) (oi := ({ dst := some 34, op := Go.Op.load 24 (Go.Operand.tmp 2), type := 24, pos := _, after := #[], guard := none } : Oper)) (v := ?_) rfl (by kernel_rfl) (by kernel_rfl) (by kernel_rfl) (fun _ _ _ h => h) (Or.inl ⟨by rfl, ?_⟩) (by assumption) ?_
      rotate_left
      · (intro w hSw; (try dsimp only at hSw); go_simp; try with_reducible rfl)
      simp only [Act.put, List.setIfInBounds_toArray, List.set_cons_zero, List.set_cons_succ]
      refine wpAnyH_take (i := 1) (oi := ({ dst := some 35, op := Go.Op.move (Go.Operand.tmp 8), type := 25, pos := _, after := #[], guard := none } : Oper)) (v := ?_) rfl (by kernel_rfl) (by kernel_rfl) (by kernel_rfl) (fun _ _ _ h => h) (Or.inl ⟨by rfl, ?_⟩) (by assumption) ?_
      rotate_left
      · (intro w hSw; (try dsimp only at hSw); go_simp; try with_reducible rfl)
      simp only [Act.put, List.setIfInBounds_toArray, List.set_cons_zero, List.set_cons_succ]
      refine wpAnyH_take (i := 2) (oi := ({ dst := some 36, op := Go.Op.move (Go.Operand.tmp 8), type := 25, pos := _, after := #[], guard := none } : Oper)) (v := ?_) rfl (by kernel_rfl) (by kernel_rfl) (by kernel_rfl) (fun _ _ _ h => h) (Or.inl ⟨by rfl, ?_⟩) (by assumption) ?_
      rotate_left
      · (intro w hSw; (try dsimp only at hSw); go_simp; try with_reducible rfl)
      simp only [Act.put, List.setIfInBounds_toArray, List.set_cons_zero, List.set_cons_succ]
      refine wpAnyH_take (i := 5) (oi := ({ dst := some 39, op := Go.Op.build 28 #[], type := 28, pos := _, after := #[{ on := 6, ground := Go.Ground.gcOnly Go.Departure.lateStores }], guard := none } : Oper)) (v := ?_) rfl (by kernel_rfl) (by kernel_rfl) (by kernel_rfl) (fun _ _ _ h => h) (Or.inl ⟨by rfl, ?_⟩) (by assumption) ?_
      rotate_left
      · (intro w hSw; (try dsimp only at hSw); go_simp; try with_reducible rfl)
      simp only [Act.put, List.setIfInBounds_toArray, List.set_cons_zero, List.set_cons_succ]
      refine wpAnyH_ready (rs := [3]) (by kernel_rfl) (by simp) (AllReadyH.cons (o := ({ dst := some 37, op := Go.Op.call { callee := Go.Callee.value (Go.Operand.func 47), args := #[Go.Operand.tmp 36], argTypes := #[25] }, type := 75, pos := _, after := #[{ on := 2, ground := Go.Ground.data }], guard := none } : Oper)) rfl (fun KK hK => ?_) AllReadyH.nil)
      go_simp
      refine (HNW.out wr.drew (hsl.below (bdrew (Below.refl _ _)))).mono ?_
      rintro x w4 ⟨D, rfl, hmap, hML, hb4⟩
      have hbd := bcat2 (bdrew (Below.refl wr.heap.size wr)) hb4
      have hX4 := blk_below hX hbd
      try go_wp2_with fail
      refine hK.out _ _ ⟨hX4.two.1, hX4.two.2.1⟩ (fun hHeld => ?_)
      clear hK
      try simp only [Act.put, List.setIfInBounds_toArray, List.set_cons_zero, List.set_cons_succ]
      refine wpAnyH_ready (rs := [4]) (by kernel_rfl) (by simp) (AllReadyH.cons (o := ({ dst := some 38, op := Go.Op.call { callee := Go.Callee.value (Go.Operand.func 46), args := #[Go.Operand.tmp 34, Go.Operand.tmp 35, Go.Operand.tmp 37], argTypes := #[24, 25, 75] }, type := 24, pos := _, after := #[{ on := 0, ground := Go.Ground.data }, { on := 1, ground := Go.Ground.data }, { on := 3, ground := Go.Ground.data }, { on := 3, ground := Go.Ground.chain }], guard := none } : Oper)) rfl (fun KK hK => ?_) AllReadyH.nil)
      go_simp
      refine (HGR.out w4 _ _ _ D (bcat2 hBr hbd) (hsl.below hbd) hmap hML).mono ?_
      rintro x w6 ⟨r, rfl, hrow, hb6⟩
      have hb46 := bcat2 hbd hb6
      have hG6 := blk_below hG hb46
      have hR6 := blk_below hR hb46
      have hX6 := blk_below hX hb46
      have hB6 := bcat2 hBr hb46
      try go_wp2_with fail
      refine hK.out _ _ ⟨hX6.two.1, hX6.two.2.1⟩ (fun hHeld => ?_)
      clear hK
      try simp only [Act.put, List.setIfInBounds_toArray, List.set_cons_zero, List.set_cons_succ]
      obtain ⟨T, hTe⟩ : ∃ T, T = mkT xs.length (parF n zs xs) := ⟨_, rfl⟩
      rw [← hTe] at hrow
      have HTE := hide hTe
      clear hTe
      obtain ⟨rx, rcap9, rfl⟩ := own_slice hrow
      obtain ⟨g0, g1, fg0, fg1⟩ := hG6.two
      have hG7 := (hG6.set 0 (.int .i64 xs.length)).set 1 (.slice rx T.length rcap9)
      have hR7 := (hR6.other (p := ⟨w.heap.size + 1, 0, none⟩) (by simp) (.int .i64 xs.length)).other (p := ⟨w.heap.size + 1, 1, none⟩) (by simp) (.slice rx T.length rcap9)
      have hX7 := (hX6.other (p := ⟨w.heap.size + 1, 0, none⟩) (by simp) (.int .i64 xs.length)).other (p := ⟨w.heap.size + 1, 1, none⟩) (by simp) (.slice rx T.length rcap9)
      have hB7 := (hB6.setCell (p := ⟨w.heap.size + 1, 0, none⟩) (by simp) (.int .i64 xs.length)).setCell (p := ⟨w.heap.size + 1, 1, none⟩) (by simp) (.slice rx T.length rcap9)
      have hb4s := hbd.size
      have hrow7 := row_keep (W' := (w6.setCell ⟨w.heap.size + 1, 0, none⟩ (.int .i64 xs.length)).setCell ⟨w.heap.size + 1, 1, none⟩ (.slice rx T.length rcap9)) hrow (fun g h1 _ => (Below.heap_setCell _ _ _ g (by simp; omega)).trans (Below.heap_setCell _ _ _ g (by simp; omega)))
      have hsl7 := row_sl hrow7 (by rw [size_set, size_set]; have := hb6.size; omega)
      refine wpAnyH_ready (rs := [6]) (by kernel_rfl) (by simp) (AllReadyH.cons (o := ({ dst := none, op := Go.Op.store 24 (Go.Operand.tmp 4) (Go.Operand.tmp 38), type := 0, pos := _, after := #[{ on := 4, ground := Go.Ground.data }, { on := 4, ground := Go.Ground.chain }, { on := 0, ground := Go.Ground.phase }, { on := 1, ground := Go.Ground.phase }, { on := 2, ground := Go.Ground.phase }, { on := 3, ground := Go.Ground.phase }, { on := 4, ground := Go.Ground.phase }, { on := 5, ground := Go.Ground.textOnly Go.Departure.lateStores }], guard := none } : Oper)) rfl (fun KK hK => ?_) AllReadyH.nil)
      go_simp
      refine hK.out _ _ ⟨hX7.two.1, hX7.two.2.1⟩ (fun hHeld => ?_)
      clear hK
      try simp only [Act.put, List.setIfInBounds_toArray, List.set_cons_zero, List.set_cons_succ]
      obtain ⟨v0, v1, fv0, fv1⟩ := hR6.two
      obtain ⟨y0, y1, fy0, fy1⟩ := hR7.two
      obtain ⟨s0, s1⟩ := hR7.self
      obtain ⟨z0, z1, _, _⟩ := hG7.two
      generalize (w6.setCell ⟨w.heap.size + 1, 0, none⟩ (.int .i64 xs.length)).setCell ⟨w.heap.size + 1, 1, none⟩ (.slice rx T.length rcap9) = W7 at *
      refine wpAnyH_ready (rs := [7]) (by kernel_rfl) (by simp) (AllReadyH.cons (o := ({ dst := none, op := Go.Op.store 28 (Go.Operand.tmp 5) (Go.Operand.tmp 39), type := 0, pos := _, after := #[{ on := 5, ground := Go.Ground.data }, { on := 6, ground := Go.Ground.chain }, { on := 0, ground := Go.Ground.phase }, { on := 1, ground := Go.Ground.phase }, { on := 2, ground := Go.Ground.phase }, { on := 3, ground := Go.Ground.phase }, { on := 4, ground := Go.Ground.phase }, { on := 5, ground := Go.Ground.phase }, { on := 6, ground := Go.Ground.phase }], guard := none } : Oper)) rfl (fun KK hK => ?_) AllReadyH.nil)
      go_simp
      refine hK.out _ _ ⟨hX7.two.1, hX7.two.2.1⟩ (fun hHeld => ?_)
      clear hK
      try simp only [Act.put, List.setIfInBounds_toArray, List.set_cons_zero, List.set_cons_succ]
      refine wpAnyH_done (by kernel_rfl) ?_ _
      go_wp2
      exact bodyPost_ret (v := .tuple #[.agg #[.int .i64 xs.length, .slice rx T.length rcap9], .agg #[.int .i64 0, .int .i64 0]]) (by simp [results, Tryz.results17, go_sem, z0, z1, y0, y1]) rfl ⟨_, _, _, rfl, by rw [← HTE.out]; exact hsl7, hB7⟩
end Go.Proofs.YtjiapicknkjhmaaGreatDoor

namespace Go.Proofs.YtjiapicknkjhmaaGreatDoor
open Go Go.RowKit Go.Maps

section
variable {n e : Nat} {zs : List Int} {q : Nat → Bool}
theorem iv_one (g : IsGrp n zs e) : iv n zs e e = e := by
  obtain ⟨h1, h2, _, _⟩ := iv_spec g g.elt
  rw [g.left _ h1] at h2
  exact h2
theorem place_get {xs : List Nat} (hnd : xs.Nodup) {i : Nat} (hi : i < xs.length) : place xs xs[i] = i := by
  obtain ⟨hl, h1⟩ := place_at (List.getElem_mem hi)
  exact (List.getElem_inj hnd).1 h1
theorem place_inj {xs : List Nat} {a b : Nat} (ha : a ∈ xs) (hb : b ∈ xs) (h : place xs a = place xs b) : a = b := by
  obtain ⟨h1, h2⟩ := place_at ha
  obtain ⟨h3, h4⟩ := place_at hb
  rw [← h2, ← h4]
  simp only [h]
/-- The thing at a place. -/
def thing (xs : List Nat) (i : Nat) : Nat := xs[i]?.getD 0
theorem thing_eq {xs : List Nat} {i : Nat} (hi : i < xs.length) : thing xs i = xs[i] := by unfold thing; rw [List.getElem?_eq_getElem hi]; rfl
theorem thing_place {xs : List Nat} {a : Nat} (ha : a ∈ xs) : thing xs (place xs a) = a := by
  obtain ⟨h1, h2⟩ := place_at ha
  rw [thing_eq h1, h2]
theorem place_thing {xs : List Nat} (hnd : xs.Nodup) {i : Nat} (hi : i < xs.length) : place xs (thing xs i) = i := by rw [thing_eq hi, place_get hnd hi]
theorem thing_mem {xs : List Nat} {i : Nat} (hi : i < xs.length) : thing xs i ∈ xs := by rw [thing_eq hi]; exact List.getElem_mem hi
theorem sub_mulL (hs : subT n zs e q = true) {a b : Nat} (ha : a ∈ lst n q) (hb : b ∈ lst n q) (g : IsGrp n zs e) : tm n zs a b ∈ lst n q := by
  obtain ⟨a1, a2⟩ := mem_lst.1 ha
  obtain ⟨b1, b2⟩ := mem_lst.1 hb
  exact mem_lst.2 ⟨tm_lt g.tab a1 b1, (subT_iff.1 hs).2 a b (List.mem_range.2 a1) (List.mem_range.2 b1) a2 b2⟩
theorem par_eq {n : Nat} {zs : List Int} {xs : List Nat} (i j : Nat) : parF n zs xs i j = place xs (tm n zs (thing xs i) (thing xs j)) := rfl
theorem par_thing (g : IsGrp n zs e) (hs : subT n zs e q = true) {i j : Nat} (hi : i < (lst n q).length) (hj : j < (lst n q).length) : parF n zs (lst n q) i j < (lst n q).length ∧ thing (lst n q) (parF n zs (lst n q) i j) = tm n zs (thing (lst n q) i) (thing (lst n q) j) := by
  have hm := sub_mulL hs (thing_mem hi) (thing_mem hj) g
  obtain ⟨h1, _⟩ := place_at hm
  rw [par_eq]
  exact ⟨h1, thing_place hm⟩
/-- A part is a group. -/
theorem part_grp (g : IsGrp n zs e) (hs : subT n zs e q = true) : IsGrp (lst n q).length (mkT (lst n q).length (parF n zs (lst n q))) (place (lst n q) e) := by
  have hel : e ∈ lst n q := mem_lst.2 ⟨g.elt, (subT_iff.1 hs).1⟩
  have hnd := lst_nd n q
  obtain ⟨he, _⟩ := place_at hel
  have hlt : ∀ i, i < (lst n q).length → thing (lst n q) i < n := fun i hi => (mem_lst.1 (thing_mem hi)).1
  refine grp_mk (by omega) (Nat.le_trans (lst_len n q) g.tab.le) (fun a b ha hb => (par_thing g hs ha hb).1) he (fun a ha => ?_) (fun a ha => ?_) (fun a b c ha hb hc => ?_) (fun a ha => ?_)
  · rw [par_eq, thing_place hel, g.left _ (hlt a ha), place_thing hnd ha]
  · rw [par_eq, thing_place hel, g.right _ (hlt a ha), place_thing hnd ha]
  · have h1 : parF n zs (lst n q) (parF n zs (lst n q) a b) c = place (lst n q) (tm n zs (tm n zs (thing (lst n q) a) (thing (lst n q) b)) (thing (lst n q) c)) := by rw [par_eq (parF n zs (lst n q) a b) c, (par_thing g hs ha hb).2]
    have h2 : parF n zs (lst n q) a (parF n zs (lst n q) b c) = place (lst n q) (tm n zs (thing (lst n q) a) (tm n zs (thing (lst n q) b) (thing (lst n q) c))) := by rw [par_eq a (parF n zs (lst n q) b c), (par_thing g hs hb hc).2]
    rw [h1, h2, g.ass _ _ _ (hlt a ha) (hlt b hb) (hlt c hc)]
  · obtain ⟨m1, m2⟩ := mem_lst.1 (thing_mem ha)
    obtain ⟨i1, i2⟩ := sub_iv g hs m1 m2
    have hm : iv n zs e (thing (lst n q) a) ∈ lst n q := mem_lst.2 ⟨i1, i2⟩
    refine ⟨place (lst n q) (iv n zs e (thing (lst n q) a)), (place_at hm).1, ?_⟩
    rw [par_eq, thing_place hm, (iv_spec g m1).2.1]
/-- The things of a part stand for those of the group. -/
theorem part_mul (g : IsGrp n zs e) (hs : subT n zs e q = true) {i j : Nat} (hi : i < (lst n q).length) (hj : j < (lst n q).length) : thing (lst n q) (tm (lst n q).length (mkT (lst n q).length (parF n zs (lst n q))) i j) = tm n zs (thing (lst n q) i) (thing (lst n q) j) := by
  rw [tm_mk hi hj]
  exact (par_thing g hs hi hj).2
end
end Go.Proofs.YtjiapicknkjhmaaGreatDoor

namespace Go.Proofs.YtjiapicknkjhmaaGreatDoor
variable {n e p : Nat} {zs : List Int} {s : Nat → Bool} {A : List Nat} {ms : List (List Int)}

/-- Is the order of a thing a power of p? -/
noncomputable def pwt (n : Nat) (zs : List Int) (e p a : Nat) : Bool := @decide (isPw (ordN n zs e a) p) (Classical.propDecidable _)
theorem pwt_iff {a : Nat} : pwt n zs e p a = true ↔ isPw (ordN n zs e a) p := by unfold pwt; simp
theorem SylA.size (HA : SylA n zs e p s A ms) (g : IsGrp n zs e) {j : Nat} (hj : j < ms.length) : (ms[j]?.getD []).length = (lst n s).length := by
  obtain ⟨a, ha, h⟩ := HA.one hj
  rw [h, li_len, cj_len g (HA.lt a ha)]
theorem SylA.in_one (HA : SylA n zs e p s A ms) {q : Nat → Bool} {a : Nat} (ha : a < n) (h : ∀ x, x < n → q x = true → cjq n zs e s a x = true) : ∃ j b, j < ms.length ∧ b ∈ A ∧ ms[j]?.getD [] = li (lst n (cjq n zs e s b)) ∧ ∀ x, x < n → q x = true → cjq n zs e s b x = true := by
  obtain ⟨b, hb, h1⟩ := List.mem_map.1 (HA.all a ha)
  have h2 : li (lst n (cjq n zs e s b)) ∈ ms := HA.pm.mem_iff.2 (List.mem_map.2 ⟨b, hb, rfl⟩)
  obtain ⟨j, hj, h3⟩ := List.mem_iff_getElem.1 h2
  refine ⟨j, b, hj, hb, by rw [List.getElem?_eq_getElem hj, Option.getD_some, h3], fun x hx hq => ?_⟩
  rw [bs_inj h1 x hx]
  exact h x hx hq
theorem SylA.holds (HA : SylA n zs e p s A ms) (g : IsGrp n zs e) (hpr : primeB p = true) {q : Nat → Bool} (hq : subT n zs e q = true) (hpw : isPw (lst n q).length p) : ∃ j b, j < ms.length ∧ b ∈ A ∧ ms[j]?.getD [] = li (lst n (cjq n zs e s b)) ∧ ∀ x, x < n → q x = true → cjq n zs e s b x = true := by
  obtain ⟨c, a, _, ha, _, h⟩ := syl_in g hpr HA.gr HA.nd HA.hX hq hpw
  exact HA.in_one ha h
theorem SylA.has (HA : SylA n zs e p s A ms) (g : IsGrp n zs e) (hpr : primeB p = true) {a : Nat} (ha : a < n) (h : isPw (ordN n zs e a) p) : ∃ j, j < ms.length ∧ (a : Int) ∈ ms[j]?.getD [] := by
  obtain ⟨j, b, hj, hb, h1, h2⟩ := HA.holds g hpr (q := mk1 n zs e a) (subT_iff.2 (made_sg g (mk1_iff n zs e a))) (by rw [mk1_len g ha]; exact h)
  refine ⟨j, hj, ?_⟩
  rw [h1]
  exact mem_li.2 (mem_lst.2 ⟨ha, h2 a ha ((mk1_iff n zs e a a ha).2 (Fin.Gen.base (List.mem_range.2 ha) (by simp)))⟩)
theorem SylA.cnt (HA : SylA n zs e p s A ms) (g : IsGrp n zs e) (hpr : primeB p = true) : (lst n s).length ∣ (lst n (pwt n zs e p)).length := by
  have hp := prime_of hpr
  obtain ⟨v, hn, hnd⟩ := syl_len g hpr HA.gr HA.nd HA.hX
  obtain ⟨k, hk⟩ := HA.gr.pow
  rw [hk] at hn ⊢
  have hfr := Fin.frob _ _ _ _ (grp_fg g) List.length_range (p ^ k) ⟨_, by rw [Nat.mul_comm]; exact hn⟩
  have hsame : (List.range n).filter (fun x => decide (Fin.po (tm n zs) e x (p ^ k) = e)) = lst n (pwt n zs e p) := Fin.filter_eq fun x hx => by
    have hxl := List.mem_range.1 hx
    rw [Bool.eq_iff_iff, decide_eq_true_eq, pwt_iff, ord_iff g hxl]
    constructor
    · exact fun h => dvd_pw hp k _ h
    · rintro ⟨j, hj⟩
      rw [hj]
      refine pp_dvd hp hnd ?_
      rw [← hn, ← hj, ← mk1_len g hxl]
      exact sub_dvd g (subT_iff.2 (made_sg g (mk1_iff n zs e x)))
  unfold Fin.cnt at hfr
  rw [hsame] at hfr
  exact hfr
theorem lst_up {q : Nat → Bool} {k : Nat} : (lst (k + 1) q).length = (lst k q).length + (if q k = true then 1 else 0) := by
  unfold lst
  rw [List.range_succ, List.filter_append, List.length_append]
  by_cases h : q k = true
  · simp [h]
  · simp [h]
end Go.Proofs.YtjiapicknkjhmaaGreatDoor

namespace Go.Proofs.YtjiapicknkjhmaaGreatDoor
variable {n e p : Nat} {zs : List Int} {s : Nat → Bool} {A : List Nat} {ms : List (List Int)}

theorem nd_list {α : Type} (l : List α) : ∃ k : List α, k.Nodup ∧ ∀ x, x ∈ k ↔ x ∈ l := by
  classical
  induction l with
  | nil => exact ⟨[], List.nodup_nil, fun x => Iff.rfl⟩
  | cons a l ih =>
    obtain ⟨k, h1, h2⟩ := ih
    by_cases ha : a ∈ l
    · exact ⟨k, h1, fun x => by rw [h2, List.mem_cons]; exact ⟨Or.inr, fun h => h.elim (fun h => h ▸ ha) id⟩⟩
    · exact ⟨a :: k, List.nodup_cons.2 ⟨fun h => ha ((h2 a).1 h), h1⟩, fun x => by rw [List.mem_cons, List.mem_cons, h2]⟩
/-- All that have as many things as the greatest power of p. -/
theorem grown_len {v j : Nat} (g : IsGrp n zs e) (hpr : primeB p = true) (hG : Grown n zs e p s) (h : v * p ^ j = n) (hv : ¬ p ∣ v) : (lst n s).length = p ^ j := by
  obtain ⟨X, hnd, hX⟩ := nd_list ((List.range n).map fun a => fc n zs e s a)
  obtain ⟨u, h1, h2⟩ := syl_len g hpr hG hnd (fun c => by
    rw [hX, List.mem_map]
    exact ⟨fun ⟨a, ha, hh⟩ => ⟨a, List.mem_range.1 ha, hh⟩, fun ⟨a, ha, hh⟩ => ⟨a, List.mem_range.2 ha, hh⟩⟩)
  obtain ⟨k, hk⟩ := hG.pow
  rw [hk] at h1 ⊢
  exact pp_only (prime_of hpr) hv h2 (by rw [← h1, h])
theorem SylA.modp (HA : SylA n zs e p s A ms) (g : IsGrp n zs e) (hpr : primeB p = true) : ms.length % p = 1 := by
  have h := syl_mod g hpr HA.gr HA.nd HA.hX
  rwa [List.length_map, ← HA.len] at h
theorem SylA.divs (HA : SylA n zs e p s A ms) (g : IsGrp n zs e) (hpr : primeB p = true) : n / (lst n s).length % ms.length = 0 := by
  obtain ⟨v, hn, _⟩ := syl_len g hpr HA.gr HA.nd HA.hX
  rw [List.length_map, ← HA.len] at hn
  have hL1 : 1 ≤ (lst n s).length := (Fin.sg_fg (grp_fg g) (subT_iff.1 HA.gr.sub)).pos
  have h9 : n / (lst n s).length = ms.length * v := Nat.div_eq_of_eq_mul_left hL1 hn
  rw [h9, Nat.mul_mod_right]
theorem SylA.less (HA : SylA n zs e p s A ms) (i j : Nat) (hij : i < j) (hj : j < ms.length) : cmpL (ms[i]?.getD []) (ms[j]?.getD []) < 0 := by
  have h1 := HA.st i j hij hj
  have hnd : ms.Nodup := by
    refine (HA.pm.nodup_iff).2 ?_
    have hk : (A.map fun a => bs (cjq n zs e s a) n) = (A.map fun a => li (lst n (cjq n zs e s a))).map fun l => bs (pset l) n := by
      rw [List.map_map]
      exact List.map_congr_left fun a _ => (bs_ext fun x hx => pset_lst hx).symm
    have hn2 := HA.nd
    rw [hk] at hn2
    exact (List.pairwise_map.1 hn2).imp fun h9 h8 => h9 (by rw [h8])
  have hne : ms[i]?.getD [] ≠ ms[j]?.getD [] := by
    rw [List.getElem?_eq_getElem (by omega), List.getElem?_eq_getElem hj, Option.getD_some, Option.getD_some]
    intro h
    exact List.pairwise_iff_getElem.1 hnd i j (by omega) hj hij h
  have h2 : cmpL (ms[i]?.getD []) (ms[j]?.getD []) ≠ 0 := fun h => hne ((cmpL_zero _ _).1 h)
  rw [cmpL_neg] at h1
  omega
theorem SylA.at (HA : SylA n zs e p s A ms) {a : Nat} (ha : a < n) : ∃ j, j < ms.length ∧ ms[j]?.getD [] = li (lst n (cjq n zs e s a)) := by
  obtain ⟨b, hb, h1⟩ := List.mem_map.1 (HA.all a ha)
  have h2 : li (lst n (cjq n zs e s b)) ∈ ms := HA.pm.mem_iff.2 (List.mem_map.2 ⟨b, hb, rfl⟩)
  obtain ⟨j, hj, h3⟩ := List.mem_iff_getElem.1 h2
  refine ⟨j, hj, ?_⟩
  rw [List.getElem?_eq_getElem hj, Option.getD_some, h3]
  congr 1
  exact lst_congr fun x hx => bs_inj h1 x hx
/-- What the first of them is, moved. -/
def shd (n : Nat) (zs : List Int) (e : Nat) (xs : List Nat) (a : Nat) : List Int := li (lst n (cjl n zs e xs a))
theorem SylA.moved (HA : SylA n zs e p s A ms) (g : IsGrp n zs e) {xs : List Nat} (h0 : ms[0]?.getD [] = li xs) {a : Nat} (ha : a < n) : ∃ j, j < ms.length ∧ shd n zs e xs a = ms[j]?.getD [] := by
  obtain ⟨b, hb, h1⟩ := HA.one (HA.pos g.elt)
  have hxs : xs = lst n (cjq n zs e s b) := li_inj (h0.symm.trans h1)
  subst hxs
  obtain ⟨j, hj, h2⟩ := HA.at (tm_lt g.tab (HA.lt b hb) ha)
  refine ⟨j, hj, ?_⟩
  rw [h2]
  unfold shd
  congr 1
  exact lst_congr fun x hx => bs_inj (cjq_twice g (HA.lt b hb) ha) x hx
theorem SylA.reach (HA : SylA n zs e p s A ms) (g : IsGrp n zs e) {xs : List Nat} (h0 : ms[0]?.getD [] = li xs) {j : Nat} (hj : j < ms.length) : ∃ a, a < n ∧ shd n zs e xs a = ms[j]?.getD [] := by
  obtain ⟨b, hb, h1⟩ := HA.one (HA.pos g.elt)
  have hxs : xs = lst n (cjq n zs e s b) := li_inj (h0.symm.trans h1)
  subst hxs
  obtain ⟨c, hc, h2⟩ := HA.one hj
  have hbn := HA.lt b hb
  have hcn := HA.lt c hc
  obtain ⟨hi, h3, h4, _⟩ := iv_spec g hbn
  have F := grp_fg g
  refine ⟨tm n zs (iv n zs e b) c, tm_lt g.tab hi hcn, ?_⟩
  rw [h2]
  unfold shd
  congr 1
  refine lst_congr fun x hx => ?_
  have h5 := bs_inj (cjq_twice (q := s) g hbn (tm_lt g.tab hi hcn)) x hx
  have h6 : tm n zs b (tm n zs (iv n zs e b) c) = c := by
    rw [← F.ass b (iv n zs e b) c (List.mem_range.2 hbn) (List.mem_range.2 hi) (List.mem_range.2 hcn), h3, F.left c (List.mem_range.2 hcn)]
  rw [h6] at h5
  exact h5
theorem lst_full {q r : Nat → Bool} (h : ∀ x, x < n → q x = true → r x = true) (hl : (lst n q).length = (lst n r).length) : ∀ x, x < n → r x = true → q x = true := fun x hx hr => by
  have h1 : (lst n q).Sublist (lst n r) := by
    have : lst n q = (lst n r).filter q := by
      unfold lst
      rw [List.filter_filter]
      exact Fin.filter_eq fun y hy => by
        cases hq : q y with
        | false => simp
        | true => simp [h y (List.mem_range.1 hy) hq]
    rw [this]
    exact List.filter_sublist
  have h2 := h1.eq_of_length hl
  have h3 : x ∈ lst n q := by rw [h2]; exact mem_lst.2 ⟨hx, hr⟩
  exact (mem_lst.1 h3).2
/-- What is in all of them is what Core answers. -/
theorem SylA.core (HA : SylA n zs e p s A ms) (g : IsGrp n zs e) (hpr : primeB p = true) {s' : Nat → Bool} {A' : List Nat} (hG : Grown n zs e p s') (hA : ∀ a, a ∈ A' → a < n) (hall : ∀ a, a < n → bs (cjq n zs e s' a) n ∈ A'.map fun a => bs (cjq n zs e s' a) n) {x : Nat} (hx : x < n) : cin n zs e s' A' x = true ↔ ∀ j, j < ms.length → (x : Int) ∈ ms[j]?.getD [] := by
  obtain ⟨v, b, hvb, hv⟩ := strip (p := p) (prime_of hpr).1 n (Fin.Fg.pos (grp_fg g) |> fun h => by simpa using h)
  have l1 := grown_len g hpr HA.gr hvb.symm hv
  have l2 := grown_len g hpr hG hvb.symm hv
  obtain ⟨X, hnd, hX0⟩ := nd_list ((List.range n).map fun a => fc n zs e s' a)
  have hX : ∀ c, c ∈ X ↔ ∃ a, a < n ∧ fc n zs e s' a = c := fun c => by
    rw [hX0, List.mem_map]
    exact ⟨fun ⟨a, ha, hh⟩ => ⟨a, List.mem_range.1 ha, hh⟩, fun ⟨a, ha, hh⟩ => ⟨a, List.mem_range.2 ha, hh⟩⟩
  unfold cin
  rw [List.all_eq_true]
  constructor
  · intro h j hj
    obtain ⟨c, hc, h1⟩ := HA.one hj
    have hcn := HA.lt c hc
    rw [h1, mem_li, mem_lst]
    refine ⟨hx, ?_⟩
    obtain ⟨_, a, _, ha, _, h2⟩ := syl_in g hpr hG hnd hX (cj_sg g HA.gr.sub hcn) (by rw [cj_len g hcn]; exact HA.gr.pow)
    refine lst_full h2 (by rw [cj_len g hcn, cj_len g ha, l1, l2]) x hx ?_
    obtain ⟨a', ha', h3⟩ := List.mem_map.1 (hall a ha)
    rw [← bs_inj h3 x hx]
    exact h a' ha'
  · intro h a ha
    have han := hA a ha
    obtain ⟨j, c, hj, hc, h1, h2⟩ := HA.holds g hpr (cj_sg g hG.sub han) (by rw [cj_len g han]; exact hG.pow)
    have hcn := HA.lt c hc
    refine lst_full h2 (by rw [cj_len g hcn, cj_len g han, l1, l2]) x hx ?_
    have h3 := h j hj
    rw [h1, mem_li, mem_lst] at h3
    exact h3.2
end Go.Proofs.YtjiapicknkjhmaaGreatDoor
