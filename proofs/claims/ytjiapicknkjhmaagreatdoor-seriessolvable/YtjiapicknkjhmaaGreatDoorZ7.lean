/- Greatest normal subgroups and composition series of finite groups as mathematics: THE THEOREM OF JORDAN AND HOELDER: all have the same factors. No condition. Package series' greatest: a greatest normal subgroup of a subgroup. Condition: the library's table of places lies as its text lays it. Package series' greatest, walked: a greatest normal subgroup of a subgroup. Condition: the library's table of places lies as its text lays it. Package series' Composition. Condition: the library's table of places lies as its text lays it. Solvable groups as mathematics: a greatest normal subgroup has a prime number of cosets just where all things commute but for it. No condition. Normaliser at a subgroup. Condition: the library's table of places lies as its text lays it. Package quot's numbers and group: lists that are parts of a group, numbered. -/
import Derived.Test.YtjiapicknkjhmaaGreatDoorZ1
import Derived.Test.YtjiapicknkjhmaaGreatDoorZ6
import Derived.Test.YtjiapicknkjhmaaGreatDoorZ5
import Derived.Test.YtjiapicknkjhmaaGreatDoorZ3
import Derived.BigQuiet
import Derived.Deep.AppendLies
import Derived.Deep.DeepCutAuto
import Derived.Deep.RegionLaw
import Derived.Laws.EntriesVeiled
import Derived.Maps.AppendAt
import Derived.Maps.Ext
import Derived.Maps.OwnOps
import Derived.Maps.OwnSet
namespace Go.Proofs.YtjiapicknkjhmaaGreatDoor.Fin
variable {l : List Nat} {m : Nat → Nat → Nat} {e : Nat} {iv : Nat → Nat}

abbrev SgB (l : List Nat) (m : Nat → Nat → Nat) (e : Nat) (q : Nat → Bool) : Prop := Sg l m e (fun a => q a = true)
/-- Is what the first has in the second? -/
def In (l : List Nat) (p q : Nat → Bool) : Prop := ∀ x, x ∈ l → p x = true → q x = true
/-- How many things. -/
def sz (l : List Nat) (q : Nat → Bool) : Nat := (l.filter q).length
/-- Conjugated by the second, the first stays. -/
def Nb (l : List Nat) (m : Nat → Nat → Nat) (iv : Nat → Nat) (C A : Nat → Bool) : Prop := ∀ x a, x ∈ l → a ∈ l → C x = true → A a = true → C (cj m iv x a) = true
theorem In.refl (p : Nat → Bool) : In l p p := fun _ _ h => h
theorem In.trans {p q r : Nat → Bool} (h1 : In l p q) (h2 : In l q r) : In l p r := fun x hx h => h2 x hx (h1 x hx h)
theorem in_filter {p q : Nat → Bool} (h : In l p q) : l.filter p = (l.filter q).filter p := by
  rw [List.filter_filter]
  apply filter_eq
  intro x hx
  cases hpx : p x with
  | false => simp
  | true => simp [h x hx hpx]
theorem sz_le {p q : Nat → Bool} (h : In l p q) : sz l p ≤ sz l q := by
  unfold sz
  rw [in_filter h]
  exact List.length_filter_le _ _
theorem sz_lt {p q : Nat → Bool} (h : In l p q) (hx : ∃ x, x ∈ l ∧ q x = true ∧ ¬ p x = true) : sz l p < sz l q := by
  obtain ⟨x, hx, h1, h2⟩ := hx
  unfold sz
  rw [in_filter h]
  exact List.length_filter_lt_length_iff_exists.2 ⟨x, List.mem_filter.2 ⟨hx, h1⟩, h2⟩
theorem sz_same {p q : Nat → Bool} (h : In l p q) (h' : In l q p) : sz l p = sz l q := Nat.le_antisymm (sz_le h) (sz_le h')
theorem in_of_sz {p q : Nat → Bool} (h : In l p q) (h1 : sz l p = sz l q) : In l q p := fun x hx hq => Classical.byContradiction fun hn => by
  have := sz_lt h ⟨x, hx, hq, hn⟩
  omega
theorem sz_dvd (F : Fg l m e) {p q : Nat → Bool} (S : SgB l m e p) (T : SgB l m e q) (h : In l p q) : sz l p ∣ sz l q :=
  lagr (sg_fg F T) (sg_fg F S) (fun x hx => by
    obtain ⟨h1, h2⟩ := List.mem_filter.1 hx
    exact List.mem_filter.2 ⟨h1, h x h1 h2⟩)
theorem sz_pos (F : Fg l m e) {p : Nat → Bool} (S : SgB l m e p) : 0 < sz l p := List.length_pos_of_mem (List.mem_filter.2 ⟨F.one, S.one⟩)
theorem sz_one (F : Fg l m e) {p : Nat → Bool} (S : SgB l m e p) : sz l p = 1 ↔ ∀ x, x ∈ l → p x = true → x = e := by
  constructor
  · intro h x hx hp
    obtain ⟨y, hy⟩ := List.length_eq_one_iff.1 h
    have h1 : x ∈ l.filter p := List.mem_filter.2 ⟨hx, hp⟩
    have h2 : e ∈ l.filter p := List.mem_filter.2 ⟨F.one, S.one⟩
    rw [hy, List.mem_singleton] at h1 h2
    rw [h1, h2]
  · intro h
    refine Nat.le_antisymm ?_ (sz_pos F S)
    exact nodup_len (l.filter p) [e] (F.nd.filter _) (fun z hz => by
      obtain ⟨h1, h2⟩ := List.mem_filter.1 hz
      simp [h z h1 h2])

/-- The products of two sets. -/
def prq (l : List Nat) (m : Nat → Nat → Nat) (p q : Nat → Bool) (x : Nat) : Bool := l.any fun a => p a && l.any fun b => q b && decide (m a b = x)
theorem prq_iff {p q : Nat → Bool} {x : Nat} : prq l m p q x = true ↔ ∃ a b, a ∈ l ∧ b ∈ l ∧ p a = true ∧ q b = true ∧ m a b = x := by
  unfold prq
  simp only [List.any_eq_true, Bool.and_eq_true, decide_eq_true_eq]
  exact ⟨fun ⟨a, h1, h2, b, h3, h4, h5⟩ => ⟨a, b, h1, h3, h2, h4, h5⟩, fun ⟨a, b, h1, h3, h2, h4, h5⟩ => ⟨a, h1, h2, b, h3, h4, h5⟩⟩
theorem prq_sg (F : Fg l m e) (V : Iv l m e iv) {p q : Nat → Bool} (S : SgB l m e p) (T : SgB l m e q) (hN : Nb l m iv q p) : SgB l m e (prq l m p q) := by
  refine ⟨prq_iff.2 ⟨e, e, F.one, F.one, S.one, T.one, F.left e F.one⟩, fun x y _ _ hx hy => ?_⟩
  obtain ⟨a, b, ha, hb, h1, h2, rfl⟩ := prq_iff.1 hx
  obtain ⟨c, d, hc, hd, h3, h4, rfl⟩ := prq_iff.1 hy
  have hj := cj_mem F V hb hc
  refine prq_iff.2 ⟨m a c, m (cj m iv b c) d, F.cl _ _ ha hc, F.cl _ _ hj hd, S.mul _ _ ha hc h1 h3, T.mul _ _ hj hd (hN b c hb hc h2 h3) h4, ?_⟩
  rw [F.ass a c _ ha hc (F.cl _ _ hj hd), ← F.ass c _ d hc hj hd, cj_eq F V hb hc, F.ass b c d hb hc hd, F.ass a b _ ha hb (F.cl _ _ hc hd)]
theorem prq_left (F : Fg l m e) {p q : Nat → Bool} (T : SgB l m e q) : In l p (prq l m p q) := fun x hx h => prq_iff.2 ⟨x, e, hx, F.one, h, T.one, F.right x hx⟩
theorem prq_right (F : Fg l m e) {p q : Nat → Bool} (S : SgB l m e p) : In l q (prq l m p q) := fun x hx h => prq_iff.2 ⟨e, x, F.one, hx, S.one, h, F.left x hx⟩
theorem prq_in {p q r : Nat → Bool} (T : SgB l m e r) (h1 : In l p r) (h2 : In l q r) : In l (prq l m p q) r := fun _ _ h => by
  obtain ⟨a, b, ha, hb, h3, h4, rfl⟩ := prq_iff.1 h
  exact T.mul a b ha hb (h1 a ha h3) (h2 b hb h4)
theorem prq_nb (F : Fg l m e) (V : Iv l m e iv) {p q A : Nat → Bool} (h1 : Nb l m iv p A) (h2 : Nb l m iv q A) : Nb l m iv (prq l m p q) A := fun _ c _ hc hx hA => by
  obtain ⟨a, b, ha, hb, h3, h4, rfl⟩ := prq_iff.1 hx
  exact prq_iff.2 ⟨cj m iv a c, cj m iv b c, cj_mem F V ha hc, cj_mem F V hb hc, h1 a c ha hc h3 hA, h2 b c hb hc h4 hA, (cj_mul F V ha hb hc).symm⟩
theorem nb_own (F : Fg l m e) (V : Iv l m e iv) {p : Nat → Bool} (S : SgB l m e p) : Nb l m iv p p := fun _ a hx ha h1 h2 =>
  S.mul _ _ (V a ha).1 (F.cl _ _ hx ha) (S.inv F ha (V a ha).1 (V a ha).2.1 h2) (S.mul _ _ hx ha h1 h2)
theorem Nb.less {p A B : Nat → Bool} (h : Nb l m iv p A) (hB : In l B A) : Nb l m iv p B := fun x a hx ha h1 h2 => h x a hx ha h1 (hB a ha h2)
/-- x, conjugated by c, is x times something that c makes with its conjugates by x. -/
theorem cj_split (F : Fg l m e) (V : Iv l m e iv) {x c : Nat} (hx : x ∈ l) (hc : c ∈ l) : m x (m (cj m iv (iv c) x) c) = cj m iv x c := by
  have hi := (V c hc).1
  have hj := (V x hx).1
  have h1 := cj_mem F V hi hx
  rw [← F.ass x _ c hx h1 hc, cj_eq F V hi hx]
  unfold cj
  rw [F.ass _ x c hi hx hc]

/-- The second one is a greatest normal subgroup of the first one. -/
structure Mxn (l : List Nat) (m : Nat → Nat → Nat) (e : Nat) (iv : Nat → Nat) (A B : Nat → Bool) : Prop where
  sg : SgB l m e B
  sub : In l B A
  nm : Nb l m iv B A
  less : ∃ x, x ∈ l ∧ A x = true ∧ ¬ B x = true
  top : ∀ C : Nat → Bool, SgB l m e C → In l B C → In l C A → Nb l m iv C A → In l C B ∨ In l A C
theorem Mxn.congr {A A' B B' : Nat → Bool} (h : Mxn l m e iv A B) (h1 : ∀ x, x ∈ l → A x = A' x) (h2 : ∀ x, x ∈ l → B x = B' x) (F : Fg l m e) (V : Iv l m e iv) : Mxn l m e iv A' B' where
  sg := ⟨by show B' e = true; rw [← h2 e F.one]; exact h.sg.one, fun a b ha hb h3 h4 => by
    show B' _ = true
    rw [← h2 _ (F.cl _ _ ha hb)]
    exact h.sg.mul a b ha hb (by rw [h2 a ha]; exact h3) (by rw [h2 b hb]; exact h4)⟩
  sub := fun x hx h3 => by rw [← h1 x hx]; exact h.sub x hx (by rw [h2 x hx]; exact h3)
  nm := fun x a hx ha h3 h4 => by rw [← h2 _ (cj_mem F V hx ha)]; exact h.nm x a hx ha (by rw [h2 x hx]; exact h3) (by rw [h1 a ha]; exact h4)
  less := by
    obtain ⟨x, hx, h3, h4⟩ := h.less
    exact ⟨x, hx, by rw [← h1 x hx]; exact h3, by rw [← h2 x hx]; exact h4⟩
  top := fun C hC h3 h4 h5 => by
    rcases h.top C hC (fun x hx h6 => h3 x hx (by rw [← h2 x hx]; exact h6)) (fun x hx h6 => by rw [h1 x hx]; exact h4 x hx h6) (fun x a hx ha h6 h7 => h5 x a hx ha h6 (by rw [← h1 a ha]; exact h7)) with h6 | h6
    · exact .inl fun x hx h7 => by rw [← h2 x hx]; exact h6 x hx h7
    · exact .inr fun x hx h7 => h6 x hx (by rw [h1 x hx]; exact h7)
theorem mxn_over (F : Fg l m e) (V : Iv l m e iv) {A : Nat → Bool} : ∀ (k : Nat) (p : Nat → Bool), SgB l m e p → In l p A → Nb l m iv p A → (∃ x, x ∈ l ∧ A x = true ∧ ¬ p x = true) → sz l A - sz l p ≤ k → ∃ B, Mxn l m e iv A B ∧ In l p B
  | 0, p, _, hin, _, hl, hk => by
    have := sz_lt hin hl
    omega
  | k + 1, p, S, hin, hN, hl, hk => by
    rcases Classical.em (∃ C : Nat → Bool, SgB l m e C ∧ In l p C ∧ In l C A ∧ Nb l m iv C A ∧ (∃ x, x ∈ l ∧ C x = true ∧ ¬ p x = true) ∧ ∃ x, x ∈ l ∧ A x = true ∧ ¬ C x = true) with ⟨C, h1, h2, h3, h4, h5, h6⟩ | hno
    · have h7 := sz_lt h2 h5
      have h8 := sz_lt h3 h6
      obtain ⟨B, h9, h10⟩ := mxn_over F V k C h1 h3 h4 h6 (by omega)
      exact ⟨B, h9, h2.trans h10⟩
    · refine ⟨p, ⟨S, hin, hN, hl, fun C h1 h2 h3 h4 => ?_⟩, In.refl p⟩
      rcases Classical.em (In l C p) with h5 | h5
      · exact .inl h5
      · refine .inr fun x hx hA => Classical.byContradiction fun hn => hno ⟨C, h1, h2, h3, h4, ?_, x, hx, hA, hn⟩
        exact Classical.byContradiction fun h6 => h5 fun y hy hC => Classical.byContradiction fun h7 => h6 ⟨y, hy, hC, h7⟩

/-- A composition series, from the first one on to the one alone. -/
def Cs (l : List Nat) (m : Nat → Nat → Nat) (e : Nat) (iv : Nat → Nat) : (Nat → Bool) → List (Nat → Bool) → Prop
  | A, [] => ∀ x, x ∈ l → A x = true → x = e
  | A, B :: t => Mxn l m e iv A B ∧ Cs l m e iv B t
/-- Its factors. -/
def facs (l : List Nat) : (Nat → Bool) → List (Nat → Bool) → List Nat
  | _, [] => []
  | A, B :: t => sz l A / sz l B :: facs l B t
theorem Cs.congr (F : Fg l m e) (V : Iv l m e iv) {A A' : Nat → Bool} (hA : ∀ x, x ∈ l → A x = A' x) : ∀ {s : List (Nat → Bool)}, Cs l m e iv A s → Cs l m e iv A' s
  | [], h => fun x hx h1 => h x hx (by rw [hA x hx]; exact h1)
  | _ :: _, h => ⟨h.1.congr hA (fun _ _ => rfl) F V, h.2⟩
theorem facs_congr {A A' : Nat → Bool} (h : sz l A = sz l A') : ∀ s, facs l A s = facs l A' s
  | [] => rfl
  | B :: t => by show sz l A / sz l B :: _ = sz l A' / sz l B :: _; rw [h]
theorem one_sgb (F : Fg l m e) : SgB l m e (fun a => decide (a = e)) := ⟨by simp, fun a b _ _ h1 h2 => by
  simp only [decide_eq_true_eq] at h1 h2 ⊢
  rw [h1, h2, F.left e F.one]⟩
theorem cs_exists (F : Fg l m e) (V : Iv l m e iv) : ∀ (k : Nat) (A : Nat → Bool), SgB l m e A → sz l A ≤ k → ∃ s, Cs l m e iv A s
  | 0, A, S, hk => by have := sz_pos F S; omega
  | k + 1, A, S, hk => by
    rcases Classical.em (∀ x, x ∈ l → A x = true → x = e) with h | h
    · exact ⟨[], h⟩
    · obtain ⟨B, hB, _⟩ := mxn_over F V (A := A) (sz l A) (fun a => decide (a = e)) (one_sgb F) (fun x _ hx => by rw [decide_eq_true_eq] at hx; rw [hx]; exact S.one)
        (fun x a _ ha hx _ => by rw [decide_eq_true_eq] at hx; rw [hx, cj_one F V ha]; simp)
        (Classical.byContradiction fun h1 => h fun x hx hA => Classical.byContradiction fun h2 => h1 ⟨x, hx, hA, by simpa using h2⟩) (by omega)
      have h1 := sz_lt hB.sub hB.less
      obtain ⟨s, hs⟩ := cs_exists F V k B hB.sg (by omega)
      exact ⟨B :: s, hB, hs⟩

/-- Two greatest normal subgroups: what both have is one of each. -/
theorem mxn_both (F : Fg l m e) (V : Iv l m e iv) {N : Nat} (hl : ∀ x, x ∈ l → x < N) {A B C : Nat → Bool} (SA : SgB l m e A) (hB : Mxn l m e iv A B) (hC : Mxn l m e iv A C) (hne : ¬ (In l B C ∧ In l C B)) :
    Mxn l m e iv B (fun x => B x && C x) ∧ sz l A * sz l (fun x => B x && C x) = sz l B * sz l C := by
  have hBC : ¬ In l B C := fun h => by
    rcases hB.top C hC.sg h hC.sub hC.nm with h1 | h1
    · exact hne ⟨h, h1⟩
    · obtain ⟨x, hx, h2, h3⟩ := hC.less
      exact h3 (h1 x hx h2)
  have hCB : ¬ In l C B := fun h => by
    rcases hC.top B hB.sg h hB.sub hB.nm with h1 | h1
    · exact hne ⟨h1, h⟩
    · obtain ⟨x, hx, h2, h3⟩ := hB.less
      exact h3 (h1 x hx h2)
  have hall : In l A (prq l m B C) := by
    rcases hB.top _ (prq_sg F V hB.sg hC.sg (hC.nm.less hB.sub)) (prq_left F hC.sg) (prq_in SA hB.sub hC.sub) (prq_nb F V hB.nm hC.nm) with h | h
    · exact absurd ((prq_right F hB.sg).trans h) hCB
    · exact h
  have SD : SgB l m e (fun x => B x && C x) := ⟨by simp [hB.sg.one, hC.sg.one], fun a b ha hb h1 h2 => by
    simp only [Bool.and_eq_true] at h1 h2 ⊢
    exact ⟨hB.sg.mul a b ha hb h1.1 h2.1, hC.sg.mul a b ha hb h1.2 h2.2⟩⟩
  refine ⟨⟨SD, fun x _ h => by simp only [Bool.and_eq_true] at h; exact h.1, fun x a hx ha h1 h2 => ?_, ?_, fun E hE h1 h2 h3 => ?_⟩, ?_⟩
  · simp only [Bool.and_eq_true] at h1 ⊢
    exact ⟨nb_own F V hB.sg x a hx ha h1.1 h2, hC.nm x a hx ha h1.2 (hB.sub a ha h2)⟩
  · exact Classical.byContradiction fun h => hBC fun x hx h1 => Classical.byContradiction fun h2 => h ⟨x, hx, h1, by simp [h1, h2]⟩
  · have hEA := h2.trans hB.sub
    have hnb : Nb l m iv (prq l m E C) A := fun x a hx ha h4 h5 => by
      obtain ⟨y, c, hy, hc, h6, h7, rfl⟩ := prq_iff.1 h4
      obtain ⟨b, d, hb, hd, h8, h9, rfl⟩ := prq_iff.1 (hall a ha h5)
      have hy1 := cj_mem F V hy hb
      have e1 := h3 y b hy hb h6 h8
      have hi := (V d hd).1
      have hk := cj_mem F V hi hy1
      have hCk : C (cj m iv (iv d) (cj m iv y b)) = true := hC.nm _ _ hi hy1 (hC.sg.inv F hd hi (V d hd).2.1 h9) (hEA _ hy1 e1)
      have hcj := cj_mem F V hc ha
      refine prq_iff.2 ⟨cj m iv y b, m (m (cj m iv (iv d) (cj m iv y b)) d) (cj m iv c (m b d)), hy1, F.cl _ _ (F.cl _ _ hk hd) hcj, e1, hC.sg.mul _ _ (F.cl _ _ hk hd) hcj (hC.sg.mul _ _ hk hd hCk h9) (hC.nm c _ hc ha h7 h5), ?_⟩
      rw [← F.ass _ _ _ hy1 (F.cl _ _ hk hd) hcj, cj_split F V hy1 hd, cj_cj F V hy hb hd, ← cj_mul F V hy hc ha]
    rcases hC.top _ (prq_sg F V hE hC.sg (hC.nm.less hEA)) (prq_right F hE) (prq_in SA hEA hC.sub) hnb with h4 | h4
    · refine .inl fun x hx h5 => ?_
      simp only [Bool.and_eq_true]
      exact ⟨h2 x hx h5, h4 x hx (prq_left F hC.sg x hx h5)⟩
    · refine .inr fun x hx h5 => ?_
      obtain ⟨y, c, hy, hc, h6, h7, rfl⟩ := prq_iff.1 (h4 x hx (hB.sub x hx h5))
      have hyi := (V y hy).1
      have hBc : B c = true := by
        have h8 : m (iv y) (m y c) = c := by rw [← F.ass _ _ _ hyi hy hc, (V y hy).2.2, F.left c hc]
        rw [← h8]
        exact hB.sg.mul _ _ hyi hx (hB.sg.inv F hy hyi (V y hy).2.1 (h2 y hy h6)) h5
      exact hE.mul y c hy hc h6 (h1 c hc (by simp [hBc, h7]))
  · have h := prod_formula F hl hB.sg hC.sg (prq l m B C) (fun x _ => prq_iff)
    have h1 : sz l A = sz l (prq l m B C) := sz_same hall (prq_in SA hB.sub hC.sub)
    rw [h1]
    exact h
theorem div_of {a b c d : Nat} (hb : 0 < b) (hd : 0 < d) (h : a * d = b * c) (h1 : d ∣ c) : a / b = c / d := by
  obtain ⟨k, rfl⟩ := h1
  have h2 : a = b * k := Nat.eq_of_mul_eq_mul_right hd (by rw [h, Nat.mul_assoc, Nat.mul_comm k d])
  rw [h2, Nat.mul_div_cancel_left k hb, Nat.mul_div_cancel_left k hd]
/-- THE THEOREM OF JORDAN AND HOELDER (how many things the factors have). -/
theorem jordan (F : Fg l m e) (V : Iv l m e iv) {N : Nat} (hl : ∀ x, x ∈ l → x < N) : ∀ (k : Nat) (A : Nat → Bool) (s t : List (Nat → Bool)), SgB l m e A → sz l A ≤ k → Cs l m e iv A s → Cs l m e iv A t → (facs l A s).Perm (facs l A t)
  | 0, A, _, _, S, hk, _, _ => by have := sz_pos F S; omega
  | k + 1, A, [], [], _, _, _, _ => .refl _
  | k + 1, A, [], B :: _, S, _, h1, h2 => by
    obtain ⟨x, hx, h3, h4⟩ := h2.1.less
    exact absurd (by rw [h1 x hx h3]; exact h2.1.sg.one) h4
  | k + 1, A, B :: _, [], S, _, h2, h1 => by
    obtain ⟨x, hx, h3, h4⟩ := h2.1.less
    exact absurd (by rw [h1 x hx h3]; exact h2.1.sg.one) h4
  | k + 1, A, B :: s, C :: t, S, hk, h1, h2 => by
    have hB := h1.1
    have hC := h2.1
    have lB := sz_lt hB.sub hB.less
    have lC := sz_lt hC.sub hC.less
    rcases Classical.em (In l B C ∧ In l C B) with h | h
    · have e1 : ∀ x, x ∈ l → C x = B x := fun x hx => by
        rw [Bool.eq_iff_iff]
        exact ⟨h.2 x hx, h.1 x hx⟩
      have e2 := sz_same h.1 h.2
      show (sz l A / sz l B :: facs l B s).Perm (sz l A / sz l C :: facs l C t)
      rw [← e2, ← facs_congr e2 t]
      exact (jordan F V hl k B s t hB.sg (by omega) h1.2 (Cs.congr F V e1 h2.2)).cons _
    · obtain ⟨mB, eq⟩ := mxn_both F V hl S hB hC h
      obtain ⟨mC0, _⟩ := mxn_both F V hl S hC hB (fun h3 => h ⟨h3.2, h3.1⟩)
      have mC : Mxn l m e iv C (fun x => B x && C x) := mC0.congr (fun _ _ => rfl) (fun x _ => Bool.and_comm _ _) F V
      obtain ⟨r, hr⟩ := cs_exists F V (sz l fun x => B x && C x) (fun x => B x && C x) mB.sg (Nat.le_refl _)
      have p1 := jordan F V hl k B s (_ :: r) hB.sg (by omega) h1.2 ⟨mB, hr⟩
      have p2 := jordan F V hl k C t (_ :: r) hC.sg (by omega) h2.2 ⟨mC, hr⟩
      have hD := sz_pos F mB.sg
      have e1 : sz l A / sz l B = sz l C / sz l (fun x => B x && C x) := div_of (sz_pos F hB.sg) hD eq (sz_dvd F mC.sg hC.sg mC.sub)
      have e2 : sz l A / sz l C = sz l B / sz l (fun x => B x && C x) := div_of (sz_pos F hC.sg) hD (by rw [eq, Nat.mul_comm]) (sz_dvd F mB.sg hB.sg mB.sub)
      show (sz l A / sz l B :: facs l B s).Perm (sz l A / sz l C :: facs l C t)
      refine ((p1.cons _).trans ?_).trans (p2.cons _).symm
      rw [e1, e2]
      exact List.Perm.swap _ _ _
theorem facs_prod (F : Fg l m e) : ∀ (A : Nat → Bool) (s : List (Nat → Bool)), SgB l m e A → Cs l m e iv A s → (facs l A s).foldl (· * ·) 1 = sz l A
  | A, [], S, h => ((sz_one F S).2 h).symm
  | A, B :: t, S, h => by
    have hp : ∀ (xs : List Nat) (c : Nat), xs.foldl (· * ·) c = c * xs.foldl (· * ·) 1 := by
      intro xs
      induction xs with
      | nil => intro c; simp
      | cons a xs ih => intro c; rw [List.foldl_cons, List.foldl_cons, ih (c * a), ih (1 * a), Nat.one_mul, Nat.mul_assoc]
    show (facs l B t).foldl (· * ·) (1 * (sz l A / sz l B)) = _
    rw [hp, facs_prod F B t h.1.sg h.2, Nat.one_mul]
    exact Nat.div_mul_cancel (sz_dvd F h.1.sg S h.1.sub)
theorem facs_len : ∀ (A : Nat → Bool) (s : List (Nat → Bool)), (facs l A s).length = s.length
  | _, [] => rfl
  | _, _ :: t => by show (_ :: _).length = _; simp [facs_len _ t]
end Go.Proofs.YtjiapicknkjhmaaGreatDoor.Fin

namespace Go.Proofs.YtjiapicknkjhmaaGreatDoor
open Go Go.RowKit

theorem andn_bs (p q : Nat → Bool) {n : Nat} (hn : n ≤ 60) : Go.bits BinOp.andNot IntKind.u64 (bs p n : Int) (bs q n : Int) = (bs (fun a => p a && !q a) n : Int) := by
  have h64 : ∀ r : Nat → Bool, bs r n < 2 ^ 64 := fun r => Nat.lt_of_lt_of_le (bs_64 hn) (by decide)
  have hv : ∀ r : Nat → Bool, (BitVec.ofInt 64 (bs r n : Int)).toNat = bs r n := fun r => by
    rw [BitVec.ofInt_natCast, BitVec.toNat_ofNat]; exact Nat.mod_eq_of_lt (h64 r)
  have hx : (BitVec.ofInt 64 (bs p n : Int) &&& ~~~BitVec.ofInt 64 (bs q n : Int)).toNat = bs (fun a => p a && !q a) n := by
    apply Nat.eq_of_testBit_eq
    intro i
    rw [BitVec.testBit_toNat, BitVec.getLsbD_and, BitVec.getLsbD_not, ← BitVec.testBit_toNat, ← BitVec.testBit_toNat, hv, hv, bs_bit, bs_bit, bs_bit]
    by_cases hi : i < n
    · have : i < 64 := by omega
      simp [hi, this]
    · simp [hi]
  show IntKind.u64.wrap ((BitVec.ofInt 64 (bs p n : Int) &&& ~~~BitVec.ofInt 64 (bs q n : Int)).toNat : Int) = _
  rw [hx, IntKind.wrap_u64]
  have := h64 (fun a => p a && !q a)
  omega
/-- The least subgroup that has a set, and is, conjugated by another one's things, the same. -/
noncomputable def clb (n : Nat) (zs : List Int) (e : Nat) (q r : Nat → Bool) : Nat → Bool := (mkd_ex' n zs e (clx n zs e q (lst n r))).choose
theorem clb_iff (n : Nat) (zs : List Int) (e : Nat) (q r : Nat → Bool) : ∀ a, a < n → (clb n zs e q r a = true ↔ Mkd n zs e (clx n zs e q (lst n r)) a) := (mkd_ex' n zs e (clx n zs e q (lst n r))).choose_spec
/-- With one thing more. -/
def plus (q : Nat → Bool) (a : Nat) : Nat → Bool := fun x => q x || decide (x = a)
/-- Where it goes on from a normal subgroup. -/
noncomputable def grw (n : Nat) (zs : List Int) (e : Nat) (s : Nat → Bool) : Nat → (Nat → Bool) → Nat → Bool
  | 0, q => q
  | k + 1, q => match (lst n fun a => s a && !q a).find? (fun a => decide (bs (clb n zs e (plus q a) s) n ≠ bs s n)) with
    | none => q
    | some a => grw n zs e s k (clb n zs e (plus q a) s)
noncomputable def grt (n : Nat) (zs : List Int) (e : Nat) (s : Nat → Bool) : Nat → Bool := grw n zs e s 60 (fun a => decide (a = e))
section
variable {n e : Nat} {zs : List Int} {s q : Nat → Bool}
theorem clx_iff {n e : Nat} {zs : List Int} {q r : Nat → Bool} {y : Nat} : clx n zs e q (lst n r) y = true ↔ ∃ x a, x < n ∧ a < n ∧ q x = true ∧ r a = true ∧ Fin.cj (tm n zs) (iv n zs e) x a = y := by
  unfold clx
  simp only [List.any_eq_true, mem_lst, cjq_iff, List.mem_range]
  exact ⟨fun ⟨a, ⟨ha, h1⟩, x, hx, h2, h3⟩ => ⟨x, a, hx, ha, h2, h1, h3⟩, fun ⟨x, a, hx, ha, h2, h1, h3⟩ => ⟨a, ⟨ha, h1⟩, x, hx, h2, h3⟩⟩
theorem clb_sg (g : IsGrp n zs e) : Fin.SgB (List.range n) (tm n zs) e (clb n zs e q s) := made_sg g (clb_iff n zs e q s)
theorem clb_has (g : IsGrp n zs e) (hs : s e = true) {x : Nat} (hx : x < n) (h : q x = true) : clb n zs e q s x = true := by
  refine (clb_iff n zs e q s x hx).2 (Fin.Gen.base (List.mem_range.2 hx) (clx_iff.2 ⟨x, e, hx, g.elt, h, hs, ?_⟩))
  exact Fin.cj_id (grp_fg g) (grp_iv g) (List.mem_range.2 hx)
theorem clb_in {r : Nat → Bool} (hr : Fin.SgB (List.range n) (tm n zs) e r) (h1 : ∀ x, x < n → q x = true → r x = true) (h2 : Fin.Nb (List.range n) (tm n zs) (iv n zs e) r s) {x : Nat} (hx : x < n) (h : clb n zs e q s x = true) : r x = true :=
  Fin.Gen.least hr (fun y _ h3 => by
    obtain ⟨z, a, hz, ha, h4, h5, rfl⟩ := clx_iff.1 h3
    exact h2 z a (List.mem_range.2 hz) (List.mem_range.2 ha) (h1 z hz h4) h5) ((clb_iff n zs e q s x hx).1 h)
theorem clb_nb (g : IsGrp n zs e) (hs : Fin.SgB (List.range n) (tm n zs) e s) : Fin.Nb (List.range n) (tm n zs) (iv n zs e) (clb n zs e q s) s := fun x a hx ha h1 h2 => by
  have F := grp_fg g
  have V := grp_iv g
  have hm := Fin.cj_mem F V hx ha
  refine (clb_iff n zs e q s _ (List.mem_range.1 hm)).2 ?_
  have h3 := (clb_iff n zs e q s x (List.mem_range.1 hx)).1 h1
  -- the things whose conjugates by a are made are a subgroup
  refine h3 (fun y => Mkd n zs e (clx n zs e q (lst n s)) (Fin.cj (tm n zs) (iv n zs e) y a)) ⟨?_, fun y z hy hz h4 h5 => ?_⟩ (fun y hy h4 => ?_)
  · show Mkd _ _ _ _ (Fin.cj _ _ _ _)
    rw [Fin.cj_one F V ha]
    exact (Fin.Gen.sg _).one
  · show Mkd _ _ _ _ (Fin.cj _ _ _ _)
    rw [Fin.cj_mul F V hy hz ha]
    exact (Fin.Gen.sg _).mul _ _ (Fin.cj_mem F V hy ha) (Fin.cj_mem F V hz ha) h4 h5
  · obtain ⟨z, b, hz, hb, h5, h6, rfl⟩ := clx_iff.1 h4
    have hb' := List.mem_range.2 hb
    refine Fin.Gen.base (Fin.cj_mem F V hy ha) (clx_iff.2 ⟨z, tm n zs b a, hz, tm_lt g.tab hb (List.mem_range.1 ha), h5, hs.mul b a hb' ha h6 h2, ?_⟩)
    rw [Fin.cj_cj F V (List.mem_range.2 hz) hb' ha]
/-- A normal subgroup of a subgroup that is not all of it. -/
structure Nin (n : Nat) (zs : List Int) (e : Nat) (s q : Nat → Bool) : Prop where
  sg : Fin.SgB (List.range n) (tm n zs) e q
  sub : ∀ x, x < n → q x = true → s x = true
  nb : Fin.Nb (List.range n) (tm n zs) (iv n zs e) q s
theorem Nin.up (g : IsGrp n zs e) (hs : Fin.SgB (List.range n) (tm n zs) e s) (h : Nin n zs e s q) {a : Nat} (ha : s a = true) : Nin n zs e s (clb n zs e (plus q a) s) :=
  ⟨clb_sg g, fun x hx h1 => clb_in hs (fun y hy h2 => by
    unfold plus at h2
    rw [Bool.or_eq_true, decide_eq_true_eq] at h2
    rcases h2 with h2 | rfl
    · exact h.sub y hy h2
    · exact ha) (Fin.nb_own (grp_fg g) (grp_iv g) hs) hx h1, clb_nb g hs⟩
theorem plus_less (g : IsGrp n zs e) (hs : s e = true) {a : Nat} (ha : a < n) (hq : ¬ q a = true) : (lst n q).length < (lst n (clb n zs e (plus q a) s)).length :=
  (lst_less fun x hx h => clb_has g hs hx (by unfold plus; rw [h, Bool.true_or])).2 ⟨a, ha, clb_has g hs ha (by unfold plus; simp), hq⟩
/-- What is found in the end is a greatest one. -/
theorem grw_top (g : IsGrp n zs e) (hs : Fin.SgB (List.range n) (tm n zs) e s) : ∀ (k : Nat) (q : Nat → Bool), Nin n zs e s q → n < (lst n q).length + k → (∃ x, x < n ∧ s x = true ∧ ¬ q x = true) →
    Fin.Mxn (List.range n) (tm n zs) e (iv n zs e) s (grw n zs e s k q)
  | 0, q, _, h, _ => by
    have := lst_len n q
    omega
  | k + 1, q, hq, h, hl => by
    unfold grw
    cases hf : (lst n fun a => s a && !q a).find? (fun a => decide (bs (clb n zs e (plus q a) s) n ≠ bs s n)) with
    | none =>
      rw [List.find?_eq_none] at hf
      show Fin.Mxn (List.range n) (tm n zs) e (iv n zs e) s q
      obtain ⟨x, hx, hx1, hx2⟩ := hl
      refine ⟨hq.sg, fun x hx => hq.sub x (List.mem_range.1 hx), hq.nb, ⟨x, List.mem_range.2 hx, hx1, hx2⟩, fun C hC h1 h2 h3 => ?_⟩
      rcases Classical.em (Fin.In (List.range n) C q) with h4 | h4
      · exact .inl h4
      · refine .inr ?_
        obtain ⟨a, ha, ha1, ha2⟩ : ∃ a, a ∈ List.range n ∧ C a = true ∧ ¬ q a = true := Classical.byContradiction fun h5 => h4 fun y hy hC => Classical.byContradiction fun h6 => h5 ⟨y, hy, hC, h6⟩
        have h5 := hf a (mem_lst.2 ⟨List.mem_range.1 ha, by simp [h2 a ha ha1, ha2]⟩)
        have h5 : bs (clb n zs e (plus q a) s) n = bs s n := by simpa using h5
        intro y hy hy1
        have hy' := List.mem_range.1 hy
        have h6 : clb n zs e (plus q a) s y = true := by rw [bs_inj h5 y hy']; exact hy1
        exact clb_in hC (fun z hz h7 => by
          unfold plus at h7
          rw [Bool.or_eq_true, decide_eq_true_eq] at h7
          rcases h7 with h7 | rfl
          · exact h1 z (List.mem_range.2 hz) h7
          · exact ha1) h3 hy' h6
    | some a =>
      have h1 := List.find?_some hf
      have h2 := mem_lst.1 (List.mem_of_find?_eq_some hf)
      rw [decide_eq_true_eq] at h1
      obtain ⟨ha, h3⟩ := h2
      rw [Bool.and_eq_true] at h3
      have h4 : ¬ q a = true := by have := h3.2; simpa using this
      have hup := hq.up g hs h3.1
      show Fin.Mxn (List.range n) (tm n zs) e (iv n zs e) s (grw n zs e s k (clb n zs e (plus q a) s))
      refine grw_top g hs k _ hup ?_ ?_
      · have := plus_less g hs.one ha h4
        omega
      · exact Classical.byContradiction fun h9 => h1 (bs_ext fun x hx => by
          rw [Bool.eq_iff_iff]
          exact ⟨hup.sub x hx, fun h5 => Classical.byContradiction fun h6 => h9 ⟨x, hx, h5, h6⟩⟩)
theorem nin_one (g : IsGrp n zs e) (hs : Fin.SgB (List.range n) (tm n zs) e s) : Nin n zs e s (fun a => decide (a = e)) :=
  ⟨Fin.one_sgb (grp_fg g), fun x _ h => by rw [decide_eq_true_eq] at h; rw [h]; exact hs.one, fun x a _ ha h _ => by
    rw [decide_eq_true_eq] at h
    rw [h, Fin.cj_one (grp_fg g) (grp_iv g) ha]
    simp⟩
theorem grt_top (g : IsGrp n zs e) (hs : Fin.SgB (List.range n) (tm n zs) e s) (hl : ∃ x, x < n ∧ s x = true ∧ x ≠ e) : Fin.Mxn (List.range n) (tm n zs) e (iv n zs e) s (grt n zs e s) := by
  refine grw_top g hs 60 _ (nin_one g hs) ?_ ?_
  · rw [one_lst g.elt]
    have := g.tab.le
    simp
    omega
  · obtain ⟨x, hx, h1, h2⟩ := hl
    exact ⟨x, hx, h1, by simpa using h2⟩
/-- Of the one alone it is that. -/
theorem grt_one (hs : Fin.SgB (List.range n) (tm n zs) e s) (hl : ∀ x, x < n → s x = true → x = e) : bs (grt n zs e s) n = bs s n := by
  have h1 : grt n zs e s = fun a => decide (a = e) := by
    unfold grt grw
    rw [show (lst n fun a => s a && !decide (a = e)) = [] by
      refine List.eq_nil_iff_forall_not_mem.2 fun a ha => ?_
      obtain ⟨h2, h3⟩ := mem_lst.1 ha
      rw [Bool.and_eq_true] at h3
      rw [hl a h2 h3.1] at h3
      simp at h3]
    rfl
  rw [h1]
  refine bs_ext fun x hx => ?_
  rw [Bool.eq_iff_iff, decide_eq_true_eq]
  exact ⟨fun h => by rw [h]; exact hs.one, hl x hx⟩
end
end Go.Proofs.YtjiapicknkjhmaaGreatDoor

namespace Go.Proofs.YtjiapicknkjhmaaGreatDoor
open Go Go.RowKit

set_option maxRecDepth 100000 in
set_option maxHeartbeats 4000000 in
theorem greatest_ok (n e : Nat) (v u : Value) (zs : List Int) (s : Nat → Bool) (w : World) (hG : GA w n v e u zs) (hT : Tab w) (hse : s e = true) :
    Calls Tryz.prog 70 #[.agg #[.int .i64 n, v, .int .i64 e, u], .int .u64 (bs s n)] w fun x w' => x = .returned (.int .u64 (bs (grt n zs e s) n)) ∧ Below w.heap.size w w' := by
  have hn := hG.le
  have hen := hG.grp.elt
  have HGR := hide hG.grp
  have hB0 : Below w.heap.size w (w.alloc (.cells #[.int .i64 n, v, .int .i64 e, u] 66)) := balloc w _
  have hX0 : Blk (w.alloc (.cells #[.int .i64 n, v, .int .i64 e, u] 66)) w.heap.size 66 [.int .i64 n, v, .int .i64 e, u] := blk4 _ _ _ _
  have HCL := hide (fun W (q : Nat → Bool) (h : Below w.heap.size w W) => kclo_ok n v u zs e q s (clb n zs e q s) W (hG.below h) (hT.below h) (clb_iff n zs e q s))
  have HLI := hide (fun W (q : Nat → Bool) (h : Below w.heap.size w W) => list_ok n q W hn (hT.below h))
  have HO1 := hide (fun (W : World) (g k : Nat) (hlt : k < n) (hc : W.cell? ⟨g, 0, none⟩ = some (.int .i64 k)) => of_one n g k W hn hlt hc)
  have HAN := hide (fun q : Nat → Bool => andn_bs s q hn)
  have HFIN : Hid (grw n zs e s 60 (fun a => decide (a = e)) = grt n zs e s) := hide rfl
  have HLE := hide (fun (q : Nat → Bool) (a : Nat) (ha : a < n) (hq : ¬ q a = true) => plus_less (q := q) hG.grp hse ha hq)
  have HCN := hide (fun q : Nat → Bool => Pop.cnt_bs q hn)
  obtain ⟨_, c0, c1, c2, c3, _⟩ := Four.mk' hX0
  have HOF := hide (of_one n (w.heap.size + 1) e ((w.alloc (.cells #[.int .i64 n, v, .int .i64 e, u] 66)).alloc (.cells #[.int .i64 e] 3)) hn hen (by have := cell1 (w.alloc (.cells #[.int .i64 n, v, .int .i64 e, u] 66)) (.int .i64 e) 3; rwa [World.size_alloc] at this))
  obtain ⟨R, hR⟩ : ∃ R, R = grt n zs e s := ⟨_, rfl⟩
  rw [← hR] at HFIN ⊢
  clear hR
  go_enter Tryz.func70, Tryz.ntmps70
  go_wp2_with fail
  go_step3
  go_wp2_with fail
  refine HOF.out.mono ?_
  rintro e1 w1 ⟨rfl, rfl⟩
  have hB1 := bcat2 hB0 (balloc _ (.cells #[.int .i64 e] 3))
  have hX1 := blk_below hX0 (balloc _ (.cells #[.int .i64 e] 3))
  clear c0 c1 c2 c3 hX0 hB0 HOF
  generalize (w.alloc (.cells #[.int .i64 n, v, .int .i64 e, u] 66)).alloc (.cells #[.int .i64 e] 3) = w1 at *
  go_wp2_with fail
  go_step3
  go_wp2_with fail
  go_loopw [5] (fun sv wr => ∃ (q : Nat → Bool) (k : Nat), sv = .int .u64 (bs q n) ∧ Hid (grw n zs e s k q = R) ∧ n < (lst n q).length + k ∧ Blk wr w.heap.size 66 [.int .i64 n, v, .int .i64 e, u] ∧ Below w.heap.size w wr) (fun sv _ => 60 - Pop.cnt (intOf sv).toNat)
  case atStart => exact ⟨_, 60, rfl, HFIN, by rw [one_lst hen]; simp; omega, hX1, hB1⟩
  case round =>
    clear hX1 hB1 HFIN
    obtain ⟨q, k, rfl, HF, hk, hX, hB⟩ := hrel
    have hql := lst_len n q
    obtain ⟨kk, rfl⟩ : ∃ kk, k = kk + 1 := ⟨k - 1, by omega⟩
    have HK := hide hk
    clear hk
    obtain ⟨xs, hxs⟩ : ∃ xs, xs = lst n fun a => s a && !q a := ⟨_, rfl⟩
    have HUN : Hid ((match xs.find? (fun a => decide (bs (clb n zs e (plus q a) s) n ≠ bs s n)) with | none => q | some a => grw n zs e s kk (clb n zs e (plus q a) s)) = R) := hide (by rw [← HF.out, hxs]; rfl)
    have HXM := hide (fun x (h : x ∈ xs) => (show x < n ∧ s x = true ∧ ¬ q x = true by
      rw [hxs] at h
      obtain ⟨h1, h2⟩ := mem_lst.1 h
      rw [Bool.and_eq_true] at h2
      exact ⟨h1, h2.1, by have := h2.2; simpa using this⟩))
    have hxl : xs.length ≤ 60 := by rw [hxs]; exact Nat.le_trans (lst_len _ _) hn
    have HLX := hide (HLI.out wr (fun a => s a && !q a) hB)
    rw [← hxs] at HLX
    have han := HAN.out q
    clear hxs HF
    generalize bs (fun a => s a && !q a) n = D9 at *
    go_wp2_with fail
    refine HLX.out.mono ?_
    rintro x w2 ⟨r, rfl, hr, hb2⟩
    have hr := hr.sl
    obtain ⟨ra, rc, rb, ro, rfl, hrd, hrp, _, _⟩ := hr
    rw [li_len]
    have HRD := hide hrd
    have hX2 := blk_below hX hb2
    have hB2 := bcat2 hB hb2
    have HLL := hide (li_len xs)
    clear hrd hX hB hb2 han HLX
    go_wp2_with fail
    go_loopw [5, 18] (fun sv iv wr => ∃ j : Nat, j ≤ xs.length ∧ iv = .int .i64 j ∧ sv = .int .u64 (bs q n) ∧ (∀ a, a ∈ xs.take j → bs (clb n zs e (plus q a) s) n = bs s n) ∧ Below w2.heap.size w2 wr) (fun _ iv _ => xs.length - (intOf iv).toNat)
    case atStart => exact ⟨0, Nat.zero_le _, rfl, rfl, fun a h => by simp at h, Below.refl _ _⟩
    case round =>
      obtain ⟨j, hj, rfl, rfl, hno, hb⟩ := hrel
      have HN := hide hno
      clear hno
      have hXr := blk_below hX2 hb
      have hBr := bcat2 hB2 hb
      by_cases hlt : j < xs.length
      · have hji : (j : Int) < (xs.length : Int) := by omega
        have hcj := (HRD.out.below hb hrp).cell j (by rw [HLL.out]; exact hlt)
        rw [li_get hlt] at hcj
        obtain rfl := HRD.out.at_ (by rw [HLL.out]; omega)
        obtain ⟨x, hxe⟩ : ∃ x, xs[j] = x := ⟨_, rfl⟩
        have hxm : x ∈ xs := by rw [← hxe]; exact List.getElem_mem hlt
        have HTK := hide (show xs.take (j + 1) = xs.take j ++ [x] by rw [List.take_succ_eq_append_getElem hlt, hxe])
        have HFS := hide (fun h : bs (clb n zs e (plus q x) s) n ≠ bs s n => (show xs.find? (fun a => decide (bs (clb n zs e (plus q a) s) n ≠ bs s n)) = some x by
          rw [List.find?_eq_some_iff_getElem]
          refine ⟨by simpa using h, j, hlt, hxe, fun i hi => ?_⟩
          have h1 := HN.out xs[i] (by rw [List.mem_take_iff_getElem]; exact ⟨i, by omega, rfl⟩)
          simp [h1]))
        rw [hxe] at hcj
        obtain ⟨hxn, hxs, hxq⟩ := HXM.out x hxm
        have HXQ := hide hxq
        clear hxe hxm hxq
        have HLT := hide (HLE.out q x hxn HXQ.out)
        have HC1 := hide (HCN.out q)
        obtain ⟨_, c0, c1, c2, c3, _⟩ := Four.mk' hXr
        have HMX := hide (fun W (h : Below w.heap.size w W) => HCL.out W (plus q x) h)
        have hor : Go.bits BinOp.or IntKind.u64 (bs q n : Int) (bs (fun a => decide (a = x)) n : Int) = (bs (plus q x) n : Int) := or_bs _ _ hn
        have HO1 := hide (fun (W : World) (g : Nat) (hc : W.cell? ⟨g, 0, none⟩ = some (.int .i64 x)) => HO1.out W g x hxn hc)
        have hS : ∀ W, Below wr.heap.size wr W → ((fun W9 => Below wr.heap.size wr W9 ∧ W9.cell? ⟨w.heap.size, 0, none⟩ = some (.int .i64 n) ∧ W9.cell? ⟨w.heap.size, 1, none⟩ = some v ∧ W9.cell? ⟨w.heap.size, 2, none⟩ = some (.int .i64 e) ∧ W9.cell? ⟨w.heap.size, 3, none⟩ = some u) W) := fun W h => ⟨h, below_cell h c0, below_cell h c1, below_cell h c2, below_cell h c3⟩
        have hS0 := hS _ (bdrew (Below.refl _ wr))
        obtain ⟨Y, hY⟩ : ∃ Y, Y = clb n zs e (plus q x) s := ⟨_, rfl⟩
        rw [← hY] at HMX HFS HLT
        have HY := hide hY
        clear hY
        generalize bs (plus q x) n = Q9 at *
        generalize bs (fun a => decide (a = x)) n = Q2 at *
        go_wp2_with fail
        clear c0 c1 c2 c3
        have hBc : Below wr.heap.size wr wr.drew := bdrew (Below.refl _ wr)
        refine wp_region_held_drew (S := (fun W9 => Below wr.heap.size wr W9 ∧ W9.cell? ⟨w.heap.size, 0, none⟩ = some (.int .i64 n) ∧ W9.cell? ⟨w.heap.size, 1, none⟩ = some v ∧ W9.cell? ⟨w.heap.size, 2, none⟩ = some (.int .i64 e) ∧ W9.cell? ⟨w.heap.size, 3, none⟩ = some u)) (by kernel_rfl) hS0 (fun hHeld => ?_)
        refine wpAnyH_take (i := 0) (oi := ({ dst := some 22, op := Go.Op.load 66 (Go.Operand.tmp 2), type := 66, pos := _, after := #[], guard := none } : Oper)) (v := ?_) rfl (by kernel_rfl) (by kernel_rfl) (by kernel_rfl) (fun _ _ _ h => h) (Or.inl ⟨by rfl, ?_⟩) (by assumption) ?_
        rotate_left
        · (intro w hSw; (try dsimp only at hSw); go_simp; try with_reducible rfl)
        simp only [Act.put, List.setIfInBounds_toArray, List.set_cons_zero, List.set_cons_succ]
        refine wpAnyH_take (i := 1) (oi := ({ dst := some 23, op := Go.Op.move (Go.Operand.tmp 5), type := 68, pos := _, after := #[], guard := none } : Oper)) (v := ?_) rfl (by kernel_rfl) (by kernel_rfl) (by kernel_rfl) (fun _ _ _ h => h) (Or.inl ⟨by rfl, ?_⟩) (by assumption) ?_
        rotate_left
        · (intro w hSw; (try dsimp only at hSw); go_simp; try with_reducible rfl)
        simp only [Act.put, List.setIfInBounds_toArray, List.set_cons_zero, List.set_cons_succ]
        refine wpAnyH_take (i := 2) (oi := ({ dst := some 24, op := Go.Op.move (Go.Operand.tmp 7), type := 3, pos := _, after := #[], guard := none } : Oper)) (v := ?_) rfl (by kernel_rfl) (by kernel_rfl) (by kernel_rfl) (fun _ _ _ h => h) (Or.inl ⟨by rfl, ?_⟩) (by assumption) ?_
        rotate_left
        · (intro w hSw; (try dsimp only at hSw); go_simp; try with_reducible rfl)
        simp only [Act.put, List.setIfInBounds_toArray, List.set_cons_zero, List.set_cons_succ]
        refine wpAnyH_take (i := 6) (oi := ({ dst := some 28, op := Go.Op.move (Go.Operand.tmp 1), type := 68, pos := _, after := #[], guard := none } : Oper)) (v := ?_) rfl (by kernel_rfl) (by kernel_rfl) (by kernel_rfl) (fun _ _ _ h => h) (Or.inl ⟨by rfl, ?_⟩) (by assumption) ?_
        rotate_left
        · (intro w hSw; (try dsimp only at hSw); go_simp; try with_reducible rfl)
        simp only [Act.put, List.setIfInBounds_toArray, List.set_cons_zero, List.set_cons_succ]
        refine wpAnyH_ready (rs := [3]) (by kernel_rfl) (by simp) (AllReadyH.cons (o := ({ dst := some 25, op := Go.Op.buildSlice 22 1 #[(0, Go.Operand.tmp 24)], type := 22, pos := _, after := #[{ on := 2, ground := Go.Ground.data }], guard := none } : Oper)) rfl (fun KK hK => ?_) AllReadyH.nil)
        go_simp
        have hBd := bcat2 hBc (balloc _ (.cells #[.int .i64 (x : Int)] 3))
        refine hK.out _ _ (hS _ hBd) (fun hHeld => ?_)
        clear hK
        try simp only [Act.put, List.setIfInBounds_toArray, List.set_cons_zero, List.set_cons_succ]
        refine wpAnyH_ready (rs := [4]) (by kernel_rfl) (by simp) (AllReadyH.cons (o := ({ dst := some 26, op := Go.Op.call { callee := Go.Callee.value (Go.Operand.func 58), args := #[Go.Operand.tmp 25], argTypes := #[22] }, type := 68, pos := _, after := #[{ on := 3, ground := Go.Ground.data }], guard := none } : Oper)) rfl (fun KK hK => ?_) AllReadyH.nil)
        go_simp
        refine (HO1.out _ _ (by simp)).mono ?_
        rintro e6 U2 ⟨rfl, rfl⟩
        try go_wp2_with fail
        refine hK.out _ _ (hS _ hBd) (fun hHeld => ?_)
        clear hK
        try simp only [Act.put, List.setIfInBounds_toArray, List.set_cons_zero, List.set_cons_succ]
        refine wpAnyH_take (i := 5) (oi := ({ dst := some 27, op := Go.Op.binOp Go.BinOp.or 68 (Go.Operand.tmp 23) (Go.Operand.tmp 26) 68, type := 68, pos := _, after := #[{ on := 1, ground := Go.Ground.data }, { on := 4, ground := Go.Ground.data }], guard := none } : Oper)) (v := ?_) rfl (by kernel_rfl) (by kernel_rfl) (by kernel_rfl) (fun _ _ _ h => h) (Or.inl ⟨by rfl, ?_⟩) (by assumption) ?_
        rotate_left
        · (intro w hSw; (try dsimp only at hSw); go_simp; try with_reducible rfl)
        simp only [Act.put, List.setIfInBounds_toArray, List.set_cons_zero, List.set_cons_succ]
        refine wpAnyH_ready (rs := [7]) (by kernel_rfl) (by simp) (AllReadyH.cons (o := ({ dst := some 29, op := Go.Op.call { callee := Go.Callee.value (Go.Operand.func 42), args := #[Go.Operand.tmp 22, Go.Operand.tmp 27, Go.Operand.tmp 28], argTypes := #[66, 68, 68] }, type := 68, pos := _, after := #[{ on := 0, ground := Go.Ground.data }, { on := 5, ground := Go.Ground.data }, { on := 6, ground := Go.Ground.data }, { on := 4, ground := Go.Ground.chain }], guard := none } : Oper)) rfl (fun KK hK => ?_) AllReadyH.nil)
        go_simp
        refine (HMX.out _ (bcat2 hBr hBd)).mono ?_
        rintro e7 U3 ⟨rfl, hl3⟩
        try go_wp2_with fail
        have hBe := bcat2 hBd hl3
        refine hK.out _ _ (hS _ hBe) (fun hHeld => ?_)
        clear hK
        try simp only [Act.put, List.setIfInBounds_toArray, List.set_cons_zero, List.set_cons_succ]
        refine wpAnyH_take (i := 8) (oi := ({ dst := some 8, op := Go.Op.assign (Go.Operand.tmp 29), type := 68, pos := _, after := #[{ on := 7, ground := Go.Ground.data }, { on := 7, ground := Go.Ground.chain }, { on := 0, ground := Go.Ground.phase }, { on := 1, ground := Go.Ground.phase }, { on := 2, ground := Go.Ground.phase }, { on := 3, ground := Go.Ground.phase }, { on := 4, ground := Go.Ground.phase }, { on := 5, ground := Go.Ground.phase }, { on := 6, ground := Go.Ground.phase }, { on := 7, ground := Go.Ground.phase }], guard := none } : Oper)) (v := ?_) rfl (by kernel_rfl) (by kernel_rfl) (by kernel_rfl) (fun _ _ _ h => h) (Or.inl ⟨by rfl, ?_⟩) (by assumption) ?_
        rotate_left
        · (intro w hSw; (try dsimp only at hSw); go_simp; try with_reducible rfl)
        simp only [Act.put, List.setIfInBounds_toArray, List.set_cons_zero, List.set_cons_succ]
        refine wpAnyH_done (by kernel_rfl) ?_ _
        clear hHeld hS hS0 hor
        have hXe := blk_below hXr hBe
        have hBf := bcat2 hBr hBe
        have hbf := bcat2 hb hBe
        by_cases hrs : bs Y n = bs s n
        · have HRS := hide hrs
          rw [hrs]
          clear hrs
          go_wp2
          go_roundw
          case rel => exact ⟨j + 1, by omega, by go_num, rfl, fun a ha => by
            rw [HTK.out, List.mem_append, List.mem_singleton] at ha
            rcases ha with ha | rfl
            · exact HN.out a ha
            · rw [← HY.out]; exact HRS.out, hbf⟩
          case measure => simp [intOf]; omega
        · have hne : ((bs Y n : Int) != (bs s n : Int)) = true := by
            have : ¬ (bs Y n : Int) = (bs s n : Int) := by omega
            simpa using this
          have HRES : Hid (grw n zs e s kk Y = R) := hide (by
            have h1 := HUN.out
            rw [HFS.out hrs] at h1
            rw [HY.out]
            exact h1)
          have hln := lst_len n Y
          have hkk := HK.out
          have hlt2 := HLT.out
          have hc1 := HC1.out
          have hc2 := HCN.out Y
          go_wp2
          go_roundw
          case rel => exact ⟨Y, kk, rfl, HRES, by omega, hXe, hBf⟩
          case measure => simp [intOf]; omega
      · have hji : ¬ (j : Int) < (xs.length : Int) := by omega
        have HE := hide (show q = R by
          have h1 := HUN.out
          rw [show xs.find? (fun a => decide (bs (clb n zs e (plus q a) s) n ≠ bs s n)) = none by
            rw [List.find?_eq_none]
            intro a ha
            have h2 := HN.out a (by rw [show j = xs.length by omega, List.take_length]; exact ha)
            simp [h2]] at h1
          exact h1)
        rw [HE.out]
        go_wp2
        go_ret
        exact ⟨rfl, hBr⟩
end Go.Proofs.YtjiapicknkjhmaaGreatDoor

namespace Go.Proofs.YtjiapicknkjhmaaGreatDoor
open Go Go.RowKit

theorem call75c (x : Int) (y : Value) (W : World) : Sem.run Tryz.prog (callFunc 69 (#[.int .u64 x] ++ #[y])) W = .ok (.enter 69 (#[.int .u64 x] ++ #[y])) W := by kernel_rfl
theorem call41c (x : Value) (W : World) : Sem.run Tryz.prog (callFunc 37 #[x]) W = .ok (.enter 37 #[x]) W := by kernel_rfl
theorem comp_mxn {n e : Nat} {zs : List Int} {q : Nat → Bool} (g : IsGrp n zs e) (h1 : Fin.Sg (List.range n) (tm n zs) e (fun a => q a = true)) (h2 : bs (grt n zs e q) n ≠ bs q n) : Fin.Mxn (List.range n) (tm n zs) e (iv n zs e) q (grt n zs e q) := by
  refine grt_top g h1 (Classical.byContradiction fun h3 => h2 (grt_one h1 fun x hx hq => Classical.byContradiction fun h4 => h3 ⟨x, hx, hq, h4⟩))
theorem comp_step {n e : Nat} {zs : List Int} {q : Nat → Bool} (g : IsGrp n zs e) (h1 : Fin.Sg (List.range n) (tm n zs) e (fun a => q a = true)) (h2 : bs (grt n zs e q) n ≠ bs q n) :
    Fin.Sg (List.range n) (tm n zs) e (fun a => grt n zs e q a = true) ∧ (lst n (grt n zs e q)).length < (lst n q).length := by
  have h := comp_mxn g h1 h2
  exact ⟨h.sg, less_of n (fun x hx h3 => h.sub x (List.mem_range.2 hx) h3) h2⟩
set_option maxRecDepth 100000 in
theorem comp1_ok (n : Nat) (v u : Value) (zs : List Int) (e gb : Nat) (q : Nat → Bool) (w : World) (hG : GA w n v e u zs) (hT : Tab w) (hb : Box4 w gb n e v u) (hse : q e = true) :
    Calls Tryz.prog 69 (#[.int .u64 (bs q n)] ++ #[.pointer (some ⟨gb, 0, none⟩)]) w fun x w' => x = .returned (.int .u64 (bs (grt n zs e q) n)) ∧ Below w.heap.size w w' := by
  show Calls Tryz.prog 69 #[.int .u64 (bs q n), .pointer (some ⟨gb, 0, none⟩)] w _
  have HC := hide (greatest_ok n e v u zs q w hG hT hse)
  obtain ⟨c0, c1, c2, c3⟩ := hb.cells
  go_enter Tryz.func69, Tryz.ntmps69
  go_wp2_with fail
  refine HC.out.mono ?_
  rintro x w1 ⟨rfl, hb1⟩
  go_wp2
  go_ret
  exact ⟨rfl, hb1⟩
set_option maxRecDepth 100000 in
theorem composition_ok (n : Nat) (v u : Value) (zs : List Int) (e : Nat) (w : World) (hG : GA w n v e u zs) (hT : Tab w) :
    Calls Tryz.prog 37 #[.agg #[.int .i64 n, v, .int .i64 e, u]] w fun x w' => ∃ y, x = .returned y ∧ SerA w w' n (grt n zs e) (fun q => Fin.Sg (List.range n) (tm n zs) e (fun a => q a = true)) (fun q => (lst n q).length) (fun _ => true) y ∧ Below w.heap.size w w' := by
  have hg := hG.grp
  have hn := hG.le
  have hB0 : Below w.heap.size w (w.alloc (.cells #[.int .i64 n, v, .int .i64 e, u] 66)) := balloc w _
  have hX0 := Box4.new w n e v u
  obtain ⟨c0, c1, c2, c3⟩ := hX0.cells
  go_enter Tryz.func37, Tryz.ntmps37
  go_wp2_with fail
  clear c0 c1 c2 c3
  generalize w.alloc (.cells #[.int .i64 n, v, .int .i64 e, u] 66) = w0 at *
  refine (all_ok n v u e w0 hn).mono ?_
  rintro x w1 ⟨rfl, hb1⟩
  have hB1 := bcat2 hB0 hb1
  have hX1 := hX0.below hb1
  go_wp2_with fail
  refine (steps_ok n 69 #[.pointer (some ⟨w.heap.size, 0, none⟩)] (grt n zs e) (fun q => Fin.Sg (List.range n) (tm n zs) e (fun a => q a = true)) (fun q => (lst n q).length) (fun _ => true) w1 (fun x W => call75c x _ W) (fun W q h hq => comp1_ok n v u zs e _ q W (hG.below (bcat2 hB1 h)) (hT.below (bcat2 hB1 h)) (hX1.below h) hq.one) Nsg.all.sg (Nat.le_trans (lst_len _ _) hn) (fun q h1 h2 => comp_step hg h1 h2)).mono ?_
  rintro x w2 ⟨K, g, c, rfl, hst, hend, hrow, hb2⟩
  have hrow2 := own_le hrow hB1.size
  have hB2 := bcat2 hB1 hb2
  go_wp2
  go_ret
  exact ⟨_, rfl, ⟨K, g, c, rfl, hst, hend, hrow2⟩, hB2⟩
set_option maxRecDepth 100000 in
set_option maxHeartbeats 2000000 in
theorem scmp_bad (N : Int) (v : Value) (zs : List Int) (w : World) (hv : Sl w v zs) (hc : (gfault N zs).1 ≠ 0) :
    Calls Tryz.prog 13 #[.agg #[.int .i64 N, v]] w fun x w' => x = .returned (.tuple #[.slice none 0 0, .agg #[.int .i64 (gfault N zs).1, .int .i64 (gfault N zs).2]]) ∧ Below w.heap.size w w' := by
  obtain ⟨w0, BG⟩ := Beg.new w N v
  obtain ⟨c0, c1, _, _⟩ := BG.box.two
  have hck := fun f => listed_bad N v f zs w0 (hv.below BG.bel) hc
  obtain ⟨c, i, hci⟩ : ∃ c i, gfault N zs = (c, i) := ⟨_, _, rfl⟩
  rw [hci] at hck hc ⊢
  simp only at hc hck
  have HCK := hide hck
  clear hck hci
  rw [BG.eq] at c0 c1
  go_enter Tryz.func13, Tryz.ntmps13
  go_wp2_with fail
  rw [← BG.eq]
  refine (HCK.out _).mono ?_
  rintro x w1 ⟨rfl, hb1⟩
  clear c0 c1
  have hR1 := blk_below BG.res hb1
  have hBw := bcat BG.bel hb1 BG.bel.size
  obtain ⟨y0, y1, fy0, fy1⟩ := hR1.two
  obtain ⟨hR6, hB6⟩ := put2 hR1 hBw (by omega) c i
  obtain ⟨z0, z1, _, _⟩ := hR6.two
  go_wp2
  exact bodyPost_ret (v := .tuple #[.slice none 0 0, .agg #[.int .i64 c, .int .i64 i]]) (by simp [results, Tryz.results13, go_sem, z0, z1]) rfl ⟨rfl, hB6⟩
set_option maxRecDepth 100000 in
set_option maxHeartbeats 2000000 in
theorem scmp_good (n e : Nat) (v : Value) (zs : List Int) (w : World) (hv : Sl w v zs) (hg : IsGrp n zs e) (hT : Tab w) :
    Calls Tryz.prog 13 #[.agg #[.int .i64 n, v]] w fun x w' => ∃ y, x = .returned (.tuple #[y, .agg #[.int .i64 0, .int .i64 0]]) ∧ LisA w' n (grt n zs e) (fun q => Fin.Sg (List.range n) (tm n zs) e (fun a => q a = true)) (fun q => (lst n q).length) (fun _ => true) y ∧ Below w.heap.size w w' := by
  obtain ⟨w0, BG⟩ := Beg.new w n v
  obtain ⟨c0, c1, _, _⟩ := BG.box.two
  have HCK := hide (listed_good n e 37 v zs (grt n zs e) (fun q => Fin.Sg (List.range n) (tm n zs) e (fun a => q a = true)) (fun q => (lst n q).length) (fun _ => true) w0 (hv.below BG.bel) hg (hT.below BG.bel) (fun x W => call41c x W) (fun W u h hG => composition_ok n v u zs e W hG ((hT.below BG.bel).below h)))
  rw [BG.eq] at c0 c1
  go_enter Tryz.func13, Tryz.ntmps13
  go_wp2_with fail
  rw [← BG.eq]
  refine HCK.out.mono ?_
  rintro x w1 ⟨y, rfl, hl, hb1⟩
  clear c0 c1
  have hR1 := blk_below BG.res hb1
  have hBw := bcat BG.bel hb1 BG.bel.size
  obtain ⟨_, y0, y1, fy0, fy1, s0, s1⟩ := Two.mk' hR1
  go_wp2
  exact bodyPost_ret (v := .tuple #[y, .agg #[.int .i64 0, .int .i64 0]]) (by simp [results, Tryz.results13, go_sem, y0, y1]) rfl ⟨y, rfl, hl, hBw⟩
end Go.Proofs.YtjiapicknkjhmaaGreatDoor

namespace Go.Proofs.YtjiapicknkjhmaaGreatDoor.Fin
variable {l : List Nat} {m : Nat → Nat → Nat} {e : Nat} {iv : Nat → Nat}

/-- Things of the first one commute, but for the second one. -/
def Ab (l : List Nat) (m : Nat → Nat → Nat) (iv : Nat → Nat) (A B : Nat → Bool) : Prop := ∀ x y, x ∈ l → y ∈ l → A x = true → A y = true → B (cm m iv x y) = true
def Prm (k : Nat) : Prop := 2 ≤ k ∧ ∀ d, d ∣ k → d = 1 ∨ d = k
/-- Powers of a thing, times the things of a subgroup. -/
def pwq (l : List Nat) (m : Nat → Nat → Nat) (e : Nat) (B : Nat → Bool) (x y : Nat) : Bool := l.any fun b => B b && (List.range (l.length + 1)).any fun k => decide (m (po m e x k) b = y)
theorem po_fold (F : Fg l m e) {x : Nat} (hx : x ∈ l) (k : Nat) : ∃ j, j < l.length + 1 ∧ po m e x j = po m e x k := by
  have hp := F.pos
  refine ⟨k % l.length, Nat.lt_succ_of_lt (Nat.mod_lt _ hp), ?_⟩
  have h1 : po m e x k = po m e x (l.length * (k / l.length) + k % l.length) := by rw [Nat.div_add_mod]
  rw [h1, po_add F hx, ← po_mul F hx, po_len F hx, po_e F, F.left _ (po_mem F hx _)]
theorem pwq_iff (F : Fg l m e) {B : Nat → Bool} {x y : Nat} (hx : x ∈ l) : pwq l m e B x y = true ↔ ∃ k b, b ∈ l ∧ B b = true ∧ m (po m e x k) b = y := by
  unfold pwq
  simp only [List.any_eq_true, Bool.and_eq_true, decide_eq_true_eq, List.mem_range]
  constructor
  · rintro ⟨b, hb, h1, k, _, h2⟩
    exact ⟨k, b, hb, h1, h2⟩
  · rintro ⟨k, b, hb, h1, h2⟩
    obtain ⟨j, hj, e1⟩ := po_fold F hx k
    exact ⟨b, hb, h1, j, hj, by rw [e1]; exact h2⟩
section
variable {A B : Nat → Bool} {x : Nat}
/-- A power, moved past a thing of B. -/
theorem pw_past (F : Fg l m e) (V : Iv l m e iv) (SA : SgB l m e A) (hN : Nb l m iv B A) (hx : x ∈ l) (hA : A x = true) {b : Nat} (hb : b ∈ l) (hB : B b = true) (k : Nat) : ∃ c, c ∈ l ∧ B c = true ∧ m b (po m e x k) = m (po m e x k) c := by
  have hp := po_mem F hx k
  exact ⟨cj m iv b (po m e x k), cj_mem F V hb hp, hN b _ hb hp hB (SA.pow F hx hA k), (cj_eq F V hb hp).symm⟩
theorem pwq_sg (F : Fg l m e) (V : Iv l m e iv) (SA : SgB l m e A) (SB : SgB l m e B) (hN : Nb l m iv B A) (hx : x ∈ l) (hA : A x = true) : SgB l m e (pwq l m e B x) := by
  refine ⟨(pwq_iff F hx).2 ⟨0, e, F.one, SB.one, F.left e F.one⟩, fun y z _ _ h1 h2 => ?_⟩
  obtain ⟨j, b, hb, h3, rfl⟩ := (pwq_iff F hx).1 h1
  obtain ⟨k, c, hc, h4, rfl⟩ := (pwq_iff F hx).1 h2
  obtain ⟨d, hd, h5, h6⟩ := pw_past F V SA hN hx hA hb h3 k
  have pj := po_mem F hx j
  have pk := po_mem F hx k
  refine (pwq_iff F hx).2 ⟨j + k, m d c, F.cl _ _ hd hc, SB.mul d c hd hc h5 h4, ?_⟩
  rw [po_add F hx, F.ass _ _ _ pj pk (F.cl _ _ hd hc), ← F.ass _ _ _ pk hd hc, ← h6, F.ass _ _ _ hb pk hc, ← F.ass _ _ _ pj hb (F.cl _ _ pk hc)]
theorem pwq_in (F : Fg l m e) (SA : SgB l m e A) (hin : In l B A) (hx : x ∈ l) (hA : A x = true) : In l (pwq l m e B x) A := fun y _ h => by
  obtain ⟨k, b, hb, h1, rfl⟩ := (pwq_iff F hx).1 h
  exact SA.mul _ _ (po_mem F hx k) hb (SA.pow F hx hA k) (hin b hb h1)
theorem pwq_base (F : Fg l m e) (hx : x ∈ l) : In l B (pwq l m e B x) := fun b hb h => (pwq_iff F hx).2 ⟨0, b, hb, h, F.left b hb⟩
theorem pwq_self (F : Fg l m e) (SB : SgB l m e B) (hx : x ∈ l) : pwq l m e B x x = true := (pwq_iff F hx).2 ⟨1, e, F.one, SB.one, by rw [po_one F hx, F.right x hx]⟩
/-- A prime number of cosets: all commute but for B. -/
theorem ab_of_prime (F : Fg l m e) (V : Iv l m e iv) (SA : SgB l m e A) (h : Mxn l m e iv A B) (hp : Prm (sz l A / sz l B)) : Ab l m iv A B := by
  obtain ⟨x, hx, hxA, hxB⟩ := h.less
  have SC := pwq_sg F V SA h.sg h.nm hx hxA
  have iC := pwq_in F SA h.sub hx hxA
  have bC := pwq_base (B := B) (m := m) (e := e) F hx
  have hall : In l A (pwq l m e B x) := by
    obtain ⟨a, ha⟩ := sz_dvd F h.sg SC bC
    obtain ⟨b, hb⟩ := sz_dvd F SC SA iC
    have pB := sz_pos F h.sg
    have e1 : sz l A / sz l B = a * b := by rw [hb, ha, Nat.mul_assoc, Nat.mul_div_cancel_left _ pB]
    rw [e1] at hp
    have hlt := sz_lt bC ⟨x, hx, pwq_self F h.sg hx, hxB⟩
    rcases hp.2 a ⟨b, rfl⟩ with h1 | h1
    · rw [h1, Nat.mul_one] at ha
      omega
    · have hb1 : b = 1 := by
        have ha0 : 0 < a := by
          rcases Nat.eq_zero_or_pos a with h2 | h2
          · rw [h2, Nat.mul_zero] at ha; omega
          · exact h2
        exact Nat.eq_of_mul_eq_mul_left ha0 (by rw [← h1, Nat.mul_one])
      rw [hb1, Nat.mul_one] at hb
      exact in_of_sz iC hb.symm
  intro y z hy hz h1 h2
  obtain ⟨j, b, hb, h3, rfl⟩ := (pwq_iff F hx).1 (hall y hy h1)
  obtain ⟨k, c, hc, h4, rfl⟩ := (pwq_iff F hx).1 (hall z hz h2)
  have pj := po_mem F hx j
  have pk := po_mem F hx k
  obtain ⟨d, hd, h5, h6⟩ := pw_past F V SA h.nm hx hxA hb h3 k
  obtain ⟨f, hf, h7, h8⟩ := pw_past F V SA h.nm hx hxA hc h4 j
  have hcm := cm_mem F V hy hz
  have key := cm_eq F V hy hz
  have e1 : m (m (po m e x j) b) (m (po m e x k) c) = m (po m e x (j + k)) (m d c) := by
    rw [po_add F hx, F.ass _ _ _ pj pk (F.cl _ _ hd hc), ← F.ass _ _ _ pk hd hc, ← h6, F.ass _ _ _ hb pk hc, ← F.ass _ _ _ pj hb (F.cl _ _ pk hc)]
  have e2 : m (m (po m e x k) c) (m (po m e x j) b) = m (po m e x (j + k)) (m f b) := by
    rw [Nat.add_comm j k, po_add F hx, F.ass _ _ _ pk pj (F.cl _ _ hf hb), ← F.ass _ _ _ pj hf hb, ← h8, F.ass _ _ _ hc pj hb, ← F.ass _ _ _ pk hc (F.cl _ _ pj hb)]
  rw [e1, e2, F.ass _ _ _ (po_mem F hx _) (F.cl _ _ hf hb) hcm] at key
  have h9 := F.can (po_mem F hx _) (F.cl _ _ (F.cl _ _ hf hb) hcm) (F.cl _ _ hd hc) key
  have hfb := F.cl _ _ hf hb
  have hi := (V _ hfb).1
  have h10 : cm m iv (m (po m e x j) b) (m (po m e x k) c) = m (iv (m f b)) (m d c) := by
    rw [← h9, ← F.ass _ _ _ hi hfb hcm, (V _ hfb).2.2, F.left _ hcm]
  rw [h10]
  exact h.sg.mul _ _ hi (F.cl _ _ hd hc) (h.sg.inv F hfb hi (V _ hfb).2.1 (h.sg.mul f b hf hb h7 h3)) (h.sg.mul d c hd hc h5 h4)
/-- Where all commute but for B, all between is normal. -/
theorem ab_nb (F : Fg l m e) (V : Iv l m e iv) (hab : Ab l m iv A B) {C : Nat → Bool} (hC : SgB l m e C) (h1 : In l B C) (h2 : In l C A) : Nb l m iv C A := fun y a hy ha h3 h4 => by
  have h5 : cj m iv y a = m y (cm m iv y a) := by
    have hc := cm_mem F V hy ha
    refine cj_unique F V hy (F.cl _ _ hy hc) ha ?_
    rw [← F.ass _ _ _ ha hy hc, cm_eq F V hy ha]
  rw [h5]
  exact hC.mul _ _ hy (cm_mem F V hy ha) h3 (h1 _ (cm_mem F V hy ha) (hab y a hy ha (h2 y hy h3) h4))
/-- All commute but for B: a prime number of cosets. -/
theorem prime_of_ab (F : Fg l m e) (V : Iv l m e iv) (SA : SgB l m e A) (h : Mxn l m e iv A B) (hab : Ab l m iv A B) : Prm (sz l A / sz l B) := by
  obtain ⟨x, hx, hxA, hxB⟩ := h.less
  have hfill : ∀ z, z ∈ l → A z = true → ¬ B z = true → In l A (pwq l m e B z) := fun z hz hzA hzB => by
    have SC := pwq_sg F V SA h.sg h.nm hz hzA
    have iC := pwq_in F SA h.sub hz hzA
    have bC := pwq_base (B := B) (m := m) (e := e) F hz
    rcases h.top _ SC bC iC (ab_nb F V hab SC bC iC) with h1 | h1
    · exact absurd (h1 z hz (pwq_self F h.sg hz)) hzB
    · exact h1
  obtain ⟨r, hr, hrB, hrl⟩ := least_pos (P := fun k => B (po m e x k) = true) l.length F.pos (by rw [po_len F hx]; exact h.sg.one)
  have hpw : ∀ k, B (po m e x k) = true ↔ r ∣ k := fun k => by
    have hq : B (po m e x (r * (k / r))) = true := by
      rw [← po_mul F hx]
      exact h.sg.pow F (po_mem F hx r) hrB _
    have hk : po m e x k = m (po m e x (r * (k / r))) (po m e x (k % r)) := by rw [← po_add F hx, Nat.div_add_mod]
    have q1 := po_mem F hx (r * (k / r))
    have q2 := po_mem F hx (k % r)
    constructor
    · intro h1
      rcases Nat.eq_zero_or_pos (k % r) with h2 | h2
      · exact Nat.dvd_of_mod_eq_zero h2
      · exfalso
        refine hrl (k % r) h2 (Nat.mod_lt _ hr) ?_
        have hi := (V _ q1).1
        have h3 : po m e x (k % r) = m (iv (po m e x (r * (k / r)))) (po m e x k) := by rw [hk, ← F.ass _ _ _ hi q1 q2, (V _ q1).2.2, F.left _ q2]
        rw [h3]
        exact h.sg.mul _ _ hi (po_mem F hx k) (h.sg.inv F q1 hi (V _ q1).2.1 hq) h1
    · rintro ⟨c, rfl⟩
      rw [← po_mul F hx]
      exact h.sg.pow F (po_mem F hx r) hrB _
  have hr2 : 2 ≤ r := by
    rcases Nat.lt_or_ge r 2 with h1 | h1
    · exfalso
      have : r = 1 := by omega
      rw [this, po_one F hx] at hrB
      exact hxB hrB
    · exact h1
  -- how many cosets: r
  have hidx : ∀ y, y ∈ l → A y = true → ∃ i, i < r ∧ B (m (iv (po m e x i)) y) = true := fun y hy hA => by
    obtain ⟨k, b, hb, h1, rfl⟩ := (pwq_iff F hx).1 (hfill x hx hxA hxB y hy hA)
    refine ⟨k % r, Nat.mod_lt _ hr, ?_⟩
    have q1 := po_mem F hx (k % r)
    have q2 := po_mem F hx (r * (k / r))
    have hk : po m e x k = m (po m e x (k % r)) (po m e x (r * (k / r))) := by rw [← po_add F hx, Nat.add_comm, Nat.div_add_mod]
    have hi := (V _ q1).1
    rw [hk, F.ass _ _ _ q1 q2 hb, ← F.ass _ _ _ hi q1 (F.cl _ _ q2 hb), (V _ q1).2.2, F.left _ (F.cl _ _ q2 hb)]
    exact h.sg.mul _ _ q2 hb ((hpw _).2 ⟨_, rfl⟩) h1
  have hsz : sz l A = r * sz l B := by
    have hf := fib_len (fun y => (least r (fun i => B (m (iv (po m e x i)) y))).toNat) (sz l B) (List.range r) (l.filter A) List.nodup_range (fun y hy => by
      obtain ⟨h1, h2⟩ := List.mem_filter.1 hy
      obtain ⟨i, hi, h3⟩ := hidx y h1 h2
      rcases least_cases r (fun i => B (m (iv (po m e x i)) y)) with ⟨k, hk, _, _, h4⟩ | ⟨h4, _⟩
      · show (least r _).toNat ∈ _
        rw [h4]
        exact List.mem_range.2 hk
      · rw [h4 i hi] at h3; cases h3) (fun k hk => by
      have hk := List.mem_range.1 hk
      have pk := po_mem F hx k
      have hi := (V _ pk).1
      symm
      refine bij_len (fun b => m (po m e x k) b) (F.nd.filter _) ((F.nd.filter _).filter _) (fun b hb => ?_) (fun b c hb hc h1 => F.can pk (List.mem_filter.1 hb).1 (List.mem_filter.1 hc).1 h1) (fun y hy => ?_)
      · obtain ⟨hb1, hb2⟩ := List.mem_filter.1 hb
        have hy1 := F.cl _ _ pk hb1
        refine List.mem_filter.2 ⟨List.mem_filter.2 ⟨hy1, SA.mul _ _ pk hb1 (SA.pow F hx hxA k) (h.sub b hb1 hb2)⟩, ?_⟩
        rw [decide_eq_true_eq]
        have hat : B (m (iv (po m e x k)) (m (po m e x k) b)) = true := by rw [← F.ass _ _ _ hi pk hb1, (V _ pk).2.2, F.left b hb1]; exact hb2
        have hno : ∀ t, t < k → B (m (iv (po m e x t)) (m (po m e x k) b)) = false := fun t ht => by
          rw [Bool.eq_false_iff]
          intro h1
          have pt := po_mem F hx t
          have hit := (V _ pt).1
          have pd := po_mem F hx (k - t)
          have h2 : m (iv (po m e x t)) (m (po m e x k) b) = m (po m e x (k - t)) b := by
            have h3 : po m e x k = m (po m e x t) (po m e x (k - t)) := by rw [← po_add F hx]; congr 1; omega
            rw [h3, F.ass _ _ _ pt pd hb1, ← F.ass _ _ _ hit pt (F.cl _ _ pd hb1), (V _ pt).2.2, F.left _ (F.cl _ _ pd hb1)]
          rw [h2] at h1
          have hib := (V b hb1).1
          have h4 : po m e x (k - t) = m (m (po m e x (k - t)) b) (iv b) := by rw [F.ass _ _ _ pd hb1 hib, (V b hb1).2.1, F.right _ pd]
          have h5 : B (po m e x (k - t)) = true := by
            rw [h4]
            exact h.sg.mul _ _ (F.cl _ _ pd hb1) hib h1 (h.sg.inv F hb1 hib (V b hb1).2.1 hb2)
          exact hrl (k - t) (by omega) (by omega) h5
        show (least r _).toNat = k
        rw [least_at hk hat hno]
        rfl
      · obtain ⟨h1, h2⟩ := List.mem_filter.1 hy
        obtain ⟨hy1, hyA⟩ := List.mem_filter.1 h1
        rw [decide_eq_true_eq] at h2
        have h3 : B (m (iv (po m e x k)) y) = true := by
          rcases least_cases r (fun i => B (m (iv (po m e x i)) y)) with ⟨k', _, h4, _, h5⟩ | ⟨h4, _⟩
          · have h2' : (least r (fun i => B (m (iv (po m e x i)) y))).toNat = k := h2
            rw [h5] at h2'
            have : k' = k := h2'
            rw [← this]
            exact h4
          · obtain ⟨i, hi', h5⟩ := hidx y hy1 hyA
            rw [h4 i hi'] at h5; cases h5
        refine ⟨m (iv (po m e x k)) y, List.mem_filter.2 ⟨F.cl _ _ hi hy1, h3⟩, ?_⟩
        show m (po m e x k) (m (iv (po m e x k)) y) = y
        rw [← F.ass _ _ _ pk hi hy1, (V _ pk).2.1, F.left y hy1])
    rw [List.length_range] at hf
    exact hf
  have hq : sz l A / sz l B = r := by rw [hsz, Nat.mul_div_cancel _ (sz_pos F h.sg)]
  rw [hq]
  refine ⟨hr2, fun d hd => ?_⟩
  rcases Nat.eq_or_lt_of_le (Nat.le_of_dvd hr hd) with h1 | h1
  · exact .inr h1
  · refine .inl ?_
    have hd0 : 0 < d := Nat.pos_of_dvd_of_pos hd hr
    have pd := po_mem F hx d
    have hnB : ¬ B (po m e x d) = true := hrl d hd0 h1
    obtain ⟨i, b, hb, h2, h3⟩ := (pwq_iff F pd).1 (hfill (po m e x d) pd (SA.pow F hx hxA d) hnB x hx hxA)
    rw [po_mul F hx] at h3
    rcases Nat.eq_zero_or_pos (d * i) with h4 | h4
    · exfalso
      rw [h4] at h3
      have h5 : b = x := by rw [← h3]; exact (F.left b hb).symm
      rw [h5] at h2
      exact hxB h2
    · have p1 := po_mem F hx (d * i - 1)
      have h5 : po m e x (d * i) = m x (po m e x (d * i - 1)) := by
        have h6 : po m e x (d * i) = po m e x (1 + (d * i - 1)) := by congr 1; omega
        rw [h6, po_add F hx, po_one F hx]
      rw [h5, F.ass _ _ _ hx p1 hb] at h3
      have h6 : m (po m e x (d * i - 1)) b = e := F.can hx (F.cl _ _ p1 hb) F.one (by rw [h3, F.right x hx])
      have h7 : B (po m e x (d * i - 1)) = true := h.sg.inv F hb p1 (by
        obtain ⟨c, hc, h8, h9⟩ := F.inv b hb
        have : po m e x (d * i - 1) = c := F.canR hb p1 hc (by rw [h6, h9])
        rw [this, h8]) h2
      obtain ⟨c, hc⟩ := (hpw _).1 h7
      obtain ⟨f, hf⟩ := hd
      have h8 : d ∣ d * i - 1 := by rw [hc, hf, Nat.mul_assoc]; exact ⟨_, rfl⟩
      have h9 : d ∣ 1 := (Nat.dvd_add_right h8).1 (by rw [Nat.sub_add_cancel h4]; exact ⟨i, rfl⟩)
      exact Nat.dvd_one.1 h9
end
end Go.Proofs.YtjiapicknkjhmaaGreatDoor.Fin

namespace Go.Proofs.YtjiapicknkjhmaaGreatDoor
open Go Go.RowKit

end Go.Proofs.YtjiapicknkjhmaaGreatDoor

namespace Go.Proofs.YtjiapicknkjhmaaGreatDoor
open Go Go.RowKit Go.Maps

theorem und89 : Tryz.prog.underlying 75 = some (.map 3 3) := by kernel_rfl
set_option maxRecDepth 100000 in
set_option maxHeartbeats 8000000 in
theorem numbers_ok (v : Value) (ls : List (List Int)) (w : World) (hv : SlL w v ls) (hn : ls.length ≤ 60) (hl : ∀ t, t < ls.length → (ls[t]?.getD []).length ≤ 60)
    (hr : ∀ (t : Nat) (a : Int), a ∈ ls[t]?.getD [] → 0 ≤ a ∧ a < 60) (hd : ∀ (s t : Nat) (a : Int), a ∈ ls[s]?.getD [] → a ∈ ls[t]?.getD [] → s = t) :
    Calls Tryz.prog 47 #[v] w fun x w' => ∃ D, x = .returned (.map (some w.heap.size)) ∧ w'.ownsMap Tryz.prog 3 (plainElem Tryz.prog 3) w.heap.size 3600 D ∧ MLs ls ls.length 0 D ∧ Below w.heap.size w w' := by
  obtain ⟨va, vc, vb, vo, rfl, v1, v2, v3, v4, v5⟩ := hv
  have HV := hide v2
  have HV1 := hide v1
  have HL := hide hl
  have HR := hide hr
  have HD := hide hd
  clear v1 v2 v5 hl hr hd
  have hmm := @run_makeMap Tryz.prog
  go_enter Tryz.func47, Tryz.ntmps47
  go_wp2
  clear hmm
  go_loopw [11] (fun i wr => ∃ (j c : Nat) (D : DataW Unit), j ≤ ls.length ∧ i = .int .i64 j ∧ wr.ownsMap Tryz.prog 3 (plainElem Tryz.prog 3) w.heap.size c D ∧ c ≤ j * 60 ∧ MLs ls j 0 D ∧ Below w.heap.size w wr) (fun i _ => ls.length - (intOf i).toNat)
  case atStart => exact ⟨0, 0, .map [], Nat.zero_le _, rfl, World.ownsMap_made _ _ _ _, Nat.le_refl _, ⟨fun t ht => by omega, fun a ha => by simp at ha⟩, balloc w _⟩
  case round =>
    obtain ⟨j, c, D, hj, rfl, hmap, hc, hM, hB⟩ := hrel
    by_cases hlt : j < ls.length
    · have hji : (j : Int) < (ls.length : Int) := by omega
      obtain rfl := HV1.out (by omega)
      obtain ⟨y, cy, hy⟩ := HV.out j hlt
      have hll := HL.out j hlt
      have cy := below_cell hB cy
      have HD' := hide (fun (D' : DataW Unit) (k : Nat) (h : MLs ls j k D') (hm : IsMap D') (hk : k < (ls[j]?.getD []).length) => h.step hm HD.out hk)
      have HE := hide (fun (D' : DataW Unit) (h : MLs ls j (ls[j]?.getD []).length D') => h.done)
      have HRR := hide (fun a (h : a ∈ ls[j]?.getD []) => HR.out j a h)
      obtain ⟨ya, ycap, yb, yo, rfl, hyr, hyb, _, _⟩ := hy
      generalize hlj : ls[j]?.getD [] = lj at *
      have HLJ := hide hlj
      clear hlj
      have HY := hide hyr
      clear hyr
      have hcap : lj.length ≤ 60 := hll
      go_wp2
      go_loopw [18] (fun i wi => ∃ (k c : Nat) (D : DataW Unit), k ≤ lj.length ∧ i = .int .i64 k ∧ wi.ownsMap Tryz.prog 3 (plainElem Tryz.prog 3) w.heap.size c D ∧ c ≤ j * 60 + k ∧ MLs ls j k D ∧ Below w.heap.size w wi) (fun i _ => lj.length - (intOf i).toNat)
      case atStart => exact ⟨0, c, D, Nat.zero_le _, rfl, hmap, by omega, hM, hB⟩
      case round =>
        obtain ⟨k, c2, D2, hk, rfl, hmap2, hc2, hM2, hB2⟩ := hrel
        have hY2 := HY.out.below hB2 hyb
        by_cases hlt2 : k < lj.length
        · have hki : (k : Int) < (lj.length : Int) := by omega
          obtain rfl := hY2.at_ (by omega)
          have hcx := hY2.cell k hlt2
          obtain ⟨hx0, hx1⟩ := HRR.out (lj[k]?.getD 0) (by simp [hlt2])
          have HST := hide (HD'.out D2 k hM2 (map_is hmap2) hlt2)
          generalize lj[k]?.getD 0 = x at *
          have hkw : (Lit.int .i64 x).wf = true := WalkArith.wf_i64 (by omega)
          have hkey := keyOf_int_mk und3' hkw
          go_wp2_with (first
            | (at_mapUpdate; refine wpList_mapUpdate_own _ rfl _ _ _ 75 rfl 3 3 law3 und89 _ w.heap.size _ D2 rfl hmap2 (by unfold maxLen; omega) _ _ _ rfl rfl hkey _ [] (plainElem_int und3' (WalkArith.wf_i64 (by omega))) ?_; intro w2 hmap3 hgrow2))
          have hB3 := hB2.grown hgrow2 hB2.size (fun k hk => by cases hk; exact Nat.le_refl _)
          go_roundw
          case rel => exact ⟨k + 1, c2 + 1, _, by omega, by go_num, hmap3, by omega, HST.out, hB3⟩
          case measure => simp [intOf]; omega
        · have hki : ¬ (k : Int) < (lj.length : Int) := by omega
          have hke : k = lj.length := by omega
          have HEN := hide (HE.out D2 (by rw [← hke]; exact hM2))
          clear hke
          go_wp2
          go_roundw
          case rel => exact ⟨j + 1, c2, D2, by omega, by go_num, hmap2, by omega, HEN.out, hB2⟩
          case measure => simp [intOf]; omega
    · have hji : ¬ (j : Int) < (ls.length : Int) := by omega
      have hje : j = ls.length := by omega
      have HM := hide (show MLs ls ls.length 0 D by rw [← hje]; exact hM)
      clear hje
      go_wp2
      go_ret
      exact ⟨rfl, D, map_le hmap (by omega), HM.out, hB⟩
theorem look_int {D : DataW Unit} {W : World} {mb c : Nat} {x q : Nat} (h : W.ownsMap Tryz.prog 3 (plainElem Tryz.prog 3) mb c D) (hx : x < 60) (hN : D.atKey (.int .i64 (x : Nat)) (.lit (.int .i64 0)) = .lit (.int .i64 (q : Nat))) :
    (Instr.lookup 75 (.map (some mb)) (.int .i64 (x : Nat)) false).run Tryz.prog W = .ok (.int .i64 (q : Nat)) W := by
  have hkw : (Lit.int .i64 (x : Nat)).wf = true := WalkArith.wf_i64 (by omega)
  obtain ⟨c, h1, h2, _⟩ := h.lookup_int law3 und89 und3' (zero3 _) (keyOf_int_mk und3' hkw)
  rw [hN] at h2
  cases h2
  exact h1
set_option maxRecDepth 100000 in
set_option maxHeartbeats 8000000 in
theorem group_ok (n K : Nat) (v lv : Value) (zs : List Int) (ls : List (List Int)) (hs : Nat → Nat) (F : Nat → Nat → Nat) (mb c : Nat) (D : DataW Unit) (w : World) (ht : IsTab n zs) (hv : Sl w v zs) (hL : SlL w lv ls) (hK : ls.length = K) (hK6 : K ≤ 60)
    (hh : ∀ i, i < K → ∃ t, ls[i]?.getD [] = (hs i : Int) :: t ∧ hs i < n) (hmap : w.ownsMap Tryz.prog 3 (plainElem Tryz.prog 3) mb c D)
    (hF : ∀ i j, i < K → j < K → D.atKey (.int .i64 (tm n zs (hs i) (hs j) : Nat)) (.lit (.int .i64 0)) = .lit (.int .i64 (F i j : Nat))) (hF6 : ∀ i j, i < K → j < K → F i j ≤ 60) :
    Calls Tryz.prog 46 #[.agg #[.int .i64 n, v], lv, .map (some mb)] w fun x w' => ∃ r, x = .returned (.agg #[.int .i64 K, r]) ∧ Row w' w.heap.size r (mkT K F) ∧ Below w.heap.size w w' := by
  obtain ⟨i0, hi, hz0, hz1, hz2⟩ := info_parts info3b
  obtain ⟨va, vl, vc, rfl⟩ := hv.isSlice
  obtain ⟨la, lc, lb, lo, rfl, l1, l2, l3, l4, l5⟩ := hL
  obtain ⟨T, hT⟩ : ∃ T, T = mkT K F := ⟨_, rfl⟩
  have HTL := hide (show T.length = K * K by rw [hT]; exact mkT_len K F)
  have HTG := hide (fun a b (ha : a < K) (hb : b < K) => show T[a * K + b]?.getD 0 = (F a b : Int) by
    obtain ⟨e1, e2⟩ := dm' (a := a) hb
    rw [hT, mkT_get (place_lt ha hb), e1, e2])
  rw [← hT]
  clear hT
  rw [hK] at *
  have HL1 := hide l1
  have HL2 := hide l2
  have HH := hide hh
  have HF := hide hF
  have HF6 := hide hF6
  have HMP := hide hmap
  have HV := hide hv
  have hn := ht.le
  clear l1 l2 l5 hh hF hF6 hmap hK hv
  obtain ⟨w0, hw0⟩ : ∃ w0, w0 = ((w.alloc (.cells #[.int .i64 n, .slice va vl vc] 24)).alloc (.cells #[.int .i64 0, .slice none 0 0] 24)).alloc (.cells #[.int .i64 K, .slice none 0 0] 24) := ⟨_, rfl⟩
  have hB0 : Below w.heap.size w w0 := by rw [hw0]; exact ((balloc w _).alloc (by simp) _).alloc (by simp; omega) _
  have hG0 : BoxG w0 w.heap.size n (.slice va vl vc) := by rw [hw0]; exact ((blk0 (w := w) (T := 24) _ _).alloc _).alloc _
  have hR0 : Blk w0 (w.heap.size + 1) 24 [.int .i64 0, .slice none 0 0] := by
    have := (blk0 (w := w.alloc (.cells #[.int .i64 n, .slice va vl vc] 24)) (T := 24) (.int .i64 0) (.slice none 0 0)).alloc (.cells #[.int .i64 K, .slice none 0 0] 24)
    rw [World.size_alloc] at this
    rw [hw0]; exact this
  have hX0 : Blk w0 (w.heap.size + 1 + 1) 24 [.int .i64 K, .slice none 0 0] := by
    have := blk0 (w := (w.alloc (.cells #[.int .i64 n, .slice va vl vc] 24)).alloc (.cells #[.int .i64 0, .slice none 0 0] 24)) (T := 24) (.int .i64 K) (.slice none 0 0)
    rw [World.size_alloc, World.size_alloc] at this
    rw [hw0]; exact this
  go_enter Tryz.func46, Tryz.ntmps46
  go_wp2
  rw [← hw0]
  clear hw0
  go_loopw [17] (fun i wr => ∃ (a : Nat) (r : Value), a ≤ K ∧ i = .int .i64 a ∧ Row wr (w.heap.size + 1 + 1 + 1) r (T.take (a * K)) ∧ BoxG wr w.heap.size n (.slice va vl vc) ∧ Blk wr (w.heap.size + 1) 24 [.int .i64 0, .slice none 0 0] ∧ Blk wr (w.heap.size + 1 + 1) 24 [.int .i64 K, r] ∧ Below w.heap.size w wr) (fun i _ => K - (intOf i).toNat)
  case atStart => exact ⟨0, .slice none 0 0, by omega, rfl, by simpa using nil_row _ _, hG0, hR0, hX0, hB0⟩
  case round =>
    obtain ⟨a, r, ha, rfl, hrow, hG, hR, hX, hB⟩ := hrel
    clear hR0 hX0 hB0 hG0
    by_cases hlta : a < K
    · have hai : (a : Int) < (K : Int) := by omega
      obtain rfl := HL1.out (by omega)
      obtain ⟨ya, cya, hya⟩ := HL2.out a hlta
      obtain ⟨ta, hta, hna⟩ := HH.out a hlta
      have cya := below_cell hB cya
      rw [hta] at hya
      obtain ⟨y1, y2, yb, yo, rfl, hyr, hyb, hyc, hym⟩ := hya
      have hyl : ((hs a : Int) :: ta).length = ta.length + 1 := rfl
      have hcx := hyr.cell 0 (by rw [hyl]; omega)
      rw [show ((hs a : Int) :: ta)[0]?.getD 0 = (hs a : Int) from rfl, Nat.add_zero] at hcx
      obtain rfl := hyr.at_ (by rw [hyl]; omega)
      rw [hyl] at cya hyc
      have hta9 : ta.length + 1 ≤ 9223372036854775807 := by unfold maxLen at hym; omega
      have HCX := hide hcx
      clear hyr hym hta hcx hyl
      go_wp2
      go_loopw [23] (fun i wr => ∃ (b : Nat) (r : Value), b ≤ K ∧ i = .int .i64 b ∧ Row wr (w.heap.size + 1 + 1 + 1) r (T.take (a * K + b)) ∧ BoxG wr w.heap.size n (.slice va vl vc) ∧ Blk wr (w.heap.size + 1) 24 [.int .i64 0, .slice none 0 0] ∧ Blk wr (w.heap.size + 1 + 1) 24 [.int .i64 K, r] ∧ Below w.heap.size w wr) (fun i _ => K - (intOf i).toNat)
      case atStart => exact ⟨0, r, by omega, rfl, hrow, hG, hR, hX, hB⟩
      case round =>
        obtain ⟨b, r', hb, rfl, hrow', hG', hR', hX', hB'⟩ := hrel
        clear hrow hG hR hX hB
        by_cases hltb : b < K
        · have hbi : (b : Int) < (K : Int) := by omega
          obtain ⟨yb9, cyb, hyb9⟩ := HL2.out b hltb
          obtain ⟨tb, htb, hnb⟩ := HH.out b hltb
          have cyb := below_cell hB' cyb
          rw [htb] at hyb9
          obtain ⟨z1, z2, zb, zo, rfl, hzr, hzb, hzc, hzm⟩ := hyb9
          have hzl : ((hs b : Int) :: tb).length = tb.length + 1 := rfl
          have hcz := hzr.cell 0 (by rw [hzl]; omega)
          rw [show ((hs b : Int) :: tb)[0]?.getD 0 = (hs b : Int) from rfl, Nat.add_zero] at hcz
          obtain rfl := hzr.at_ (by rw [hzl]; omega)
          rw [hzl] at cyb hzc
          have htb9 : tb.length + 1 ≤ 9223372036854775807 := by unfold maxLen at hzm; omega
          have HCZ := hide hcz
          clear hcz
          have HVL := hide (HTG.out a b hlta hltb)
          have hpl := place_lt hlta hltb
          have hlen : (T.take (a * K + b)).length = a * K + b := by rw [List.length_take, HTL.out]; omega
          have HSN := hide (show T.take (a * K + (b + 1)) = T.take (a * K + b) ++ [(F a b : Int)] by
            rw [← Nat.add_assoc, take_snoc' (by rw [HTL.out]; exact hpl), HVL.out])
          have hKK : K * K ≤ 3600 := Nat.mul_le_mul hK6 hK6
          have HLL := hide (show (T.take (a * K + b)).length ≤ 3600 by rw [hlen]; omega)
          have hown : wr.ownsRow (w.heap.size + 1 + 1 + 1) 3 1 r' (T.take (a * K + b)).length ((T.take (a * K + b)).map (Value.int .i64)) := hrow'
          have hp : hs a * n + hs b < n * n := place_lt hna hnb
          have hcm : wr.cell? ⟨w.heap.size, 0, none⟩ = some (.int .i64 n) := hG'.two.1
          have hcv : wr.cell? ⟨w.heap.size, 1, none⟩ = some (.slice va vl vc) := hG'.two.2.1
          obtain ⟨xa, xc, xb, xo, hve, hxr, hxb, _, hxm⟩ := HV.out
          injection hve with e1 e2 e3
          subst e1 e2 e3
          have hzn : zs.length = n * n := ht.len
          have hcc := hxr.cell (hs a * n + hs b) (by rw [hzn]; exact hp)
          obtain rfl := hxr.at_ (by rw [hzn]; omega)
          obtain ⟨h9a, h9b⟩ := ht.rng _ hp
          have hce : zs[hs a * n + hs b]?.getD 0 = (tm n zs (hs a) (hs b) : Int) := by unfold tm; omega
          rw [hce] at hcc
          have hq6 := HF6.out a b hlta hltb
          have hd6 : tm n zs (hs a) (hs b) < 60 := by
            have := tm_lt ht hna hnb
            omega
          have HOL := hide (fun (W : World) (h : Below w.heap.size w W) => look_int (W := W) (HMP.out.kept (below_grown h none) (by simp)) hd6 (HF.out a b hlta hltb))
          generalize tm n zs (hs a) (hs b) = d9 at *
          generalize F a b = q9 at *
          have hpi : (hs a : Int) * (n : Int) + (hs b : Int) = ((hs a * n + hs b : Nat) : Int) := by rw [Int.natCast_add, Int.natCast_mul]
          have hpz : ((hs a * n + hs b : Nat) : Int) < (zs.length : Int) := by rw [hzn]; omega
          have hxm9 : zs.length ≤ 9223372036854775807 := by unfold maxLen at hxm; omega
          have hmu : IntKind.i64.wrap ((hs a : Int) * (n : Int)) = (hs a : Int) * (n : Int) := by
            have h1 : hs a * n ≤ 60 * 60 := Nat.mul_le_mul (Nat.le_of_lt (Nat.lt_of_lt_of_le hna hn)) hn
            rw [IntKind.wrap_i64, ← Int.natCast_mul]
            omega
          have hwp : IntKind.i64.wrap ((hs a * n + hs b : Nat) : Int) = ((hs a * n + hs b : Nat) : Int) := by
            have h1 : n * n ≤ 60 * 60 := Nat.mul_le_mul hn hn
            rw [IntKind.wrap_i64]
            omega
          clear hzn hp
          clear hlen hrow' HVL hxr hzr hzm hzl htb hce h9a h9b hxm
          generalize T.take (a * K + b) = xs at *
          generalize hs a * n + hs b = p9 at *
          have HS := hide (fun (W : World) (h : Below w.heap.size w W) (hG : BoxG W w.heap.size n (.slice (some ⟨xb, xo, none⟩) zs.length vc)) => show (Below w.heap.size w W ∧ W.cell? ⟨w.heap.size, 0, none⟩ = some (.int .i64 n) ∧ W.cell? ⟨w.heap.size, 1, none⟩ = some (.slice (some ⟨xb, xo, none⟩) zs.length vc) ∧ W.cell? ⟨yb, yo, none⟩ = some (.int .i64 (hs a : Int)) ∧ W.cell? ⟨zb, zo, none⟩ = some (.int .i64 (hs b : Int)) ∧ W.cell? ⟨xb, xo + p9, none⟩ = some (.int .i64 (d9 : Int)) ∧ Sem.run Tryz.prog (Instr.lookup 75 (.map (some mb)) (.int .i64 (d9 : Int)) false) W = .ok (.int .i64 (q9 : Int)) W) from ⟨h, hG.two.1, hG.two.2.1, below_cell h HCX.out, below_cell h HCZ.out, below_cell h hcc, HOL.out W h⟩)
          clear hcc HOL
          obtain ⟨rx, rcap, rfl⟩ := own_slice hown
          obtain ⟨x0, x1, fx0, fx1⟩ := hX'.two
          have hs2 := hX'.lt
          go_wp2_with fail
          have hS9 : (fun W => Below w.heap.size w W ∧ W.cell? ⟨w.heap.size, 0, none⟩ = some (.int .i64 n) ∧ W.cell? ⟨w.heap.size, 1, none⟩ = some (.slice (some ⟨xb, xo, none⟩) zs.length vc) ∧ W.cell? ⟨yb, yo, none⟩ = some (.int .i64 (hs a : Int)) ∧ W.cell? ⟨zb, zo, none⟩ = some (.int .i64 (hs b : Int)) ∧ W.cell? ⟨xb, xo + p9, none⟩ = some (.int .i64 (d9 : Int)) ∧ Sem.run Tryz.prog (Instr.lookup 75 (.map (some mb)) (.int .i64 (d9 : Int)) false) W = .ok (.int .i64 (q9 : Int)) W) wr.drew := HS.out _ (bdrew hB') hG'
          refine wp_region_held_drew (S := (fun W => Below w.heap.size w W ∧ W.cell? ⟨w.heap.size, 0, none⟩ = some (.int .i64 n) ∧ W.cell? ⟨w.heap.size, 1, none⟩ = some (.slice (some ⟨xb, xo, none⟩) zs.length vc) ∧ W.cell? ⟨yb, yo, none⟩ = some (.int .i64 (hs a : Int)) ∧ W.cell? ⟨zb, zo, none⟩ = some (.int .i64 (hs b : Int)) ∧ W.cell? ⟨xb, xo + p9, none⟩ = some (.int .i64 (d9 : Int)) ∧ Sem.run Tryz.prog (Instr.lookup 75 (.map (some mb)) (.int .i64 (d9 : Int)) false) W = .ok (.int .i64 (q9 : Int)) W)) (by kernel_rfl) hS9 (fun hHeld => ?_)
          refine wpAnyH_take (i := 0) (oi := ({ dst := some 27, op := Go.Op.fieldAddr 24 (Go.Operand.tmp 7) 1, type := 0, pos := _, after := #[], guard := none } : Oper)) (v := ?_) rfl (by kernel_rfl) (by kernel_rfl) (by kernel_rfl) (fun _ _ _ h => h) (Or.inl ⟨by rfl, ?_⟩) (by assumption) ?_
          rotate_left
          · (intro w hSw; (try dsimp only at hSw); go_simp; try with_reducible rfl)
          simp only [Act.put, List.setIfInBounds_toArray, List.set_cons_zero, List.set_cons_succ]
          refine wpAnyH_take (i := 2) (oi := ({ dst := some 29, op := Go.Op.move (Go.Operand.tmp 2), type := 75, pos := _, after := #[], guard := none } : Oper)) (v := ?_) rfl (by kernel_rfl) (by kernel_rfl) (by kernel_rfl) (fun _ _ _ h => h) (Or.inl ⟨by rfl, ?_⟩) (by assumption) ?_
          rotate_left
          · (intro w hSw; (try dsimp only at hSw); go_simp; try with_reducible rfl)
          simp only [Act.put, List.setIfInBounds_toArray, List.set_cons_zero, List.set_cons_succ]
          refine wpAnyH_take (i := 3) (oi := ({ dst := some 30, op := Go.Op.fieldAddr 24 (Go.Operand.tmp 3) 1, type := 0, pos := _, after := #[], guard := none } : Oper)) (v := ?_) rfl (by kernel_rfl) (by kernel_rfl) (by kernel_rfl) (fun _ _ _ h => h) (Or.inl ⟨by rfl, ?_⟩) (by assumption) ?_
          rotate_left
          · (intro w hSw; (try dsimp only at hSw); go_simp; try with_reducible rfl)
          simp only [Act.put, List.setIfInBounds_toArray, List.set_cons_zero, List.set_cons_succ]
          refine wpAnyH_take (i := 4) (oi := ({ dst := some 31, op := Go.Op.load 22 (Go.Operand.tmp 30), type := 22, pos := _, after := #[{ on := 3, ground := Go.Ground.data }], guard := none } : Oper)) (v := ?_) rfl (by kernel_rfl) (by kernel_rfl) (by kernel_rfl) (fun _ _ _ h => h) (Or.inl ⟨by rfl, ?_⟩) (by assumption) ?_
          rotate_left
          · (intro w hSw; (try dsimp only at hSw); go_simp; try with_reducible rfl)
          simp only [Act.put, List.setIfInBounds_toArray, List.set_cons_zero, List.set_cons_succ]
          refine wpAnyH_take (i := 5) (oi := ({ dst := some 32, op := Go.Op.move (Go.Operand.tmp 9), type := 22, pos := _, after := #[], guard := none } : Oper)) (v := ?_) rfl (by kernel_rfl) (by kernel_rfl) (by kernel_rfl) (fun _ _ _ h => h) (Or.inl ⟨by rfl, ?_⟩) (by assumption) ?_
          rotate_left
          · (intro w hSw; (try dsimp only at hSw); go_simp; try with_reducible rfl)
          simp only [Act.put, List.setIfInBounds_toArray, List.set_cons_zero, List.set_cons_succ]
          refine wpAnyH_take (i := 6) (oi := ({ dst := some 33, op := Go.Op.indexAddr 22 (Go.Operand.tmp 32) (Go.Operand.const (Go.Value.int Go.IntKind.i64 0)), type := 0, pos := _, after := #[{ on := 5, ground := Go.Ground.data }], guard := none } : Oper)) (v := ?_) rfl (by kernel_rfl) (by kernel_rfl) (by kernel_rfl) (fun _ _ _ h => h) (Or.inl ⟨by rfl, ?_⟩) (by assumption) ?_
          rotate_left
          · (intro w hSw; (try dsimp only at hSw); go_simp; try with_reducible rfl)
          simp only [Act.put, List.setIfInBounds_toArray, List.set_cons_zero, List.set_cons_succ]
          refine wpAnyH_take (i := 7) (oi := ({ dst := some 34, op := Go.Op.load 3 (Go.Operand.tmp 33), type := 3, pos := _, after := #[{ on := 6, ground := Go.Ground.data }], guard := none } : Oper)) (v := ?_) rfl (by kernel_rfl) (by kernel_rfl) (by kernel_rfl) (fun _ _ _ h => h) (Or.inl ⟨by rfl, ?_⟩) (by assumption) ?_
          rotate_left
          · (intro w hSw; (try dsimp only at hSw); go_simp; try with_reducible rfl)
          simp only [Act.put, List.setIfInBounds_toArray, List.set_cons_zero, List.set_cons_succ]
          refine wpAnyH_take (i := 8) (oi := ({ dst := some 35, op := Go.Op.fieldAddr 24 (Go.Operand.tmp 3) 0, type := 0, pos := _, after := #[], guard := none } : Oper)) (v := ?_) rfl (by kernel_rfl) (by kernel_rfl) (by kernel_rfl) (fun _ _ _ h => h) (Or.inl ⟨by rfl, ?_⟩) (by assumption) ?_
          rotate_left
          · (intro w hSw; (try dsimp only at hSw); go_simp; try with_reducible rfl)
          simp only [Act.put, List.setIfInBounds_toArray, List.set_cons_zero, List.set_cons_succ]
          refine wpAnyH_take (i := 9) (oi := ({ dst := some 36, op := Go.Op.load 3 (Go.Operand.tmp 35), type := 3, pos := _, after := #[{ on := 8, ground := Go.Ground.data }], guard := none } : Oper)) (v := ?_) rfl (by kernel_rfl) (by kernel_rfl) (by kernel_rfl) (fun _ _ _ h => h) (Or.inl ⟨by rfl, ?_⟩) (by assumption) ?_
          rotate_left
          · (intro w hSw; (try dsimp only at hSw); go_simp; try with_reducible rfl)
          simp only [Act.put, List.setIfInBounds_toArray, List.set_cons_zero, List.set_cons_succ]
          refine wpAnyH_take (i := 10) (oi := ({ dst := some 37, op := Go.Op.binOp Go.BinOp.mul 3 (Go.Operand.tmp 34) (Go.Operand.tmp 36) 3, type := 3, pos := _, after := #[{ on := 7, ground := Go.Ground.data }, { on := 9, ground := Go.Ground.data }], guard := none } : Oper)) (v := ?_) rfl (by kernel_rfl) (by kernel_rfl) (by kernel_rfl) (fun _ _ _ h => h) (Or.inl ⟨by rfl, ?_⟩) (by assumption) ?_
          rotate_left
          · (intro w hSw; (try dsimp only at hSw); go_simp; try with_reducible rfl)
          simp only [Act.put, List.setIfInBounds_toArray, List.set_cons_zero, List.set_cons_succ]
          refine wpAnyH_take (i := 11) (oi := ({ dst := some 38, op := Go.Op.move (Go.Operand.tmp 11), type := 22, pos := _, after := #[], guard := none } : Oper)) (v := ?_) rfl (by kernel_rfl) (by kernel_rfl) (by kernel_rfl) (fun _ _ _ h => h) (Or.inl ⟨by rfl, ?_⟩) (by assumption) ?_
          rotate_left
          · (intro w hSw; (try dsimp only at hSw); go_simp; try with_reducible rfl)
          simp only [Act.put, List.setIfInBounds_toArray, List.set_cons_zero, List.set_cons_succ]
          refine wpAnyH_take (i := 12) (oi := ({ dst := some 39, op := Go.Op.indexAddr 22 (Go.Operand.tmp 38) (Go.Operand.const (Go.Value.int Go.IntKind.i64 0)), type := 0, pos := _, after := #[{ on := 11, ground := Go.Ground.data }], guard := none } : Oper)) (v := ?_) rfl (by kernel_rfl) (by kernel_rfl) (by kernel_rfl) (fun _ _ _ h => h) (Or.inl ⟨by rfl, ?_⟩) (by assumption) ?_
          rotate_left
          · (intro w hSw; (try dsimp only at hSw); go_simp; try with_reducible rfl)
          simp only [Act.put, List.setIfInBounds_toArray, List.set_cons_zero, List.set_cons_succ]
          refine wpAnyH_take (i := 13) (oi := ({ dst := some 40, op := Go.Op.load 3 (Go.Operand.tmp 39), type := 3, pos := _, after := #[{ on := 12, ground := Go.Ground.data }], guard := none } : Oper)) (v := ?_) rfl (by kernel_rfl) (by kernel_rfl) (by kernel_rfl) (fun _ _ _ h => h) (Or.inl ⟨by rfl, ?_⟩) (by assumption) ?_
          rotate_left
          · (intro w hSw; (try dsimp only at hSw); go_simp; try with_reducible rfl)
          simp only [Act.put, List.setIfInBounds_toArray, List.set_cons_zero, List.set_cons_succ]
          refine wpAnyH_take (i := 14) (oi := ({ dst := some 41, op := Go.Op.binOp Go.BinOp.add 3 (Go.Operand.tmp 37) (Go.Operand.tmp 40) 3, type := 3, pos := _, after := #[{ on := 10, ground := Go.Ground.data }, { on := 13, ground := Go.Ground.data }], guard := none } : Oper)) (v := ?_) rfl (by kernel_rfl) (by kernel_rfl) (by kernel_rfl) (fun _ _ _ h => h) (Or.inl ⟨by rfl, ?_⟩) (by assumption) ?_
          rotate_left
          · (intro w hSw; (try dsimp only at hSw); go_simp; try with_reducible rfl)
          simp only [Act.put, List.setIfInBounds_toArray, List.set_cons_zero, List.set_cons_succ]
          refine wpAnyH_take (i := 15) (oi := ({ dst := some 42, op := Go.Op.indexAddr 22 (Go.Operand.tmp 31) (Go.Operand.tmp 41), type := 0, pos := _, after := #[{ on := 4, ground := Go.Ground.data }, { on := 14, ground := Go.Ground.data }], guard := none } : Oper)) (v := ?_) rfl (by kernel_rfl) (by kernel_rfl) (by kernel_rfl) (fun _ _ _ h => h) (Or.inl ⟨by rfl, ?_⟩) (by assumption) ?_
          rotate_left
          · (intro w hSw; (try dsimp only at hSw); go_simp; try with_reducible rfl)
          simp only [Act.put, List.setIfInBounds_toArray, List.set_cons_zero, List.set_cons_succ]
          refine wpAnyH_take (i := 16) (oi := ({ dst := some 43, op := Go.Op.load 3 (Go.Operand.tmp 42), type := 3, pos := _, after := #[{ on := 15, ground := Go.Ground.data }], guard := none } : Oper)) (v := ?_) rfl (by kernel_rfl) (by kernel_rfl) (by kernel_rfl) (fun _ _ _ h => h) (Or.inl ⟨by rfl, ?_⟩) (by assumption) ?_
          rotate_left
          · (intro w hSw; (try dsimp only at hSw); go_simp; try with_reducible rfl)
          simp only [Act.put, List.setIfInBounds_toArray, List.set_cons_zero, List.set_cons_succ]
          refine wpAnyH_take (i := 17) (oi := ({ dst := some 44, op := Go.Op.lookup 75 (Go.Operand.tmp 29) (Go.Operand.tmp 43) false, type := 3, pos := _, after := #[{ on := 2, ground := Go.Ground.data }, { on := 16, ground := Go.Ground.data }], guard := none } : Oper)) (v := ?_) rfl (by kernel_rfl) (by kernel_rfl) (by kernel_rfl) (fun _ _ _ h => h) (Or.inl ⟨by rfl, ?_⟩) (by assumption) ?_
          rotate_left
          · (intro w hSw; (try dsimp only at hSw); go_simp; try with_reducible rfl)
          simp only [Act.put, List.setIfInBounds_toArray, List.set_cons_zero, List.set_cons_succ]
          refine wpAnyH_ready (rs := [1, 18]) (by kernel_rfl) (by simp) (AllReadyH.cons (o := ({ dst := some 28, op := Go.Op.load 22 (Go.Operand.tmp 27), type := 22, pos := _, after := #[{ on := 0, ground := Go.Ground.data }], guard := none } : Oper)) rfl (fun KK hK => ?_) (AllReadyH.cons (o := ({ dst := some 45, op := Go.Op.buildSlice 22 1 #[(0, Go.Operand.tmp 44)], type := 22, pos := _, after := #[{ on := 17, ground := Go.Ground.data }], guard := none } : Oper)) rfl (fun KK hK => ?_) AllReadyH.nil))
          · go_simp
            refine hK.out _ _ hHeld (fun hHeld => ?_)
            clear hK
            try simp only [Act.put, List.setIfInBounds_toArray, List.set_cons_zero, List.set_cons_succ]
            refine wpAnyH_ready (rs := [18]) (by kernel_rfl) (by simp) (AllReadyH.cons (o := ({ dst := some 45, op := Go.Op.buildSlice 22 1 #[(0, Go.Operand.tmp 44)], type := 22, pos := _, after := #[{ on := 17, ground := Go.Ground.data }], guard := none } : Oper)) rfl (fun KK hK => ?_) AllReadyH.nil)
            go_simp
            refine hK.out _ _ (HS.out _ ((bdrew hB').alloc (bdrew hB').size _) (Blk.alloc (show Blk wr.drew w.heap.size 24 [.int .i64 n, .slice (some ⟨xb, xo, none⟩) zs.length vc] from hG') _)) (fun hHeld => ?_)
            clear hK
            try simp only [Act.put, List.setIfInBounds_toArray, List.set_cons_zero, List.set_cons_succ]
            refine wpAnyH_ready (rs := [19]) (by kernel_rfl) (by simp) (AllReadyH.cons (o := ({ dst := some 46, op := Go.Op.call { callee := Go.Callee.builtin Go.Builtin.append, args := #[Go.Operand.tmp 28, Go.Operand.tmp 45], argTypes := #[22, 22] }, type := 22, pos := _, after := #[{ on := 1, ground := Go.Ground.data }, { on := 18, ground := Go.Ground.data }], guard := none } : Oper)) rfl (fun KK hK => ?_) AllReadyH.nil)
            refine step_append_lies _ rfl _ _ 22 rfl (w.heap.size + 1 + 1 + 1) 3 i0 (.int .i64 0) 1 8 under22b hi hz0 hz1 hz2 rfl (by decide) _ _ _ rfl (World.ownsRow.alloc hown _) ⟨wr.heap.size, 0, none⟩ 1 1 [.int .i64 q9] rfl rfl (cell_one_new _ _ _) (by simp [Value.oneCell']) (by decide) (by unfold maxLen; have := HLL.out; omega) (by have := HLL.out; omega) (by simp; omega) _ rfl ?_
            intro g9 cap9 w9 hown9 hgrow hloc _
            have hk9 : ∀ k, k < w.heap.size + 1 + 1 + 1 → w9.heap[k]? = wr.heap[k]? := fun k hk => (hgrow.block k (by simp; omega) (fun e9 => by have := owns_ge hown k e9.symm; omega)).trans (Below.heap_alloc _ _ k (show k < wr.heap.size by omega))
            have hX9 : Blk w9 (w.heap.size + 1 + 1) 24 [.int .i64 K, .slice rx xs.length rcap] := hX'.of_eq (hk9 _ (by omega))
            have hcw := hX9.two.2.1
            have hfw := hX9.two.2.2.2
            have hG9 : BoxG w9 w.heap.size n (.slice (some ⟨xb, xo, none⟩) zs.length vc) := hG'.of_eq (hk9 _ (by omega))
            have hB9 : Below w.heap.size w w9 := ((bdrew hB').alloc (bdrew hB').size _).grown hgrow (by have := hB'.size; simp; omega) (fun t e9 => by have := owns_ge hown t e9; omega)
            have hG3 := hG9.other (p := ⟨w.heap.size + 1 + 1, 1, none⟩) (by simp; omega) (.slice (some ⟨g9, 0, none⟩) (xs.length + 1) cap9)
            have hB3 := hB9.setCell (p := ⟨w.heap.size + 1 + 1, 1, none⟩) (by simp; omega) (.slice (some ⟨g9, 0, none⟩) (xs.length + 1) cap9)
            refine hK.out _ _ (HS.out _ hB9 hG9) (fun hHeld => ?_)
            clear hK
            try simp only [Act.put, List.setIfInBounds_toArray, List.set_cons_zero, List.set_cons_succ]
            refine wpAnyH_take (i := 20) (oi := ({ dst := some 47, op := Go.Op.fieldAddr 24 (Go.Operand.tmp 7) 1, type := 0, pos := _, after := #[{ on := 0, ground := Go.Ground.phase }, { on := 1, ground := Go.Ground.phase }, { on := 2, ground := Go.Ground.phase }, { on := 3, ground := Go.Ground.phase }, { on := 4, ground := Go.Ground.phase }, { on := 5, ground := Go.Ground.phase }, { on := 6, ground := Go.Ground.phase }, { on := 7, ground := Go.Ground.phase }, { on := 8, ground := Go.Ground.phase }, { on := 9, ground := Go.Ground.phase }, { on := 10, ground := Go.Ground.phase }, { on := 11, ground := Go.Ground.phase }, { on := 12, ground := Go.Ground.phase }, { on := 13, ground := Go.Ground.phase }, { on := 14, ground := Go.Ground.phase }, { on := 15, ground := Go.Ground.phase }, { on := 16, ground := Go.Ground.phase }, { on := 17, ground := Go.Ground.phase }, { on := 18, ground := Go.Ground.phase }, { on := 19, ground := Go.Ground.phase }], guard := none } : Oper)) (v := ?_) rfl (by kernel_rfl) (by kernel_rfl) (by kernel_rfl) (fun _ _ _ h => h) (Or.inl ⟨by rfl, ?_⟩) (by assumption) ?_
            rotate_left
            · (intro w hSw; (try dsimp only at hSw); go_simp; try with_reducible rfl)
            simp only [Act.put, List.setIfInBounds_toArray, List.set_cons_zero, List.set_cons_succ]
            refine wpAnyH_ready (rs := [21]) (by kernel_rfl) (by simp) (AllReadyH.cons (o := ({ dst := none, op := Go.Op.store 22 (Go.Operand.tmp 47) (Go.Operand.tmp 46), type := 0, pos := _, after := #[{ on := 20, ground := Go.Ground.data }, { on := 19, ground := Go.Ground.data }, { on := 19, ground := Go.Ground.chain }, { on := 0, ground := Go.Ground.phase }, { on := 1, ground := Go.Ground.phase }, { on := 2, ground := Go.Ground.phase }, { on := 3, ground := Go.Ground.phase }, { on := 4, ground := Go.Ground.phase }, { on := 5, ground := Go.Ground.phase }, { on := 6, ground := Go.Ground.phase }, { on := 7, ground := Go.Ground.phase }, { on := 8, ground := Go.Ground.phase }, { on := 9, ground := Go.Ground.phase }, { on := 10, ground := Go.Ground.phase }, { on := 11, ground := Go.Ground.phase }, { on := 12, ground := Go.Ground.phase }, { on := 13, ground := Go.Ground.phase }, { on := 14, ground := Go.Ground.phase }, { on := 15, ground := Go.Ground.phase }, { on := 16, ground := Go.Ground.phase }, { on := 17, ground := Go.Ground.phase }, { on := 18, ground := Go.Ground.phase }, { on := 19, ground := Go.Ground.phase }], guard := none } : Oper)) rfl (fun KK hK => ?_) AllReadyH.nil)
            go_simp
            refine hK.out _ _ (HS.out _ hB3 hG3) (fun hHeld => ?_)
            clear hK
            try simp only [Act.put, List.setIfInBounds_toArray, List.set_cons_zero, List.set_cons_succ]
            refine wpAnyH_done (by kernel_rfl) ?_ _
            have hX3 := hX9.set 1 (.slice (some ⟨g9, 0, none⟩) (xs.length + 1) cap9)
            have hR9 : Blk w9 (w.heap.size + 1) 24 [.int .i64 0, .slice none 0 0] := hR'.of_eq (hk9 _ (by omega))
            have hR3 := hR9.other (p := ⟨w.heap.size + 1 + 1, 1, none⟩) (by simp) (.slice (some ⟨g9, 0, none⟩) (xs.length + 1) cap9)
            have hrow9 : Row w9 (w.heap.size + 1 + 1 + 1) (.slice (some ⟨g9, 0, none⟩) (xs.length + 1) cap9) (T.take (a * K + (b + 1))) := by
              unfold Row
              rw [HSN.out]
              simpa using hown9
            have hrow3 := row_keep (W' := w9.setCell ⟨w.heap.size + 1 + 1, 1, none⟩ (.slice (some ⟨g9, 0, none⟩) (xs.length + 1) cap9)) hrow9 (fun g h1 _ => Below.heap_setCell _ _ _ g (by simp; omega))
            clear hown9 hgrow hown hrow9 hk9 hloc
            go_wp2
            go_roundw
            case rel => exact ⟨b + 1, _, by omega, by go_num, hrow3, hG3, hR3, hX3, hB3⟩
            case measure => simp [intOf]; omega
          · go_simp
            refine hK.out _ _ (HS.out _ ((bdrew hB').alloc (bdrew hB').size _) (Blk.alloc (show Blk wr.drew w.heap.size 24 [.int .i64 n, .slice (some ⟨xb, xo, none⟩) zs.length vc] from hG') _)) (fun hHeld => ?_)
            clear hK
            try simp only [Act.put, List.setIfInBounds_toArray, List.set_cons_zero, List.set_cons_succ]
            refine wpAnyH_ready (rs := [1]) (by kernel_rfl) (by simp) (AllReadyH.cons (o := ({ dst := some 28, op := Go.Op.load 22 (Go.Operand.tmp 27), type := 22, pos := _, after := #[{ on := 0, ground := Go.Ground.data }], guard := none } : Oper)) rfl (fun KK hK => ?_) AllReadyH.nil)
            have x1a := (Blk.alloc (show Blk wr.drew (w.heap.size + 1 + 1) 24 [.int .i64 K, .slice rx xs.length rcap] from hX') (.cells #[.int .i64 q9] 3)).two.2.1
            go_simp
            refine hK.out _ _ hHeld (fun hHeld => ?_)
            clear hK
            try simp only [Act.put, List.setIfInBounds_toArray, List.set_cons_zero, List.set_cons_succ]
            refine wpAnyH_ready (rs := [19]) (by kernel_rfl) (by simp) (AllReadyH.cons (o := ({ dst := some 46, op := Go.Op.call { callee := Go.Callee.builtin Go.Builtin.append, args := #[Go.Operand.tmp 28, Go.Operand.tmp 45], argTypes := #[22, 22] }, type := 22, pos := _, after := #[{ on := 1, ground := Go.Ground.data }, { on := 18, ground := Go.Ground.data }], guard := none } : Oper)) rfl (fun KK hK => ?_) AllReadyH.nil)
            refine step_append_lies _ rfl _ _ 22 rfl (w.heap.size + 1 + 1 + 1) 3 i0 (.int .i64 0) 1 8 under22b hi hz0 hz1 hz2 rfl (by decide) _ _ _ rfl (World.ownsRow.alloc hown _) ⟨wr.heap.size, 0, none⟩ 1 1 [.int .i64 q9] rfl rfl (cell_one_new _ _ _) (by simp [Value.oneCell']) (by decide) (by unfold maxLen; have := HLL.out; omega) (by have := HLL.out; omega) (by simp; omega) _ rfl ?_
            intro g9 cap9 w9 hown9 hgrow hloc _
            have hk9 : ∀ k, k < w.heap.size + 1 + 1 + 1 → w9.heap[k]? = wr.heap[k]? := fun k hk => (hgrow.block k (by simp; omega) (fun e9 => by have := owns_ge hown k e9.symm; omega)).trans (Below.heap_alloc _ _ k (show k < wr.heap.size by omega))
            have hX9 : Blk w9 (w.heap.size + 1 + 1) 24 [.int .i64 K, .slice rx xs.length rcap] := hX'.of_eq (hk9 _ (by omega))
            have hcw := hX9.two.2.1
            have hfw := hX9.two.2.2.2
            have hG9 : BoxG w9 w.heap.size n (.slice (some ⟨xb, xo, none⟩) zs.length vc) := hG'.of_eq (hk9 _ (by omega))
            have hB9 : Below w.heap.size w w9 := ((bdrew hB').alloc (bdrew hB').size _).grown hgrow (by have := hB'.size; simp; omega) (fun t e9 => by have := owns_ge hown t e9; omega)
            have hG3 := hG9.other (p := ⟨w.heap.size + 1 + 1, 1, none⟩) (by simp; omega) (.slice (some ⟨g9, 0, none⟩) (xs.length + 1) cap9)
            have hB3 := hB9.setCell (p := ⟨w.heap.size + 1 + 1, 1, none⟩) (by simp; omega) (.slice (some ⟨g9, 0, none⟩) (xs.length + 1) cap9)
            refine hK.out _ _ (HS.out _ hB9 hG9) (fun hHeld => ?_)
            clear hK
            try simp only [Act.put, List.setIfInBounds_toArray, List.set_cons_zero, List.set_cons_succ]
            refine wpAnyH_take (i := 20) (oi := ({ dst := some 47, op := Go.Op.fieldAddr 24 (Go.Operand.tmp 7) 1, type := 0, pos := _, after := #[{ on := 0, ground := Go.Ground.phase }, { on := 1, ground := Go.Ground.phase }, { on := 2, ground := Go.Ground.phase }, { on := 3, ground := Go.Ground.phase }, { on := 4, ground := Go.Ground.phase }, { on := 5, ground := Go.Ground.phase }, { on := 6, ground := Go.Ground.phase }, { on := 7, ground := Go.Ground.phase }, { on := 8, ground := Go.Ground.phase }, { on := 9, ground := Go.Ground.phase }, { on := 10, ground := Go.Ground.phase }, { on := 11, ground := Go.Ground.phase }, { on := 12, ground := Go.Ground.phase }, { on := 13, ground := Go.Ground.phase }, { on := 14, ground := Go.Ground.phase }, { on := 15, ground := Go.Ground.phase }, { on := 16, ground := Go.Ground.phase }, { on := 17, ground := Go.Ground.phase }, { on := 18, ground := Go.Ground.phase }, { on := 19, ground := Go.Ground.phase }], guard := none } : Oper)) (v := ?_) rfl (by kernel_rfl) (by kernel_rfl) (by kernel_rfl) (fun _ _ _ h => h) (Or.inl ⟨by rfl, ?_⟩) (by assumption) ?_
            rotate_left
            · (intro w hSw; (try dsimp only at hSw); go_simp; try with_reducible rfl)
            simp only [Act.put, List.setIfInBounds_toArray, List.set_cons_zero, List.set_cons_succ]
            refine wpAnyH_ready (rs := [21]) (by kernel_rfl) (by simp) (AllReadyH.cons (o := ({ dst := none, op := Go.Op.store 22 (Go.Operand.tmp 47) (Go.Operand.tmp 46), type := 0, pos := _, after := #[{ on := 20, ground := Go.Ground.data }, { on := 19, ground := Go.Ground.data }, { on := 19, ground := Go.Ground.chain }, { on := 0, ground := Go.Ground.phase }, { on := 1, ground := Go.Ground.phase }, { on := 2, ground := Go.Ground.phase }, { on := 3, ground := Go.Ground.phase }, { on := 4, ground := Go.Ground.phase }, { on := 5, ground := Go.Ground.phase }, { on := 6, ground := Go.Ground.phase }, { on := 7, ground := Go.Ground.phase }, { on := 8, ground := Go.Ground.phase }, { on := 9, ground := Go.Ground.phase }, { on := 10, ground := Go.Ground.phase }, { on := 11, ground := Go.Ground.phase }, { on := 12, ground := Go.Ground.phase }, { on := 13, ground := Go.Ground.phase }, { on := 14, ground := Go.Ground.phase }, { on := 15, ground := Go.Ground.phase }, { on := 16, ground := Go.Ground.phase }, { on := 17, ground := Go.Ground.phase }, { on := 18, ground := Go.Ground.phase }, { on := 19, ground := Go.Ground.phase }], guard := none } : Oper)) rfl (fun KK hK => ?_) AllReadyH.nil)
            go_simp
            refine hK.out _ _ (HS.out _ hB3 hG3) (fun hHeld => ?_)
            clear hK
            try simp only [Act.put, List.setIfInBounds_toArray, List.set_cons_zero, List.set_cons_succ]
            refine wpAnyH_done (by kernel_rfl) ?_ _
            have hX3 := hX9.set 1 (.slice (some ⟨g9, 0, none⟩) (xs.length + 1) cap9)
            have hR9 : Blk w9 (w.heap.size + 1) 24 [.int .i64 0, .slice none 0 0] := hR'.of_eq (hk9 _ (by omega))
            have hR3 := hR9.other (p := ⟨w.heap.size + 1 + 1, 1, none⟩) (by simp) (.slice (some ⟨g9, 0, none⟩) (xs.length + 1) cap9)
            have hrow9 : Row w9 (w.heap.size + 1 + 1 + 1) (.slice (some ⟨g9, 0, none⟩) (xs.length + 1) cap9) (T.take (a * K + (b + 1))) := by
              unfold Row
              rw [HSN.out]
              simpa using hown9
            have hrow3 := row_keep (W' := w9.setCell ⟨w.heap.size + 1 + 1, 1, none⟩ (.slice (some ⟨g9, 0, none⟩) (xs.length + 1) cap9)) hrow9 (fun g h1 _ => Below.heap_setCell _ _ _ g (by simp; omega))
            clear hown9 hgrow hown hrow9 hk9 hloc
            go_wp2
            go_roundw
            case rel => exact ⟨b + 1, _, by omega, by go_num, hrow3, hG3, hR3, hX3, hB3⟩
            case measure => simp [intOf]; omega
        · have hbi : ¬ (b : Int) < (K : Int) := by omega
          have hbe : b = K := by omega
          have hrow' : Row wr (w.heap.size + 1 + 1 + 1) r' (T.take ((a + 1) * K)) := by rw [show (a + 1) * K = a * K + b by rw [Nat.succ_mul, hbe]]; exact hrow'
          clear hbe
          go_wp2
          go_roundw
          case rel => exact ⟨a + 1, r', by omega, by go_num, hrow', hG', hR', hX', hB'⟩
          case measure => simp [intOf]; omega
    · have hai : ¬ (a : Int) < (K : Int) := by omega
      have hae : a = K := by omega
      have hrow : Row wr (w.heap.size + 1 + 1 + 1) r T := by
        have : T.take (a * K) = T := List.take_of_length_le (by rw [HTL.out, hae]; exact Nat.le_refl _)
        rw [← this]; exact hrow
      clear hae
      obtain ⟨rx, rcap, rfl⟩ := own_slice hrow
      obtain ⟨x0, x1, _, _⟩ := hX.two
      obtain ⟨y0, y1, fy0, fy1⟩ := hR.two
      have hR6 := (hR.set 0 (.int .i64 K)).set 1 (.slice rx T.length rcap)
      have hB6 := (hB.setCell (p := ⟨w.heap.size + 1, 0, none⟩) (by simp) (.int .i64 K)).setCell (p := ⟨w.heap.size + 1, 1, none⟩) (by simp) (.slice rx T.length rcap)
      have hrow6 := row_keep (W' := (wr.setCell ⟨w.heap.size + 1, 0, none⟩ (.int .i64 K)).setCell ⟨w.heap.size + 1, 1, none⟩ (.slice rx T.length rcap)) hrow (fun g h1 _ => (Below.heap_setCell _ _ _ g (by simp; omega)).trans (Below.heap_setCell _ _ _ g (by simp; omega)))
      go_wp2
      obtain ⟨z0, z1, _, _⟩ := hR6.two
      exact bodyPost_ret (v := .agg #[.int .i64 K, .slice rx T.length rcap]) (by simp [results, Tryz.results46, go_sem, z0, z1]) rfl ⟨_, rfl, owns_mono hrow6 (by omega), hB6⟩
end Go.Proofs.YtjiapicknkjhmaaGreatDoor
