/- Plain mathematics: the lists that the walk of cycles yields are the cycles of the permutation, apart from each other, and all points are in them. No condition. -/
import Derived.Test.YtjchmhngfnlbhaaDoorMath
namespace Go.Proofs.YtjchmhngfnlbhaaDoor

/-- A cycle: no point twice, each followed by the one to which it is moved, the last by the first. -/
structure IsCyc (zs : List Int) (c : List Nat) : Prop where
  ne : c ≠ []
  nodup : c.Nodup
  lt : ∀ x, x ∈ c → x < zs.length
  next : ∀ k, k < c.length → nx zs (c[k]?.getD 0) = c[(k + 1) % c.length]?.getD 0

/-- What is seen when the points cs have been marked. -/
def setAll (seen : List Bool) (cs : List Nat) : List Bool := cs.foldl (fun s x => s.set x true) seen
theorem setAll_snoc (seen : List Bool) (cs : List Nat) (x : Nat) : setAll seen (cs ++ [x]) = (setAll seen cs).set x true := by simp [setAll]
theorem setAll_len : ∀ (cs : List Nat) (seen : List Bool), (setAll seen cs).length = seen.length
  | [], _ => rfl
  | x :: cs, seen => by
    show (setAll (seen.set x true) cs).length = _
    rw [setAll_len cs]; simp
theorem setAll_get : ∀ (cs : List Nat) (seen : List Bool) (y : Nat), y < seen.length → (setAll seen cs)[y]?.getD true = (seen[y]?.getD true || decide (y ∈ cs))
  | [], seen, y, h => by simp [setAll]
  | x :: cs, seen, y, h => by
    show (setAll (seen.set x true) cs)[y]?.getD true = _
    rw [setAll_get cs _ y (by simpa using h), List.getElem?_set]
    by_cases e : x = y
    · subst e
      simp [h]
    · have : ¬ y = x := fun h => e h.symm
      simp [e, this]

/-- Points that are seen go with those to which they are moved. -/
def Stable (zs : List Int) (seen : List Bool) : Prop := ∀ y, y < zs.length → seen[nx zs y]?.getD true = seen[y]?.getD true

/-- What holds while the walk goes along a cycle from i. -/
structure Along (zs : List Int) (seen : List Bool) (i : Nat) (cs : List Nat) (x : Nat) : Prop where
  first : cs[0]?.getD x = i
  nodup : cs.Nodup
  lt : ∀ y, y ∈ cs → y < zs.length
  fresh : ∀ y, y ∈ cs → seen[y]?.getD true = false
  step : ∀ k, k + 1 < cs.length → nx zs (cs[k]?.getD 0) = cs[k + 1]?.getD 0
  last : 0 < cs.length → nx zs (cs[cs.length - 1]?.getD 0) = x
  xlt : x < zs.length

theorem nx_inj {zs : List Int} (hp : IsPerm zs) {a b : Nat} (ha : a < zs.length) (hb : b < zs.length) (h : nx zs a = nx zs b) : a = b := by
  by_cases e : a = b
  · exact e
  · exact absurd h (nx_ne hp ha hb e)
theorem getD_mem {cs : List Nat} {k d : Nat} (hk : k < cs.length) : cs[k]?.getD d ∈ cs := by
  rw [List.getElem?_eq_getElem hk]; exact List.getElem_mem hk
theorem getD_d {cs : List Nat} {k d e : Nat} (hk : k < cs.length) : cs[k]?.getD d = cs[k]?.getD e := by
  rw [List.getElem?_eq_getElem hk]; rfl
theorem nodup_getD {cs : List Nat} (hn : cs.Nodup) {j k : Nat} (hj : j < cs.length) (hk : k < cs.length) (h : cs[j]?.getD 0 = cs[k]?.getD 0) : j = k := by
  rw [List.getElem?_eq_getElem hj, List.getElem?_eq_getElem hk] at h
  simp at h
  exact (List.getElem_inj hn).1 h

theorem along_close {zs : List Int} (hp : IsPerm zs) {seen : List Bool} (hs : Stable zs seen) (hl : seen.length = zs.length) {i : Nat} (hi : seen[i]?.getD true = false) {cs : List Nat} {x : Nat}
    (h : Along zs seen i cs x) (hx : (setAll seen cs)[x]?.getD true = true) : IsCyc zs cs ∧ i ∈ cs := by
  have hpos : 0 < cs.length := by
    cases cs with
    | nil =>
      have := h.first
      simp at this
      subst this
      simp [setAll, hi] at hx
    | cons a l => simp
  have hlast := h.last hpos
  have hlm : cs[cs.length - 1]?.getD 0 ∈ cs := getD_mem (by omega)
  rw [setAll_get _ _ _ (by rw [hl]; exact h.xlt)] at hx
  have hxm : x ∈ cs := by
    simp at hx
    rcases hx with hx | hx
    · exfalso
      have h1 := hs _ (h.lt _ hlm)
      rw [hlast, h.fresh _ hlm] at h1
      rw [h1] at hx; cases hx
    · exact hx
  have hx0 : cs[0]?.getD 0 = x := by
    obtain ⟨j, hj, e⟩ := List.mem_iff_getElem.1 hxm
    cases j with
    | zero => rw [List.getElem?_eq_getElem hj]; exact e
    | succ j =>
      exfalso
      have h1 := h.step j hj
      have h2 : cs[j + 1]?.getD 0 = x := by rw [List.getElem?_eq_getElem hj]; exact e
      rw [h2, ← hlast] at h1
      have h3 := nx_inj hp (h.lt _ (getD_mem (by omega))) (h.lt _ hlm) h1
      have h4 := nodup_getD h.nodup (by omega) (by omega) h3
      omega
  refine ⟨⟨fun e => by rw [e] at hpos; simp at hpos, h.nodup, h.lt, fun k hk => ?_⟩, ?_⟩
  · by_cases e : k + 1 < cs.length
    · rw [Nat.mod_eq_of_lt e]; exact h.step k e
    · have ek : k = cs.length - 1 := by omega
      rw [show k + 1 = cs.length by omega, Nat.mod_self, hx0, ek]; exact hlast
  · have := h.first
    rw [getD_d (e := 0) hpos] at this
    rw [← this]; exact getD_mem hpos

theorem orb_spec {zs : List Int} (hp : IsPerm zs) {seen : List Bool} (hs : Stable zs seen) (hl : seen.length = zs.length) {i : Nat} (hi : seen[i]?.getD true = false) :
    ∀ (f : Nat) (cs : List Nat) (x : Nat), Along zs seen i cs x → (setAll seen cs).count false ≤ f →
      IsCyc zs (cs ++ (orb zs f (setAll seen cs) x).1) ∧ i ∈ cs ++ (orb zs f (setAll seen cs) x).1 ∧ (∀ y, y ∈ cs ++ (orb zs f (setAll seen cs) x).1 → seen[y]?.getD true = false) ∧
      (orb zs f (setAll seen cs) x).2 = setAll seen (cs ++ (orb zs f (setAll seen cs) x).1) := by
  intro f
  induction f with
  | zero =>
    intro cs x h hc
    cases hx : (setAll seen cs)[x]?.getD true with
    | true =>
      rw [orb_seen hx]
      obtain ⟨h1, h2⟩ := along_close hp hs hl hi h hx
      simpa using ⟨h1, h2, h.fresh⟩
    | false =>
      have := count_pos (by rw [setAll_len, hl]; exact h.xlt) hx
      omega
  | succ f ih =>
    intro cs x h hc
    cases hx : (setAll seen cs)[x]?.getD true with
    | true =>
      rw [orb_seen hx]
      obtain ⟨h1, h2⟩ := along_close hp hs hl hi h hx
      simpa using ⟨h1, h2, h.fresh⟩
    | false =>
      have hxl : x < (setAll seen cs).length := by rw [setAll_len, hl]; exact h.xlt
      obtain ⟨f', hf, hc', ho⟩ := orb_on (zs := zs) hxl hx hc
      obtain rfl : f = f' := by omega
      have hx2 := hx
      rw [setAll_get _ _ _ (by rw [hl]; exact h.xlt)] at hx2
      simp at hx2
      have hA : Along zs seen i (cs ++ [x]) (nx zs x) := by
        refine ⟨?_, ?_, ?_, ?_, ?_, ?_, (nx_lt hp h.xlt).1⟩
        · cases cs with
          | nil => simpa using h.first
          | cons a l => simpa using h.first
        · rw [List.nodup_append]
          refine ⟨h.nodup, by simp, ?_⟩
          intro a ha b hb
          simp at hb
          subst hb
          intro e
          subst e
          exact hx2.2 ha
        · intro y hy
          rcases List.mem_append.1 hy with hy | hy
          · exact h.lt y hy
          · simp at hy; subst hy; exact h.xlt
        · intro y hy
          rcases List.mem_append.1 hy with hy | hy
          · exact h.fresh y hy
          · simp at hy; subst hy; exact hx2.1
        · intro k hk
          simp at hk
          by_cases e : k + 1 < cs.length
          · rw [List.getElem?_append_left (by omega), List.getElem?_append_left e]
            exact h.step k e
          · have ek : k + 1 = cs.length := by omega
            rw [List.getElem?_append_left (by omega), List.getElem?_append_right (by omega), show k + 1 - cs.length = 0 by omega]
            have := h.last (by omega)
            rw [show cs.length - 1 = k by omega] at this
            simpa using this
        · intro _
          simp
      rw [← setAll_snoc] at ho hc'
      obtain ⟨h1, h2, h3, h4⟩ := ih (cs ++ [x]) (nx zs x) hA hc'
      rw [ho]
      simp only [List.append_assoc, List.singleton_append] at h1 h2 h3 h4
      exact ⟨h1, h2, h3, h4⟩

theorem IsCyc.mem_nx {zs : List Int} {c : List Nat} (h : IsCyc zs c) {y : Nat} (hy : y ∈ c) : nx zs y ∈ c := by
  obtain ⟨k, hk, e⟩ := List.mem_iff_getElem.1 hy
  have h1 := h.next k hk
  rw [List.getElem?_eq_getElem hk] at h1
  simp only [Option.getD_some] at h1
  rw [← e, h1]
  exact getD_mem (Nat.mod_lt _ (by omega))
theorem IsCyc.of_nx {zs : List Int} (hp : IsPerm zs) {c : List Nat} (h : IsCyc zs c) {y : Nat} (hy : y < zs.length) (hm : nx zs y ∈ c) : y ∈ c := by
  obtain ⟨k, hk, e⟩ := List.mem_iff_getElem.1 hm
  have hpos : 0 < c.length := by omega
  -- the place ahead of k
  have key : ∃ j, j < c.length ∧ (j + 1) % c.length = k := by
    cases k with
    | zero => exact ⟨c.length - 1, by omega, by rw [show c.length - 1 + 1 = c.length by omega, Nat.mod_self]⟩
    | succ k => exact ⟨k, by omega, Nat.mod_eq_of_lt hk⟩
  obtain ⟨j, hj, ej⟩ := key
  have h1 := h.next j hj
  rw [ej, List.getElem?_eq_getElem hk] at h1
  simp only [Option.getD_some] at h1
  rw [e] at h1
  have h2 := nx_inj hp (h.lt _ (getD_mem hj)) hy h1
  rw [← h2]; exact getD_mem hj
theorem stable_set {zs : List Int} (hp : IsPerm zs) {seen : List Bool} (hs : Stable zs seen) (hl : seen.length = zs.length) {c : List Nat} (hc : IsCyc zs c) : Stable zs (setAll seen c) := by
  intro y hy
  rw [setAll_get _ _ _ (by rw [hl]; exact (nx_lt hp hy).1), setAll_get _ _ _ (by rw [hl]; exact hy), hs y hy]
  have : decide (nx zs y ∈ c) = decide (y ∈ c) := by
    rw [decide_eq_decide]
    exact ⟨fun h => hc.of_nx hp hy h, fun h => hc.mem_nx h⟩
  rw [this]

theorem cycFrom_spec {zs : List Int} (hp : IsPerm zs) : ∀ (r i : Nat) (seen : List Bool), i + r = zs.length → seen.length = zs.length → Stable zs seen → (∀ y, y < i → seen[y]?.getD true = true) →
    (∀ c, c ∈ cycFrom zs r i seen → IsCyc zs c ∧ ∀ y, y ∈ c → seen[y]?.getD true = false) ∧
    (cycFrom zs r i seen).Pairwise (fun c d => ∀ y, y ∈ c → ¬ y ∈ d) ∧
    ∀ y, y < zs.length → seen[y]?.getD true = false → ∃ c, c ∈ cycFrom zs r i seen ∧ y ∈ c
  | 0, i, seen, h, hl, hs, hb => by
    refine ⟨fun c hc => by simp [cycFrom] at hc, by simp [cycFrom], fun y hy hn => ?_⟩
    rw [hb y (by omega)] at hn; cases hn
  | r + 1, i, seen, h, hl, hs, hb => by
    cases hi : seen[i]?.getD true with
    | true =>
      rw [cycFrom_skip hi]
      exact cycFrom_spec hp r (i + 1) seen (by omega) hl hs (fun y hy => by
        by_cases e : y = i
        · rw [e]; exact hi
        · exact hb y (by omega))
    | false =>
      rw [cycFrom_take hi]
      have hA : Along zs seen i [] i := ⟨rfl, by simp, by simp, by simp, by simp, by simp, by omega⟩
      obtain ⟨h1, h2, h3, h4⟩ := orb_spec hp hs hl hi zs.length [] i hA (by rw [← hl]; exact List.count_le_length)
      simp only [List.nil_append] at h1 h2 h3 h4
      rw [show setAll seen [] = seen from rfl] at h1 h2 h3 h4
      rw [h4]
      generalize (orb zs zs.length seen i).1 = c at h1 h2 h3
      have hl2 : (setAll seen c).length = zs.length := by rw [setAll_len, hl]
      obtain ⟨k1, k2, k3⟩ := cycFrom_spec hp r (i + 1) (setAll seen c) (by omega) hl2 (stable_set hp hs hl h1) (fun y hy => by
        rw [setAll_get _ _ _ (by omega)]
        by_cases e : y = i
        · rw [e, decide_eq_true h2]; simp
        · rw [hb y (by omega)]; rfl)
      have hsub : ∀ y, y < zs.length → (setAll seen c)[y]?.getD true = false → seen[y]?.getD true = false ∧ ¬ y ∈ c := fun y hy hn => by
        rw [setAll_get _ _ _ (by omega)] at hn
        simpa using hn
      refine ⟨fun d hd => ?_, ?_, fun y hy hn => ?_⟩
      · rcases List.mem_cons.1 hd with rfl | hd
        · exact ⟨h1, h3⟩
        · exact ⟨(k1 d hd).1, fun y hy => (hsub y ((k1 d hd).1.lt y hy) ((k1 d hd).2 y hy)).1⟩
      · rw [List.pairwise_cons]
        refine ⟨fun d hd y hy hyd => ?_, k2⟩
        exact (hsub y ((k1 d hd).1.lt y hyd) ((k1 d hd).2 y hyd)).2 hy
      · by_cases e : y ∈ c
        · exact ⟨c, by simp, e⟩
        · obtain ⟨d, hd, hyd⟩ := k3 y hy (by
            rw [setAll_get _ _ _ (by omega), hn, decide_eq_false e]; rfl)
          exact ⟨d, by simp [hd], hyd⟩

theorem cyc_spec {zs : List Int} (hp : IsPerm zs) : (∀ c, c ∈ cyc zs → IsCyc zs c) ∧ (cyc zs).Pairwise (fun c d => ∀ y, y ∈ c → ¬ y ∈ d) ∧ ∀ y, y < zs.length → ∃ c, c ∈ cyc zs ∧ y ∈ c := by
  have hget : ∀ y, y < zs.length → (List.replicate zs.length false)[y]?.getD true = false := fun y hy => by simp [hy]
  obtain ⟨h1, h2, h3⟩ := cycFrom_spec hp zs.length 0 (List.replicate zs.length false) (by omega) (by simp) (fun y hy => by
    rw [hget y hy, hget _ (nx_lt hp hy).1]) (fun y hy => by omega)
  exact ⟨fun c hc => (h1 c hc).1, h2, fun y hy => h3 y hy (hget y hy)⟩

/-- The permutation that moves the points of S as zs does, and no others. -/
def blend (zs : List Int) (S : List Nat) : List Int := (List.range zs.length).map fun (x : Nat) => if x ∈ S then zs[x]?.getD 0 else (x : Int)
theorem blend_len (zs : List Int) (S : List Nat) : (blend zs S).length = zs.length := by simp [blend]
theorem blend_get {zs : List Int} (S : List Nat) {x : Nat} (hx : x < zs.length) : (blend zs S)[x]?.getD 0 = if x ∈ S then zs[x]?.getD 0 else (x : Int) := by simp [blend, hx]
theorem blend_nil (zs : List Int) : blend zs [] = idL zs.length := by
  apply list_ext (by rw [blend_len, idL_len])
  intro i hi
  rw [blend_len] at hi
  rw [blend_get _ hi, idL_get hi]; simp
/-- Points that go with those to which they are moved. -/
def ClosedS (zs : List Int) (S : List Nat) : Prop := ∀ x, x < zs.length → (nx zs x ∈ S ↔ x ∈ S)
theorem closed_nil (zs : List Int) : ClosedS zs [] := fun _ _ => by simp
theorem closed_app {zs : List Int} {S T : List Nat} (h : ClosedS zs S) (k : ClosedS zs T) : ClosedS zs (S ++ T) := fun x hx => by
  simp [h x hx, k x hx]
theorem closed_cyc {zs : List Int} (hp : IsPerm zs) {c : List Nat} (h : IsCyc zs c) : ClosedS zs c := fun _ hx => ⟨h.of_nx hp hx, h.mem_nx⟩
theorem blend_perm {zs : List Int} (hp : IsPerm zs) {S : List Nat} (hS : ClosedS zs S) : IsPerm (blend zs S) := by
  refine ⟨fun i hi => ?_, fun i j hij hj => ?_⟩
  · rw [blend_len] at hi ⊢
    rw [blend_get _ hi]
    split
    · exact hp.1 i hi
    · omega
  · rw [blend_len] at hj
    have hi : i < zs.length := by omega
    rw [blend_get _ hi, blend_get _ hj]
    have h1 := nx_lt hp hi
    have h2 := nx_lt hp hj
    by_cases a : i ∈ S
    · by_cases b : j ∈ S
      · rw [if_pos a, if_pos b]; exact hp.2 i j hij hj
      · rw [if_pos a, if_neg b, h1.2]
        intro e
        have : nx zs i = j := by omega
        exact b (this ▸ (hS i hi).2 a)
    · by_cases b : j ∈ S
      · rw [if_neg a, if_pos b, h2.2]
        intro e
        have : nx zs j = i := by omega
        exact a (this ▸ (hS j hj).2 b)
      · rw [if_neg a, if_neg b]; omega
theorem blend_mul {zs : List Int} (hp : IsPerm zs) {S c : List Nat} (hS : ClosedS zs S) (hd : ∀ y, y ∈ S → ¬ y ∈ c) : mulL (blend zs S) (blend zs c) = blend zs (S ++ c) := by
  apply list_ext (by rw [mulL_len, blend_len, blend_len])
  intro x hx
  rw [mulL_len, blend_len] at hx
  rw [mulL_get _ (by rw [blend_len]; exact hx), blend_get _ hx, blend_get _ hx]
  have hn := nx_lt hp hx
  by_cases a : x ∈ S
  · rw [if_pos a, if_pos (by simp [a]), hn.2, Int.toNat_natCast, blend_get _ hn.1, if_neg (hd _ ((hS x hx).2 a))]
  · rw [if_neg a, Int.toNat_natCast, blend_get _ hx]
    simp [a]
theorem blend_all {zs : List Int} (hp : IsPerm zs) {S : List Nat} (h : ∀ x, x < zs.length → ¬ x ∈ S → nx zs x = x) : blend zs S = zs := by
  apply list_ext (blend_len _ _)
  intro x hx
  rw [blend_len] at hx
  rw [blend_get _ hx]
  split
  · rfl
  · rename_i a
    rw [(nx_lt hp hx).2, h x hx a]

/-- The permutation of one cycle, as it is set point by point: k points are set. -/
def cycTo (n : Nat) (c : List Nat) : Nat → List Int
  | 0 => idL n
  | k + 1 => (cycTo n c k).set (c[k]?.getD 0) ((c[(k + 1) % c.length]?.getD 0 : Nat) : Int)
theorem cycTo_len (n : Nat) (c : List Nat) : ∀ k, (cycTo n c k).length = n
  | 0 => idL_len n
  | k + 1 => by simp [cycTo, cycTo_len n c k]
theorem cycTo_get {zs : List Int} (hp : IsPerm zs) {c : List Nat} (hc : IsCyc zs c) : ∀ (k : Nat), k ≤ c.length → ∀ x, x < zs.length → (cycTo zs.length c k)[x]?.getD 0 = if x ∈ c.take k then zs[x]?.getD 0 else (x : Int)
  | 0, _, x, hx => by simp [cycTo, idL_get hx]
  | k + 1, hk, x, hx => by
    have ih := cycTo_get hp hc k (by omega) x hx
    have hkl : k < c.length := by omega
    have hmem : ∀ y, y ∈ c.take (k + 1) ↔ y ∈ c.take k ∨ y = c[k]?.getD 0 := fun y => by
      rw [List.take_succ_eq_append_getElem hkl, List.getElem?_eq_getElem hkl, List.mem_append, List.mem_singleton]; rfl
    rw [cycTo, List.getElem?_set]
    by_cases e : c[k]?.getD 0 = x
    · rw [if_pos e, cycTo_len, if_pos (by rw [e]; exact hx), if_pos ((hmem x).2 (.inr e.symm))]
      have h1 := hc.next k hkl
      rw [e] at h1
      rw [(nx_lt hp hx).2, h1]; rfl
    · rw [if_neg e, ih]
      by_cases a : x ∈ c.take k
      · rw [if_pos a, if_pos ((hmem x).2 (.inl a))]
      · rw [if_neg a, if_neg (fun h => by
          rcases (hmem x).1 h with h | h
          · exact a h
          · exact e h.symm)]
theorem cycTo_all {zs : List Int} (hp : IsPerm zs) {c : List Nat} (hc : IsCyc zs c) : cycTo zs.length c c.length = blend zs c := by
  apply list_ext (by rw [cycTo_len, blend_len])
  intro x hx
  rw [cycTo_len] at hx
  rw [cycTo_get hp hc _ (Nat.le_refl _) x hx, blend_get _ hx, List.take_length]

end Go.Proofs.YtjchmhngfnlbhaaDoor
