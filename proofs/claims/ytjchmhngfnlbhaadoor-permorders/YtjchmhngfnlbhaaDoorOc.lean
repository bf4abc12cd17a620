/- The cycles of a permutation as the document finds them: from each point that is the least of its cycle. No condition. -/
import Derived.Test.YtjchmhngfnlbhaaDoorShm
import Derived.Test.YtjchmhngfnlbhaaDoorMoved
namespace Go.Proofs.YtjchmhngfnlbhaaDoor

/-- L points from i on. -/
def itl (zs : List Int) (i L : Nat) : List Nat := (List.range L).map fun k => itN (nx zs) k i
theorem itl_len (zs : List Int) (i L : Nat) : (itl zs i L).length = L := by simp [itl]
theorem itl_get (zs : List Int) (i L : Nat) {k : Nat} (hk : k < L) : (itl zs i L)[k]?.getD 0 = itN (nx zs) k i := by simp [itl, hk]
theorem itl_succ (zs : List Int) (i L : Nat) : itl zs i (L + 1) = itl zs i L ++ [itN (nx zs) L i] := by simp [itl, List.range_succ]
/-- How long the cycle of a point is. -/
def per (zs : List Int) (i : Nat) : Nat := (((cyc zs).find? fun c => decide (i ∈ c)).map List.length).getD 0
/-- The cycle of a point, from there on. -/
def oc (zs : List Int) (i : Nat) : List Nat := itl zs i (per zs i)

theorem per_spec {zs : List Int} (hp : IsPerm zs) {i : Nat} (hi : i < zs.length) : ∃ c, c ∈ cyc zs ∧ IsCyc zs c ∧ i ∈ c ∧ per zs i = c.length := by
  obtain ⟨h1, h2, h3⟩ := cyc_spec hp
  obtain ⟨d, hd, hid⟩ := h3 i hi
  cases hf : (cyc zs).find? fun c => decide (i ∈ c) with
  | none => exact absurd hid (by simpa using List.find?_eq_none.1 hf d hd)
  | some c =>
    have hc := List.mem_of_find?_eq_some hf
    exact ⟨c, hc, h1 c hc, by simpa using List.find?_some hf, by simp [per, hf]⟩
theorem itN_cyc0 {zs : List Int} {c : List Nat} (hc : IsCyc zs c) {i j : Nat} (hj : j < c.length) (e : c[j]?.getD 0 = i) (k : Nat) : itN (nx zs) k i = c[(j + k) % c.length]?.getD 0 := by
  rw [← e]; exact itN_cyc hc k j hj
theorem oc_cyc {zs : List Int} (hp : IsPerm zs) {i : Nat} (hi : i < zs.length) : IsCyc zs (oc zs i) ∧ 0 < per zs i ∧ per zs i ≤ zs.length := by
  obtain ⟨c, hcm, hc, him, hl⟩ := per_spec hp hi
  obtain ⟨j, hj, e⟩ := Sgnm.mem_get him
  have hpos : 0 < c.length := by omega
  unfold oc
  rw [hl]
  have hg : ∀ k, k < c.length → (itl zs i c.length)[k]?.getD 0 = c[(j + k) % c.length]?.getD 0 := fun k hk => by rw [itl_get zs i _ hk, itN_cyc0 hc hj e]
  refine ⟨⟨by rw [← List.length_pos_iff, itl_len]; exact hpos, ?_, fun x hx => ?_, fun k hk => ?_⟩, hpos, (cyc_pts hp hcm).1⟩
  · rw [List.nodup_iff_pairwise_ne, List.pairwise_iff_getElem]
    intro a b ha hb hab heq
    rw [itl_len] at ha hb
    have e1 := hg a ha
    have e2 := hg b hb
    rw [List.getElem?_eq_getElem (by rw [itl_len]; exact ha)] at e1
    rw [List.getElem?_eq_getElem (by rw [itl_len]; exact hb)] at e2
    simp only [Option.getD_some] at e1 e2
    rw [heq, e2] at e1
    have h1 := nodup_getD hc.nodup (Nat.mod_lt (j + b) hpos) (Nat.mod_lt (j + a) hpos) e1
    have h2 : (j + b) - (j + a) = b - a := by omega
    have h3 := Nat.sub_mod_eq_zero_of_mod_eq h1
    rw [h2, Nat.mod_eq_of_lt (by omega)] at h3
    omega
  · obtain ⟨k, hk, rfl⟩ := Sgnm.mem_get hx
    rw [itl_len] at hk
    rw [hg k hk]
    exact hc.lt _ (getD_mem (Nat.mod_lt _ hpos))
  · rw [itl_len] at hk ⊢
    rw [hg k hk, hg _ (Nat.mod_lt _ hpos), hc.next _ (Nat.mod_lt _ hpos)]
    congr 2
    rw [Nat.mod_add_mod, Nat.add_mod_mod, Nat.add_assoc]
theorem oc_len (zs : List Int) (i : Nat) : (oc zs i).length = per zs i := itl_len _ _ _
theorem oc_head {zs : List Int} (hp : IsPerm zs) {i : Nat} (hi : i < zs.length) : (oc zs i)[0]?.getD 0 = i := by
  unfold oc; rw [itl_get zs i _ (oc_cyc hp hi).2.1]; rfl
theorem oc_self {zs : List Int} (hp : IsPerm zs) {i : Nat} (hi : i < zs.length) : i ∈ oc zs i := by
  have h := getD_mem (cs := oc zs i) (d := 0) (k := 0) (by rw [oc_len]; exact (oc_cyc hp hi).2.1)
  rwa [oc_head hp hi] at h
/-- When one is back. -/
theorem back_iff {zs : List Int} (hp : IsPerm zs) {i k : Nat} (hi : i < zs.length) (h1 : 0 < k) (h2 : k ≤ per zs i) : itN (nx zs) k i = i ↔ k = per zs i := by
  obtain ⟨hc, hpos, _⟩ := oc_cyc hp hi
  have hh := oc_head hp hi
  have h := itN_cyc hc k 0 (by rw [oc_len]; exact hpos)
  rw [hh, oc_len, Nat.zero_add] at h
  constructor
  · intro e
    rcases Nat.lt_or_ge k (per zs i) with hl | hl
    · rw [Nat.mod_eq_of_lt hl, e] at h
      have := nodup_getD hc.nodup (j := 0) (k := k) (by rw [oc_len]; exact hpos) (by rw [oc_len]; exact hl) (hh.trans h)
      omega
    · omega
  · intro e
    rw [h, e, Nat.mod_self, hh]
theorem IsCyc.mem_iff {zs : List Int} {c d : List Nat} (hc : IsCyc zs c) (hd : IsCyc zs d) {x : Nat} (h1 : x ∈ c) (h2 : x ∈ d) (y : Nat) : y ∈ c ↔ y ∈ d := by
  have key : ∀ {a b : List Nat}, IsCyc zs a → IsCyc zs b → x ∈ a → x ∈ b → y ∈ a → y ∈ b := by
    intro a b ha hb hxa hxb hy
    obtain ⟨i, hi, e1⟩ := Sgnm.mem_get hxa
    obtain ⟨k, hk, e2⟩ := Sgnm.mem_get hy
    obtain ⟨j, hj, e3⟩ := Sgnm.mem_get hxb
    have h := itN_cyc ha (k + a.length - i) i hi
    rw [show i + (k + a.length - i) = k + a.length by omega, Nat.add_mod_right, Nat.mod_eq_of_lt hk, e2, e1] at h
    have h' := itN_cyc hb (k + a.length - i) j hj
    rw [e3, h] at h'
    rw [h']
    exact getD_mem (Nat.mod_lt _ (by omega))
  exact ⟨key hc hd h1 h2, key hd hc h2 h1⟩
theorem IsCyc.unique {zs : List Int} {c d : List Nat} (hc : IsCyc zs c) (hd : IsCyc zs d) (h : c[0]?.getD 0 = d[0]?.getD 0) : c = d := by
  have hcp := List.length_pos_iff.2 hc.ne
  have hdp := List.length_pos_iff.2 hd.ne
  have hx : c[0]?.getD 0 ∈ c := getD_mem hcp
  have hl := hc.same_len hd hx (by rw [h]; exact getD_mem hdp)
  apply List.ext_getElem hl
  intro k h1 h2
  have a := itN_cyc hc k 0 hcp
  have b := itN_cyc hd k 0 hdp
  rw [Nat.zero_add, Nat.mod_eq_of_lt h1] at a
  rw [Nat.zero_add, Nat.mod_eq_of_lt h2, ← h, a] at b
  simpa [h1, h2] using b
theorem oc_mem {zs : List Int} (hp : IsPerm zs) {i y : Nat} (hi : i < zs.length) (hy : y < zs.length) : y ∈ oc zs i ↔ i ∈ oc zs y := by
  have key : ∀ {a b : Nat}, a < zs.length → b < zs.length → b ∈ oc zs a → a ∈ oc zs b := fun {a b} ha hb h =>
    ((oc_cyc hp ha).1.mem_iff (oc_cyc hp hb).1 h (oc_self hp hb) a).1 (oc_self hp ha)
  exact ⟨key hi hy, key hy hi⟩

/-- Are the first k points behind the first one beyond it? -/
def lstTo (zs : List Int) (i k : Nat) : Bool := (List.range k).all fun m => decide (i < itN (nx zs) (m + 1) i)
theorem lstTo_succ (zs : List Int) (i k : Nat) : lstTo zs i (k + 1) = (lstTo zs i k && decide (i < itN (nx zs) (k + 1) i)) := by
  unfold lstTo; rw [List.range_succ, List.all_append]; simp
/-- Is a point the least of its cycle? -/
def lst (zs : List Int) (i : Nat) : Bool := lstTo zs i (per zs i - 1)
theorem lst_iff {zs : List Int} (hp : IsPerm zs) {i : Nat} (hi : i < zs.length) : lst zs i = true ↔ ∀ y, y ∈ oc zs i → ¬ y < i := by
  unfold lst lstTo
  rw [List.all_eq_true]
  constructor
  · intro h y hy hyi
    obtain ⟨k, hk, rfl⟩ := Sgnm.mem_get hy
    rw [oc_len] at hk
    unfold oc at hyi
    rw [itl_get zs i _ hk] at hyi
    rcases Nat.eq_zero_or_pos k with rfl | hk0
    · simp [itN] at hyi
    · have := h (k - 1) (List.mem_range.2 (by omega))
      rw [show k - 1 + 1 = k by omega, decide_eq_true_eq] at this
      omega
  · intro h m hm
    rw [List.mem_range] at hm
    rw [decide_eq_true_eq]
    have h1 : itN (nx zs) (m + 1) i ∈ oc zs i := by
      have := getD_mem (cs := oc zs i) (d := 0) (k := m + 1) (by rw [oc_len]; omega)
      unfold oc at this ⊢
      rwa [itl_get zs i _ (by omega)] at this
    have h2 := h _ h1
    have h3 : itN (nx zs) (m + 1) i ≠ i := fun e => by
      have := (back_iff hp hi (by omega) (by omega)).1 e
      omega
    omega
/-- The cycles as the document finds them, of the first i points; one: those of one point, too. -/
def ocs (zs : List Int) (one : Bool) (i : Nat) : List (List Nat) := (List.range i).filterMap fun j => if lst zs j && (one || decide (1 < per zs j)) then some (oc zs j) else none
theorem ocs_hit (zs : List Int) (one : Bool) (i : Nat) (h : (lst zs i && (one || decide (1 < per zs i))) = true) : ocs zs one (i + 1) = ocs zs one i ++ [oc zs i] := by
  unfold ocs; rw [List.range_succ, List.filterMap_append, List.filterMap_cons, if_pos h]; rfl
theorem ocs_miss (zs : List Int) (one : Bool) (i : Nat) (h : (lst zs i && (one || decide (1 < per zs i))) = false) : ocs zs one (i + 1) = ocs zs one i := by
  unfold ocs; rw [List.range_succ, List.filterMap_append, List.filterMap_cons, if_neg (by rw [h]; simp)]; simp
theorem ocs_len (zs : List Int) (one : Bool) (i : Nat) : (ocs zs one i).length ≤ i := by
  have := List.length_filterMap_le (fun j => if lst zs j && (one || decide (1 < per zs j)) then some (oc zs j) else none) (List.range i)
  simpa [ocs] using this
theorem cycFrom_least {zs : List Int} (hp : IsPerm zs) : ∀ (r i : Nat) (seen : List Bool), i + r = zs.length → seen.length = zs.length → Stable zs seen → (∀ y, y < zs.length → (seen[y]?.getD true = true ↔ ∃ m, m ∈ oc zs y ∧ m < i)) →
    ocs zs true i ++ cycFrom zs r i seen = ocs zs true (i + r)
  | 0, i, seen, _, _, _, _ => by simp [cycFrom]
  | r + 1, i, seen, h, hl, hs, hb => by
    have hi : i < zs.length := by omega
    have hself := oc_self hp hi
    cases hsi : seen[i]?.getD true with
    | true =>
      have hm : lst zs i = false := by
        obtain ⟨m, hm1, hm2⟩ := (hb i hi).1 hsi
        cases e : lst zs i with
        | false => rfl
        | true => exact absurd hm2 ((lst_iff hp hi).1 e m hm1)
      rw [cycFrom_skip hsi, ← ocs_miss zs true i (by simp [hm]), show i + (r + 1) = i + 1 + r by omega]
      refine cycFrom_least hp r (i + 1) seen (by omega) hl hs fun y hy => ?_
      rw [hb y hy]
      constructor
      · rintro ⟨m, h1, h2⟩; exact ⟨m, h1, by omega⟩
      · rintro ⟨m, h1, h2⟩
        by_cases e : m = i
        · subst e
          obtain ⟨k, hk1, hk2⟩ := (hb m hi).1 hsi
          exact ⟨k, ((oc_cyc hp hi).1.mem_iff (oc_cyc hp hy).1 hself h1 k).1 hk1, hk2⟩
        · exact ⟨m, h1, by omega⟩
    | false =>
      have hm : lst zs i = true := (lst_iff hp hi).2 fun y hy hlt => by
        have := (hb i hi).2 ⟨y, hy, hlt⟩
        rw [hsi] at this; cases this
      rw [cycFrom_take hsi]
      have hal : Along zs seen i [] i := ⟨rfl, by simp, by simp, by simp, by simp, by simp, hi⟩
      obtain ⟨k1, k2, k3, k4⟩ := orb_spec hp hs hl hsi zs.length [] i hal (by
        show seen.count false ≤ zs.length
        rw [← hl]; exact List.count_le_length)
      have e0 : setAll seen [] = seen := rfl
      rw [e0, List.nil_append] at k1 k2 k3 k4
      have hne := orb_head (zs := zs) (seen := seen) (x := i) (by omega) hsi (by omega)
      have hhd : (orb zs zs.length seen i).1[0]?.getD 0 = i := by
        obtain ⟨f, hf⟩ : ∃ f, zs.length = f + 1 := ⟨zs.length - 1, by omega⟩
        have := orb_on (zs := zs) (f := f + 1) (seen := seen) (x := i) (by omega) hsi (by rw [← hf, ← hl]; exact List.count_le_length)
        rw [hf]
        obtain ⟨g, _, _, hg⟩ := this
        rw [hg]; rfl
      have hoc : (orb zs zs.length seen i).1 = oc zs i := k1.unique (oc_cyc hp hi).1 (by rw [hhd, oc_head hp hi])
      rw [hoc] at k4 ⊢
      rw [k4]
      have hx := ocs_hit zs true i (by simp [hm])
      have hl2 : (setAll seen (oc zs i)).length = zs.length := by rw [setAll_len, hl]
      have ih := cycFrom_least hp r (i + 1) (setAll seen (oc zs i)) (by omega) hl2 (stable_set hp hs hl (oc_cyc hp hi).1) fun y hy => by
        rw [setAll_get _ _ _ (by omega), Bool.or_eq_true, decide_eq_true_eq, hb y hy, oc_mem hp hi hy]
        constructor
        · rintro (⟨m, h1, h2⟩ | h1)
          · exact ⟨m, h1, by omega⟩
          · exact ⟨i, h1, by omega⟩
        · rintro ⟨m, h1, h2⟩
          by_cases e : m = i
          · subst e; exact .inr h1
          · exact .inl ⟨m, h1, by omega⟩
      rw [hx, List.append_assoc] at ih
      rw [show i + (r + 1) = i + 1 + r by omega]
      exact ih
theorem cyc_ocs {zs : List Int} (hp : IsPerm zs) : cyc zs = ocs zs true zs.length := by
  have h := cycFrom_least hp zs.length 0 (List.replicate zs.length false) (by omega) (by simp) (fun y hy => by
    simp [hy, (nx_lt hp hy).1]) (fun y hy => by simp [hy])
  have e : ocs zs true 0 = [] := rfl
  rw [e, List.nil_append, Nat.zero_add] at h
  exact h
theorem moved_ocs {zs : List Int} (hp : IsPerm zs) : moved (cyc zs) = ocs zs false zs.length := by
  rw [cyc_ocs hp]
  unfold moved ocs
  rw [List.filter_filterMap]
  congr 1
  funext j
  cases h : lst zs j
  · simp
  · have hl := oc_len zs j
    by_cases h2 : 1 < per zs j
    · simp [Option.filter, hl, h2]
    · simp [Option.filter, hl, h2]
end Go.Proofs.YtjchmhngfnlbhaaDoor
