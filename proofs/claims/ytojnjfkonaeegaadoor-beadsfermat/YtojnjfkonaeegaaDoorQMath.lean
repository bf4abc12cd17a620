/- The plain mathematics of this family: what perm.Check tells, cycles as they are walked. No condition. -/
namespace Go.Proofs.YtojnjfkonaeegaaDoorQ

/-- What is wrong with a list at the places from i on, r of them. -/
def pf (zs : List Int) : Nat → Nat → Int × Int
  | 0, _ => (0, 0)
  | r + 1, i => if zs[i]?.getD 0 < 0 ∨ (zs.length : Int) ≤ zs[i]?.getD 0 then (3, (i : Int)) else if zs[i]?.getD 0 ∈ zs.take i then (10, (i : Int)) else pf zs r (i + 1)

/-- What perm.Check answers: the code and the place. -/
def fault (zs : List Int) : Int × Int := if 1000 < zs.length then (2, 0) else pf zs zs.length 0

theorem pf_range {zs : List Int} {r i : Nat} (h : zs[i]?.getD 0 < 0 ∨ (zs.length : Int) ≤ zs[i]?.getD 0) : pf zs (r + 1) i = (3, (i : Int)) := by
  rw [pf, if_pos h]
theorem pf_twice {zs : List Int} {r i : Nat} (h : ¬ (zs[i]?.getD 0 < 0 ∨ (zs.length : Int) ≤ zs[i]?.getD 0)) (h2 : zs[i]?.getD 0 ∈ zs.take i) : pf zs (r + 1) i = (10, (i : Int)) := by
  rw [pf, if_neg h, if_pos h2]
theorem pf_on {zs : List Int} {r i : Nat} (h : ¬ (zs[i]?.getD 0 < 0 ∨ (zs.length : Int) ≤ zs[i]?.getD 0)) (h2 : ¬ zs[i]?.getD 0 ∈ zs.take i) : pf zs (r + 1) i = pf zs r (i + 1) := by
  rw [pf, if_neg h, if_neg h2]

/-- The numbers 0 to n - 1, each once. -/
def IsPerm (zs : List Int) : Prop := (∀ i, i < zs.length → 0 ≤ zs[i]?.getD 0 ∧ zs[i]?.getD 0 < zs.length) ∧ ∀ i j, i < j → j < zs.length → zs[i]?.getD 0 ≠ zs[j]?.getD 0

theorem mem_take {zs : List Int} {i : Nat} (hi : i ≤ zs.length) (x : Int) : x ∈ zs.take i ↔ ∃ j, j < i ∧ zs[j]?.getD 0 = x := by
  rw [List.mem_iff_getElem?]
  constructor
  · rintro ⟨j, hj⟩
    rw [List.getElem?_take] at hj
    split at hj
    · exact ⟨j, by assumption, by rw [hj]; rfl⟩
    · cases hj
  · rintro ⟨j, hj, rfl⟩
    refine ⟨j, ?_⟩
    rw [List.getElem?_take, if_pos hj, List.getElem?_eq_getElem (by omega)]
    simp

theorem pf_perm {zs : List Int} : ∀ (r i : Nat), i + r = zs.length → (pf zs r i).1 = 0 →
    (∀ k, i ≤ k → k < zs.length → 0 ≤ zs[k]?.getD 0 ∧ zs[k]?.getD 0 < zs.length) ∧ ∀ j k, j < k → i ≤ k → k < zs.length → zs[j]?.getD 0 ≠ zs[k]?.getD 0
  | 0, i, h, _ => ⟨fun k h1 h2 => by omega, fun j k h1 h2 h3 => by omega⟩
  | r + 1, i, h, h0 => by
    by_cases a : zs[i]?.getD 0 < 0 ∨ (zs.length : Int) ≤ zs[i]?.getD 0
    · rw [pf_range a] at h0; simp at h0
    · by_cases b : zs[i]?.getD 0 ∈ zs.take i
      · rw [pf_twice a b] at h0; simp at h0
      · rw [pf_on a b] at h0
        obtain ⟨h1, h2⟩ := pf_perm r (i + 1) (by omega) h0
        rw [mem_take (by omega)] at b
        refine ⟨fun k hk hl => ?_, fun j k hj hk hl => ?_⟩
        · by_cases e : k = i
          · subst e; omega
          · exact h1 k (by omega) hl
        · by_cases e : k = i
          · subst e; exact fun e => b ⟨j, hj, e⟩
          · exact h2 j k hj (by omega) hl

theorem fault_perm {zs : List Int} (h : (fault zs).1 = 0) : IsPerm zs ∧ zs.length ≤ 1000 := by
  unfold fault at h
  split at h
  · simp at h
  · obtain ⟨h1, h2⟩ := pf_perm zs.length 0 (by omega) h
    exact ⟨⟨fun i hi => h1 i (by omega) hi, fun i j hij hj => h2 i j hij (by omega) hj⟩, by omega⟩

theorem pf_zero {zs : List Int} : ∀ (r i : Nat), (pf zs r i).1 = 0 → pf zs r i = (0, 0)
  | 0, i, _ => rfl
  | r + 1, i, h0 => by
    by_cases a : zs[i]?.getD 0 < 0 ∨ (zs.length : Int) ≤ zs[i]?.getD 0
    · rw [pf_range a] at h0; simp at h0
    · by_cases b : zs[i]?.getD 0 ∈ zs.take i
      · rw [pf_twice a b] at h0; simp at h0
      · rw [pf_on a b] at h0 ⊢
        exact pf_zero r (i + 1) h0
theorem fault_zero {zs : List Int} (h : (fault zs).1 = 0) : fault zs = (0, 0) := by
  unfold fault at h ⊢
  split at h
  · simp at h
  · rw [if_neg (by omega)]; exact pf_zero _ _ h

theorem pf_of_perm {zs : List Int} (hp : IsPerm zs) : ∀ (r i : Nat), i + r = zs.length → pf zs r i = (0, 0)
  | 0, i, _ => rfl
  | r + 1, i, h => by
    have h1 := hp.1 i (by omega)
    rw [pf_on (by omega) (fun hm => by
      rw [mem_take (by omega)] at hm
      obtain ⟨j, hj, e⟩ := hm
      exact hp.2 j i hj (by omega) e)]
    exact pf_of_perm hp r (i + 1) (by omega)
theorem fault_of_perm {zs : List Int} (hp : IsPerm zs) (hl : zs.length ≤ 1000) : fault zs = (0, 0) := by
  unfold fault; rw [if_neg (by omega)]; exact pf_of_perm hp _ _ (by omega)

/-- Which points are among the first i numbers. -/
def seenUpto (zs : List Int) (i : Nat) : List Bool := (List.range zs.length).map fun (y : Nat) => decide ((y : Int) ∈ zs.take i)
theorem seenUpto_len (zs : List Int) (i : Nat) : (seenUpto zs i).length = zs.length := by simp [seenUpto]
theorem seenUpto_zero (zs : List Int) : seenUpto zs 0 = List.replicate zs.length false := by
  apply List.ext_getElem
  · simp [seenUpto]
  · intro i h1 h2; simp [seenUpto]
theorem seenUpto_get {zs : List Int} {i : Nat} {x : Int} (h0 : 0 ≤ x) (h1 : x < zs.length) : (seenUpto zs i)[x.toNat]?.getD false = decide (x ∈ zs.take i) := by
  have h2 : x.toNat < zs.length := by omega
  simp [seenUpto, h2, Int.toNat_of_nonneg h0]
theorem take_snoc {zs : List Int} {i : Nat} (hi : i < zs.length) : zs.take (i + 1) = zs.take i ++ [zs[i]?.getD 0] := by
  rw [List.take_succ_eq_append_getElem hi]; simp [hi]
theorem seenUpto_succ {zs : List Int} {i : Nat} (hi : i < zs.length) (h0 : 0 ≤ zs[i]?.getD 0) : (seenUpto zs i).set (zs[i]?.getD 0).toNat true = seenUpto zs (i + 1) := by
  apply List.ext_getElem
  · simp [seenUpto]
  · intro y h1 h2
    rw [List.getElem_set]
    split
    · rename_i e
      have : (y : Int) = zs[i]?.getD 0 := by omega
      simp [seenUpto, take_snoc hi, this]
    · rename_i e
      have : (y : Int) ≠ zs[i]?.getD 0 := by omega
      simp [seenUpto, take_snoc hi, this]

/-- Where a point is moved. -/
def nx (zs : List Int) (x : Nat) : Nat := (zs[x]?.getD 0).toNat
/-- The points from x on till one has been seen; and what has then been seen. -/
def orb (zs : List Int) : Nat → List Bool → Nat → List Nat × List Bool
  | 0, seen, _ => ([], seen)
  | f + 1, seen, x => if seen[x]?.getD true then ([], seen) else (x :: (orb zs f (seen.set x true) (nx zs x)).1, (orb zs f (seen.set x true) (nx zs x)).2)
/-- The cycles from the point i on, r points. -/
def cycFrom (zs : List Int) : Nat → Nat → List Bool → List (List Nat)
  | 0, _, _ => []
  | r + 1, i, seen => if seen[i]?.getD true then cycFrom zs r (i + 1) seen else (orb zs zs.length seen i).1 :: cycFrom zs r (i + 1) (orb zs zs.length seen i).2
/-- All cycles, as perm.cyclesOf yields them. -/
def cyc (zs : List Int) : List (List Nat) := cycFrom zs zs.length 0 (List.replicate zs.length false)

theorem orb_seen {zs : List Int} {f : Nat} {seen : List Bool} {x : Nat} (h : seen[x]?.getD true = true) : orb zs f seen x = ([], seen) := by
  cases f with
  | zero => rfl
  | succ f => rw [orb, if_pos h]
theorem count_pos {seen : List Bool} {x : Nat} (hx : x < seen.length) (h : seen[x]?.getD true = false) : 0 < seen.count false := by
  rw [List.count_pos_iff]
  rw [List.getElem?_eq_getElem hx] at h
  simp at h
  rw [← h]; exact List.getElem_mem hx
theorem count_set {seen : List Bool} {x : Nat} (hx : x < seen.length) (h : seen[x]?.getD true = false) : (seen.set x true).count false + 1 = seen.count false := by
  have h2 := count_pos hx h
  rw [List.getElem?_eq_getElem hx] at h
  simp at h
  rw [List.count_set hx]
  simp [h]
  omega
theorem orb_on {zs : List Int} {f : Nat} {seen : List Bool} {x : Nat} (hx : x < seen.length) (h : seen[x]?.getD true = false) (hf : seen.count false ≤ f) :
    ∃ f', f = f' + 1 ∧ (seen.set x true).count false ≤ f' ∧ orb zs f seen x = (x :: (orb zs f' (seen.set x true) (nx zs x)).1, (orb zs f' (seen.set x true) (nx zs x)).2) := by
  have h2 := count_set hx h
  cases f with
  | zero => omega
  | succ f => exact ⟨f, rfl, by omega, by rw [orb, if_neg (by simp [h])]⟩
theorem orb_len (zs : List Int) : ∀ (f : Nat) (seen : List Bool) (x : Nat), (orb zs f seen x).2.length = seen.length
  | 0, _, _ => rfl
  | f + 1, seen, x => by
    rw [orb]
    split
    · rfl
    · simp [orb_len zs f]
theorem orb_size (zs : List Int) : ∀ (f : Nat) (seen : List Bool) (x : Nat), (orb zs f seen x).1.length ≤ f
  | 0, _, _ => Nat.le_refl _
  | f + 1, seen, x => by
    rw [orb]
    split
    · simp
    · simp [orb_size zs f]
theorem cycFrom_skip {zs : List Int} {r i : Nat} {seen : List Bool} (h : seen[i]?.getD true = true) : cycFrom zs (r + 1) i seen = cycFrom zs r (i + 1) seen := by
  rw [cycFrom, if_pos h]
theorem cycFrom_take {zs : List Int} {r i : Nat} {seen : List Bool} (h : seen[i]?.getD true = false) : cycFrom zs (r + 1) i seen = (orb zs zs.length seen i).1 :: cycFrom zs r (i + 1) (orb zs zs.length seen i).2 := by
  rw [cycFrom, if_neg (by simp [h])]

theorem getD_any {seen : List Bool} {x : Nat} (hx : x < seen.length) (b : Bool) (h : seen[x]?.getD false = b) : seen[x]?.getD true = b := by
  rw [List.getElem?_eq_getElem hx] at h ⊢; simpa using h
theorem nx_lt {zs : List Int} (hp : IsPerm zs) {x : Nat} (hx : x < zs.length) : nx zs x < zs.length ∧ zs[x]?.getD 0 = (nx zs x : Int) := by
  have := hp.1 x hx
  unfold nx; omega
theorem orb_head {zs : List Int} {seen : List Bool} {x : Nat} (hx : x < seen.length) (h : seen[x]?.getD true = false) (hf : seen.length ≤ zs.length) : (orb zs zs.length seen x).1 ≠ [] := by
  obtain ⟨f', _, _, e⟩ := orb_on (zs := zs) hx h (f := zs.length) (Nat.le_trans (List.count_le_length) hf)
  rw [e]; simp

theorem orb_pts {zs : List Int} (hp : IsPerm zs) : ∀ (f : Nat) (seen : List Bool) (x : Nat), x < zs.length → ∀ y, y ∈ (orb zs f seen x).1 → y < zs.length
  | 0, _, _, _, y, hy => by simp [orb] at hy
  | f + 1, seen, x, hx, y, hy => by
    rw [orb] at hy
    split at hy
    · simp at hy
    · simp only [List.mem_cons] at hy
      rcases hy with rfl | hy
      · exact hx
      · exact orb_pts hp f _ _ (nx_lt hp hx).1 y hy
theorem cycFrom_pts {zs : List Int} (hp : IsPerm zs) : ∀ (r i : Nat) (seen : List Bool), i + r = zs.length → ∀ c, c ∈ cycFrom zs r i seen → c.length ≤ zs.length ∧ ∀ y, y ∈ c → y < zs.length
  | 0, _, _, _, c, hc => by simp [cycFrom] at hc
  | r + 1, i, seen, h, c, hc => by
    rw [cycFrom] at hc
    split at hc
    · exact cycFrom_pts hp r (i + 1) seen (by omega) c hc
    · simp only [List.mem_cons] at hc
      rcases hc with rfl | hc
      · exact ⟨orb_size _ _ _ _, orb_pts hp _ _ _ (by omega)⟩
      · exact cycFrom_pts hp r (i + 1) _ (by omega) c hc
theorem cyc_pts {zs : List Int} (hp : IsPerm zs) {c : List Nat} (hc : c ∈ cyc zs) : c.length ≤ zs.length ∧ ∀ y, y ∈ c → y < zs.length := cycFrom_pts hp _ _ _ (by omega) c hc
theorem cycFrom_len {zs : List Int} : ∀ (r i : Nat) (seen : List Bool), (cycFrom zs r i seen).length ≤ r
  | 0, _, _ => by simp [cycFrom]
  | r + 1, i, seen => by
    rw [cycFrom]
    split
    · have := cycFrom_len (zs := zs) r (i + 1) seen; omega
    · have := cycFrom_len (zs := zs) r (i + 1) (orb zs zs.length seen i).2
      simp; omega
theorem cyc_len (zs : List Int) : (cyc zs).length ≤ zs.length := cycFrom_len _ _ _
theorem mem_getD {c : List Nat} {n : Nat} (h : ∀ y, y ∈ c → y < n) (j : Nat) (hj : j < c.length) : c[j]?.getD 0 < n := by
  rw [List.getElem?_eq_getElem hj]; exact h _ (List.getElem_mem hj)

/-- The product. -/
def mulL (xs ys : List Int) : List Int := xs.map fun x => ys[x.toNat]?.getD 0
theorem mulL_len (xs ys : List Int) : (mulL xs ys).length = xs.length := by simp [mulL]
theorem mulL_get {xs : List Int} (ys : List Int) {i : Nat} (hi : i < xs.length) : (mulL xs ys)[i]?.getD 0 = ys[(xs[i]?.getD 0).toNat]?.getD 0 := by
  simp [mulL, hi]
/-- A list that is filled place by place. -/
def fillTo (L : List Int) (k : Nat) : List Int := L.take k ++ List.replicate (L.length - k) 0
theorem fillTo_zero (L : List Int) : fillTo L 0 = List.replicate L.length 0 := by simp [fillTo]
theorem fillTo_all (L : List Int) : fillTo L L.length = L := by simp [fillTo]
theorem fillTo_len {L : List Int} {k : Nat} (hk : k ≤ L.length) : (fillTo L k).length = L.length := by simp [fillTo]; omega
theorem fillTo_set {L : List Int} {k : Nat} (hk : k < L.length) : (fillTo L k).set k (L[k]?.getD 0) = fillTo L (k + 1) := by
  apply List.ext_getElem
  · rw [List.length_set, fillTo_len (by omega), fillTo_len (by omega)]
  · intro j h1 h2
    rw [List.length_set, fillTo_len (by omega)] at h1
    rw [List.getElem_set]
    simp only [fillTo, List.getElem_append, List.length_take]
    split
    · rename_i e
      subst e
      rw [dif_pos (by omega)]
      simp [hk]
    · rename_i e
      by_cases hj : j < k
      · rw [dif_pos (by omega), dif_pos (by omega)]; simp
      · rw [dif_neg (by omega), dif_neg (by omega)]; simp
/-- The inverse, as far as k numbers tell it. -/
def invTo (xs : List Int) : Nat → List Int
  | 0 => List.replicate xs.length 0
  | k + 1 => (invTo xs k).set (nx xs k) (k : Int)
def invL (xs : List Int) : List Int := invTo xs xs.length
theorem invTo_len (xs : List Int) : ∀ k, (invTo xs k).length = xs.length
  | 0 => by simp [invTo]
  | k + 1 => by simp [invTo, invTo_len xs k]
theorem invL_len (xs : List Int) : (invL xs).length = xs.length := invTo_len xs _
theorem nx_ne {xs : List Int} (hp : IsPerm xs) {i j : Nat} (hi : i < xs.length) (hj : j < xs.length) (h : i ≠ j) : nx xs i ≠ nx xs j := by
  have h1 := nx_lt hp hi
  have h2 := nx_lt hp hj
  intro e
  rcases Nat.lt_or_gt_of_ne h with hlt | hlt
  · exact hp.2 i j hlt hj (by rw [h1.2, h2.2, e])
  · exact hp.2 j i hlt hi (by rw [h1.2, h2.2, e])
theorem invTo_get {xs : List Int} (hp : IsPerm xs) : ∀ (k : Nat), k ≤ xs.length → ∀ i, i < k → (invTo xs k)[nx xs i]?.getD 0 = (i : Int)
  | 0, _, i, hi => by omega
  | k + 1, hk, i, hi => by
    have hn := (nx_lt hp (show i < xs.length by omega)).1
    rw [invTo, List.getElem?_set]
    by_cases e : i = k
    · subst e
      rw [if_pos rfl, invTo_len, if_pos hn]; rfl
    · rw [if_neg (nx_ne hp (by omega) (by omega) (fun h => e h.symm))]
      exact invTo_get hp k (by omega) i (by omega)
theorem invL_get {xs : List Int} (hp : IsPerm xs) {i : Nat} (hi : i < xs.length) : (invL xs)[nx xs i]?.getD 0 = (i : Int) := invTo_get hp _ (Nat.le_refl _) i hi
theorem nodup_len : ∀ (l m : List Nat), l.Nodup → (∀ z, z ∈ l → z ∈ m) → l.length ≤ m.length
  | [], _, _, _ => Nat.zero_le _
  | a :: l, m, hn, hs => by
    rw [List.nodup_cons] at hn
    have ha := hs a (by simp)
    have h1 := nodup_len l (m.erase a) hn.2 (fun z hz => by
      rw [List.mem_erase_of_ne (fun e => hn.1 (by rw [← e]; exact hz))]
      exact hs z (by simp [hz]))
    rw [List.length_erase_of_mem ha] at h1
    have := List.length_pos_of_mem ha
    simp; omega
/-- A permutation hits every point. -/
theorem perm_hits {xs : List Int} (hp : IsPerm xs) {y : Nat} (hy : y < xs.length) : ∃ i, i < xs.length ∧ nx xs i = y := by
  -- the list of what points are moved to has no two the same, and all are below n
  have hnd : ((List.range xs.length).map (nx xs)).Nodup := by
    rw [List.nodup_iff_pairwise_ne, List.pairwise_map]
    refine List.Pairwise.imp_of_mem ?_ List.nodup_range
    intro i j hi hj hij
    rw [List.mem_range] at hi hj
    exact nx_ne hp hi hj hij
  have hsub : ∀ z, z ∈ (List.range xs.length).map (nx xs) → z ∈ List.range xs.length := by
    intro z hz
    rw [List.mem_map] at hz
    obtain ⟨i, hi, rfl⟩ := hz
    rw [List.mem_range] at hi ⊢
    exact (nx_lt hp hi).1
  by_cases hm : y ∈ (List.range xs.length).map (nx xs)
  · rw [List.mem_map] at hm
    obtain ⟨i, hi, e⟩ := hm
    exact ⟨i, by simpa using hi, e⟩
  · exfalso
    have h1 := nodup_len _ ((List.range xs.length).erase y) hnd (fun z hz => by
      rw [List.mem_erase_of_ne (fun e => hm (by rw [← e]; exact hz))]
      exact hsub z hz)
    rw [List.length_erase_of_mem (by simpa using hy)] at h1
    simp at h1
    omega
/-- What stays. -/
def idL (n : Nat) : List Int := (List.range n).map fun (i : Nat) => (i : Int)
theorem idL_len (n : Nat) : (idL n).length = n := by simp [idL]
theorem idL_get {n i : Nat} (hi : i < n) : (idL n)[i]?.getD 0 = (i : Int) := by simp [idL, hi]
theorem idL_succ (n : Nat) : idL (n + 1) = idL n ++ [(n : Int)] := by simp [idL, List.range_succ]
theorem idL_perm (n : Nat) : IsPerm (idL n) := by
  refine ⟨fun i hi => ?_, fun i j hij hj => ?_⟩
  · rw [idL_len] at hi ⊢
    rw [idL_get hi]; omega
  · rw [idL_len] at hj
    rw [idL_get (by omega), idL_get hj]; omega
theorem list_ext {xs ys : List Int} (hl : xs.length = ys.length) (h : ∀ i, i < xs.length → xs[i]?.getD 0 = ys[i]?.getD 0) : xs = ys := by
  apply List.ext_getElem hl
  intro i h1 h2
  have := h i h1
  rw [List.getElem?_eq_getElem h1, List.getElem?_eq_getElem h2] at this
  simpa using this
theorem mulL_perm {xs ys : List Int} (hx : IsPerm xs) (hy : IsPerm ys) (hl : xs.length = ys.length) : IsPerm (mulL xs ys) := by
  refine ⟨fun i hi => ?_, fun i j hij hj => ?_⟩
  · rw [mulL_len] at hi ⊢
    rw [mulL_get ys hi, hl]
    exact hy.1 _ (by rw [← hl]; exact (nx_lt hx hi).1)
  · rw [mulL_len] at hj
    rw [mulL_get ys (by omega), mulL_get ys hj]
    have hi : i < xs.length := by omega
    have h1 := (nx_lt hx hi).1
    have h2 := (nx_lt hx hj).1
    have hne := nx_ne hx hi hj (by omega)
    have h3 := nx_ne hy (i := nx xs i) (j := nx xs j) (by omega) (by omega) hne
    intro e
    exact h3 (congrArg Int.toNat e)
theorem mulL_assoc {xs ys zs : List Int} (hx : IsPerm xs) (hl : xs.length = ys.length) : mulL (mulL xs ys) zs = mulL xs (mulL ys zs) := by
  apply list_ext (by simp [mulL_len])
  intro i hi
  rw [mulL_len, mulL_len] at hi
  rw [mulL_get zs (by rw [mulL_len]; exact hi), mulL_get ys hi, mulL_get _ hi, mulL_get zs (by rw [← hl]; exact (nx_lt hx hi).1)]
theorem invL_perm {xs : List Int} (hx : IsPerm xs) : IsPerm (invL xs) := by
  have key : ∀ y, y < xs.length → ∃ i, i < xs.length ∧ nx xs i = y ∧ (invL xs)[y]?.getD 0 = (i : Int) := by
    intro y hy
    obtain ⟨i, hi, e⟩ := perm_hits hx hy
    exact ⟨i, hi, e, by rw [← e]; exact invL_get hx hi⟩
  refine ⟨fun y hy => ?_, fun y z hyz hz => ?_⟩
  · rw [invL_len] at hy ⊢
    obtain ⟨i, hi, _, e⟩ := key y hy
    rw [e]; omega
  · rw [invL_len] at hz
    obtain ⟨i, hi, ei, e1⟩ := key y (by omega)
    obtain ⟨j, hj, ej, e2⟩ := key z hz
    rw [e1, e2]
    intro e
    have : i = j := by omega
    subst this
    omega
theorem mul_inv {xs : List Int} (hx : IsPerm xs) : mulL xs (invL xs) = idL xs.length := by
  apply list_ext (by simp [mulL_len, idL_len])
  intro i hi
  rw [mulL_len] at hi
  rw [mulL_get _ hi, idL_get hi]
  exact invL_get hx hi
theorem inv_mul {xs : List Int} (hx : IsPerm xs) : mulL (invL xs) xs = idL xs.length := by
  apply list_ext (by simp [mulL_len, idL_len, invL_len])
  intro y hy
  rw [mulL_len, invL_len] at hy
  rw [mulL_get _ (by rw [invL_len]; exact hy), idL_get hy]
  obtain ⟨i, hi, e⟩ := perm_hits hx hy
  have h1 := invL_get hx hi
  rw [e] at h1
  rw [h1, Int.toNat_natCast, (nx_lt hx hi).2, e]
theorem id_mul {xs : List Int} : mulL (idL xs.length) xs = xs := by
  apply list_ext (by simp [mulL_len, idL_len])
  intro i hi
  rw [mulL_len, idL_len] at hi
  rw [mulL_get _ (by rw [idL_len]; exact hi), idL_get hi, Int.toNat_natCast]

end Go.Proofs.YtojnjfkonaeegaaDoorQ
