/- Shapes of permutations as math: how many cycles of each length there are; those of what is conjugate are the same. No condition. -/
import Derived.Test.YtjchmhngfnlbhaaDoorSgm
import Derived.Test.YtjchmhngfnlbhaaDoorPows
namespace Go.Proofs.YtjchmhngfnlbhaaDoor

theorem IsCyc.len_dvd {zs : List Int} {c d : List Nat} (hc : IsCyc zs c) (hd : IsCyc zs d) {x : Nat} (h1 : x ∈ c) (h2 : x ∈ d) : d.length ∣ c.length := by
  obtain ⟨i, hi, e1⟩ := Sgnm.mem_get h1
  obtain ⟨j, hj, e2⟩ := Sgnm.mem_get h2
  have a := itN_cyc hc c.length i hi
  rw [Nat.add_mod_right, Nat.mod_eq_of_lt hi, e1] at a
  have b := itN_cyc hd c.length j hj
  rw [e2, a] at b
  have hdp := List.length_pos_iff.2 hd.ne
  have := nodup_getD hd.nodup hj (Nat.mod_lt (j + c.length) hdp) (by rw [e2]; exact b)
  have h3 : (j + c.length) % d.length = j % d.length := by rw [← this, Nat.mod_eq_of_lt hj]
  have h4 := Nat.sub_mod_eq_zero_of_mod_eq h3
  rw [Nat.add_sub_cancel_left] at h4
  exact Nat.dvd_of_mod_eq_zero h4
theorem IsCyc.same_len {zs : List Int} {c d : List Nat} (hc : IsCyc zs c) (hd : IsCyc zs d) {x : Nat} (h1 : x ∈ c) (h2 : x ∈ d) : c.length = d.length :=
  Nat.dvd_antisymm (hd.len_dvd hc h2 h1) (hc.len_dvd hd h1 h2)

/-- The cycles of the length k. -/
def cysOf (zs : List Int) (k : Nat) : List (List Nat) := (cyc zs).filter fun c => c.length == k
/-- How many there are. -/
def cnt (zs : List Int) (k : Nat) : Nat := (cysOf zs k).length
theorem cysOf_mem {zs : List Int} {k : Nat} {c : List Nat} : c ∈ cysOf zs k ↔ c ∈ cyc zs ∧ c.length = k := by simp [cysOf, List.mem_filter]
theorem flat_len_of {k : Nat} : ∀ (L : List (List Nat)), (∀ c, c ∈ L → c.length = k) → L.flatten.length = L.length * k
  | [], _ => by simp
  | c :: L, h => by
    rw [List.flatten_cons, List.length_append, h c (by simp), flat_len_of L (fun d hd => h d (by simp [hd])), List.length_cons, Nat.add_mul, Nat.one_mul]; omega
theorem flat_nodup : ∀ (L : List (List Nat)), (∀ c, c ∈ L → c.Nodup) → L.Pairwise (fun c d => ∀ y, y ∈ c → ¬ y ∈ d) → L.flatten.Nodup
  | [], _, _ => by simp
  | c :: L, h, hp => by
    rw [List.pairwise_cons] at hp
    rw [List.flatten_cons, List.nodup_append]
    refine ⟨h c (by simp), flat_nodup L (fun d hd => h d (by simp [hd])) hp.2, fun a ha b hb e => ?_⟩
    subst e
    obtain ⟨d, hd, hb⟩ := List.mem_flatten.1 hb
    exact hp.1 d hd a ha hb
theorem cnt_points {zs : List Int} (hp : IsPerm zs) (k : Nat) : (cysOf zs k).flatten.length = cnt zs k * k ∧ (cysOf zs k).flatten.Nodup ∧ ∀ x, x ∈ (cysOf zs k).flatten ↔ x < zs.length ∧ ∃ c, IsCyc zs c ∧ x ∈ c ∧ c.length = k := by
  obtain ⟨h1, h2, h3⟩ := cyc_spec hp
  refine ⟨flat_len_of _ (fun c hc => (cysOf_mem.1 hc).2), flat_nodup _ (fun c hc => (h1 c (cysOf_mem.1 hc).1).nodup) (h2.sublist List.filter_sublist), fun x => ?_⟩
  constructor
  · intro hx
    obtain ⟨c, hc, hxc⟩ := List.mem_flatten.1 hx
    obtain ⟨hc1, hc2⟩ := cysOf_mem.1 hc
    exact ⟨(h1 c hc1).lt x hxc, c, h1 c hc1, hxc, hc2⟩
  · rintro ⟨hx, d, hd, hxd, hk⟩
    obtain ⟨c, hc, hxc⟩ := h3 x hx
    exact List.mem_flatten.2 ⟨c, cysOf_mem.2 ⟨hc, by rw [(h1 c hc).same_len hd hxc hxd, hk]⟩, hxc⟩
/-- A cycle, moved by what goes from one permutation to another. -/
theorem IsCyc.moved {xs ys : List Int} {f : Nat → Nat} (hf : ∀ x, x < xs.length → f x < ys.length) (hi : ∀ x y, x < xs.length → y < xs.length → f x = f y → x = y) (hc : ∀ x, x < xs.length → f (nx xs x) = nx ys (f x))
    {c : List Nat} (h : IsCyc xs c) : IsCyc ys (c.map f) := by
  refine ⟨by simpa using h.ne, Sgnm.map_nodup h.nodup (fun x y hx hy => hi x y (h.lt x hx) (h.lt y hy)), fun y hy => ?_, fun k hk => ?_⟩
  · obtain ⟨x, hx, rfl⟩ := List.mem_map.1 hy
    exact hf x (h.lt x hx)
  · rw [List.length_map] at hk ⊢
    have hm := Nat.mod_lt (k + 1) (show 0 < c.length by omega)
    have e1 : (c.map f)[k]?.getD 0 = f (c[k]?.getD 0) := by simp [hk]
    have e2 : (c.map f)[(k + 1) % c.length]?.getD 0 = f (c[(k + 1) % c.length]?.getD 0) := by simp [hm]
    rw [e1, e2, ← hc _ (h.lt _ (getD_mem hk)), h.next k hk]
/-- WHAT IS CONJUGATE HAS THE SAME SHAPE. -/
theorem cnt_conj {xs ys : List Int} (hx : IsPerm xs) (hy : IsPerm ys) (hl : xs.length = ys.length) {f : Nat → Nat} (hf : ∀ x, x < xs.length → f x < xs.length) (hi : ∀ x y, x < xs.length → y < xs.length → f x = f y → x = y)
    (hc : ∀ x, x < xs.length → f (nx xs x) = nx ys (f x)) {k : Nat} (hk : 0 < k) : cnt xs k = cnt ys k := by
  obtain ⟨a1, a2, a3⟩ := cnt_points hx k
  obtain ⟨b1, b2, b3⟩ := cnt_points hy k
  have hf' : ∀ x, x < xs.length → f x < ys.length := fun x h => by rw [← hl]; exact hf x h
  have h := Sgnm.bij_len f a2 b2 (fun x h => by
    obtain ⟨h1, c, h2, h3, h4⟩ := (a3 x).1 h
    exact (b3 _).2 ⟨hf' x h1, c.map f, h2.moved hf' hi hc, List.mem_map.2 ⟨x, h3, rfl⟩, by rw [List.length_map, h4]⟩) (fun x y h1 h2 => hi x y ((a3 x).1 h1).1 ((a3 y).1 h2).1) (fun y h => by
    obtain ⟨h1, d, h2, h3, h4⟩ := (b3 y).1 h
    obtain ⟨x, hx1, rfl⟩ := Sgnm.meets (n := xs.length) hf hi (show y < xs.length by rw [hl]; exact h1)
    obtain ⟨c, hc1, hxc⟩ := (cyc_spec hx).2.2 x hx1
    have hcc := (cyc_spec hx).1 c hc1
    refine ⟨x, (a3 x).2 ⟨hx1, c, hcc, hxc, ?_⟩, rfl⟩
    have := (hcc.moved hf' hi hc).same_len h2 (List.mem_map.2 ⟨x, hxc, rfl⟩) h3
    rw [List.length_map] at this
    omega)
  rw [a1, b1] at h
  exact Nat.eq_of_mul_eq_mul_right hk h

/-- How long the cycles are. -/
def lens (zs : List Int) : List Nat := (cyc zs).map List.length
theorem lens_count (zs : List Int) (k : Nat) : (lens zs).count k = cnt zs k := by
  unfold lens cnt cysOf
  rw [List.count_eq_countP, List.countP_map, List.countP_eq_length_filter]
  rfl
theorem lens_pos {zs : List Int} (hp : IsPerm zs) {k : Nat} (h : k ∈ lens zs) : 0 < k ∧ k ≤ zs.length := by
  obtain ⟨c, hc, rfl⟩ := List.mem_map.1 h
  exact ⟨List.length_pos_iff.2 ((cyc_spec hp).1 c hc).ne, (cyc_pts hp hc).1⟩
theorem lens_perm {xs ys : List Int} (hx : IsPerm xs) (hy : IsPerm ys) (h : ∀ k, 0 < k → cnt xs k = cnt ys k) : (lens xs).Perm (lens ys) := by
  rw [List.perm_iff_count]
  intro k
  rcases Nat.eq_zero_or_pos k with rfl | hk
  · rw [List.count_eq_zero.2 (fun h => by have := (lens_pos hx h).1; omega), List.count_eq_zero.2 (fun h => by have := (lens_pos hy h).1; omega)]
  · rw [lens_count, lens_count, h k hk]
/-- Both products of two are conjugate. -/
theorem swap_lens {xs ys : List Int} (hx : IsPerm xs) (hy : IsPerm ys) (hl : xs.length = ys.length) : (lens (mulL xs ys)).Perm (lens (mulL ys xs)) := by
  have h1 := mulL_perm hx hy hl
  have h2 := mulL_perm hy hx hl.symm
  refine lens_perm h1 h2 fun k hk => cnt_conj h1 h2 (by rw [mulL_len, mulL_len, hl]) (f := nx xs) (fun x h => ?_) (fun x y h k' => ?_) (fun x h => ?_) hk
  · rw [mulL_len] at h ⊢; exact (nx_lt hx h).1
  · rw [mulL_len] at h k'; exact nx_inj hx h k'
  · rw [mulL_len] at h
    rw [nx_mul h, nx_mul (by rw [← hl]; exact (nx_lt hx h).1)]
/-- Falling lists of the same numbers are the same. -/
theorem fall_unique {l m : List Nat} (h : l.Perm m) (hl : l.Pairwise (fun a b => b ≤ a)) (hm : m.Pairwise (fun a b => b ≤ a)) : l = m :=
  List.Perm.eq_of_pairwise (le := fun a b => b ≤ a) (fun _ _ _ _ h1 h2 => Nat.le_antisymm h2 h1) hl hm h
/-- The least number that all divide. -/
def lcmL (l : List Nat) : Nat := l.foldl Nat.lcm 1
theorem lcmL_snoc (l : List Nat) (k : Nat) : lcmL (l ++ [k]) = Nat.lcm (lcmL l) k := by simp [lcmL]
theorem lcm_fold_dvd : ∀ (l : List Nat) (a m : Nat), l.foldl Nat.lcm a ∣ m ↔ a ∣ m ∧ ∀ k, k ∈ l → k ∣ m
  | [], a, m => by simp
  | k :: l, a, m => by
    rw [List.foldl_cons, lcm_fold_dvd l (Nat.lcm a k) m, Nat.lcm_dvd_iff]
    simp [and_assoc]
theorem lcmL_dvd (l : List Nat) (m : Nat) : lcmL l ∣ m ↔ ∀ k, k ∈ l → k ∣ m := by
  unfold lcmL; rw [lcm_fold_dvd]; simp
theorem lcmL_perm {l m : List Nat} (h : l.Perm m) : lcmL l = lcmL m :=
  Nat.dvd_antisymm ((lcmL_dvd _ _).2 fun k hk => (lcmL_dvd m _).1 (Nat.dvd_refl _) k (h.mem_iff.1 hk)) ((lcmL_dvd _ _).2 fun k hk => (lcmL_dvd l _).1 (Nat.dvd_refl _) k (h.mem_iff.2 hk))
theorem lcmL_pos : ∀ {l : List Nat}, (∀ k, k ∈ l → 0 < k) → 0 < lcmL l := by
  intro l h
  have : ∀ (l : List Nat) (a : Nat), 0 < a → (∀ k, k ∈ l → 0 < k) → 0 < l.foldl Nat.lcm a := by
    intro l
    induction l with
    | nil => intro a ha _; exact ha
    | cons k l ih => intro a ha hk; exact ih _ (Nat.lcm_pos ha (hk k (by simp))) (fun j hj => hk j (by simp [hj]))
  exact this l 1 (by omega) h
end Go.Proofs.YtjchmhngfnlbhaaDoor
