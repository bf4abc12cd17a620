/- Package prod: what Semi answers at everything; semidirect products are groups. Condition: the library's table of places lies as its text lays it. The law's prodBegun: the document's example holds. Condition: the library's table of places lies as its text lays it. Primes and powers: package sylow's isPrime and isPower; the law's isPrime and powerIn. What package sylow's opened answers. How many bits a number of 64 bits has, counted as math/bits.OnesCount64 does: pairs of fields are added, side by side. Pure mathematics. The last steps of the count of bits: eight bytes are added into the lowest. The count of a set's bits is how many things it has. math/bits.OnesCount64 and (set.Set).Len: how many things a set has. What package sylow's grown answers: a subgroup of a power of p things that no thing makes a greater one of that kind. Condition: the library's table of places lies as its text lays it. What package sylow's subgroups answers: a map whose keys are the conjugates of one of Sylow's subgroups. Condition: the library's table of places lies as its text lays it. -/
import Derived.Test.YtgejngpioldhpaaGreatDoorZ6
import Derived.Test.YtgejngpioldhpaaGreatDoorZ2
import Derived.Test.YtgejngpioldhpaaGreatDoorZ3
import Derived.Test.YtgejngpioldhpaaGreatDoorZ1
import Derived.Deep.RegionHeld3
import Derived.WalkMore
import Derived.Maps.OwnSet
import Derived.Maps.AppendAt
namespace Go.Proofs.YtgejngpioldhpaaGreatDoor
open Go Go.RowKit

/-- What stands for y in an act's entry. -/
def actf (ls : List (List Int)) (i y : Nat) : Nat := ((ls[i]?.getD [])[y]?.getD 0).toNat
/-- What makes an act one. -/
structure IsAct (n : Nat) (zs : List Int) (m : Nat) (ys : List Int) (φ : Nat → Nat → Nat) : Prop where
  hom : ∀ a, a < m → IsHom n zs n zs (φ a)
  onto : ∀ a x, a < m → x < n → ∃ y, y < n ∧ φ a y = x
  mul : ∀ a b y, a < m → b < m → y < n → φ (tm m ys a b) y = φ a (φ b y)
section
variable {n e m d : Nat} {zs ys : List Int} {φ : Nat → Nat → Nat}
theorem IsAct.id (h : IsAct n zs m ys φ) (g2 : IsGrp m ys d) {y : Nat} (hy : y < n) : φ d y = y := by
  obtain ⟨z, hz, rfl⟩ := h.onto d y g2.elt hy
  rw [← h.mul d d z g2.elt g2.elt hz, g2.left d g2.elt]
theorem sem_div {i k : Nat} (g1 : IsGrp n zs e) (g2 : IsGrp m ys d) (h : IsAct n zs m ys φ) (hi : i < n * m) (hk : k < n * m) : semF n zs m ys φ i k / m = tm n zs (i / m) (φ (i % m) (k / m)) ∧ semF n zs m ys φ i k % m = tm m ys (i % m) (k % m) ∧ semF n zs m ys φ i k < n * m := by
  have hm1 : 1 ≤ m := Nat.lt_of_le_of_lt (Nat.zero_le _) g2.elt
  obtain ⟨a1, a2⟩ := semi_parts hm1 hi
  obtain ⟨b1, b2⟩ := semi_parts hm1 hk
  have h1 := tm_lt g1.tab a1 ((h.hom _ a2).lt _ b1)
  have h2 := tm_lt g2.tab a2 b2
  obtain ⟨e1, e2⟩ := dm' (a := tm n zs (i / m) (φ (i % m) (k / m))) h2
  refine ⟨e1, e2, ?_⟩
  unfold semF
  have h3 : (tm n zs (i / m) (φ (i % m) (k / m)) + 1) * m ≤ n * m := Nat.mul_le_mul_right _ h1
  rw [Nat.add_mul, Nat.one_mul] at h3
  omega
theorem semi_grp (g1 : IsGrp n zs e) (g2 : IsGrp m ys d) (h : IsAct n zs m ys φ) (hnm : n * m ≤ 60) : IsGrp (n * m) (semT n zs m ys φ) (e * m + d) := by
  have hm1 : 1 ≤ m := Nat.lt_of_le_of_lt (Nat.zero_le _) g2.elt
  have hn1 : 1 ≤ n := Nat.lt_of_le_of_lt (Nat.zero_le _) g1.elt
  have hE : ∀ x a, x < n → a < m → x * m + a < n * m := fun x a hx ha => by
    have h3 : (x + 1) * m ≤ n * m := Nat.mul_le_mul_right _ hx
    rw [Nat.add_mul, Nat.one_mul] at h3
    omega
  have hback : ∀ i, i / m * m + i % m = i := fun i => by rw [Nat.mul_comm]; exact Nat.div_add_mod i m
  obtain ⟨ed, em⟩ := dm' (a := e) g2.elt
  refine grp_mk (Nat.mul_pos hn1 hm1) hnm (fun i k hi hk => (sem_div g1 g2 h hi hk).2.2) (hE e d g1.elt g2.elt) (fun i hi => ?_) (fun i hi => ?_) (fun i k l hi hk hl => ?_) (fun i hi => ?_)
  · obtain ⟨a1, a2⟩ := semi_parts hm1 hi
    unfold semF
    rw [ed, em, h.id g2 a1, g1.left _ a1, g2.left _ a2, hback]
  · obtain ⟨a1, a2⟩ := semi_parts hm1 hi
    unfold semF
    rw [ed, em, IsHom.one g1 g1 (h.hom _ a2), g1.right _ a1, g2.right _ a2, hback]
  · obtain ⟨a1, a2⟩ := semi_parts hm1 hi
    obtain ⟨b1, b2⟩ := semi_parts hm1 hk
    obtain ⟨c1, c2⟩ := semi_parts hm1 hl
    obtain ⟨p1, p2, p3⟩ := sem_div g1 g2 h hi hk
    obtain ⟨q1, q2, q3⟩ := sem_div g1 g2 h hk hl
    have e1 : semF n zs m ys φ (semF n zs m ys φ i k) l = tm n zs (semF n zs m ys φ i k / m) (φ (semF n zs m ys φ i k % m) (l / m)) * m + tm m ys (semF n zs m ys φ i k % m) (l % m) := rfl
    have e2 : semF n zs m ys φ i (semF n zs m ys φ k l) = tm n zs (i / m) (φ (i % m) (semF n zs m ys φ k l / m)) * m + tm m ys (i % m) (semF n zs m ys φ k l % m) := rfl
    rw [e1, e2, p1, p2, q1, q2, g2.ass _ _ _ a2 b2 c2, (h.hom _ a2).mul _ _ b1 ((h.hom _ b2).lt _ c1), h.mul _ _ _ a2 b2 c1, g1.ass _ _ _ a1 ((h.hom _ a2).lt _ b1) ((h.hom _ a2).lt _ ((h.hom _ b2).lt _ c1))]
  · obtain ⟨a1, a2⟩ := semi_parts hm1 hi
    obtain ⟨x, hx, h1⟩ := g1.inv _ a1
    obtain ⟨b, hb, h2⟩ := g2.inv _ a2
    obtain ⟨y, hy, h3⟩ := h.onto (i % m) x a2 hx
    refine ⟨y * m + b, hE y b hy hb, ?_⟩
    obtain ⟨f1, f2⟩ := dm' (a := y) hb
    unfold semF
    rw [f1, f2, h3, h1, h2]
/-- What is wrong with an act, and with what it is an act of. -/
def semc (N : Int) (zs : List Int) (M : Int) (ys : List Int) (ls : List (List Int)) : Int × Int :=
  if (twofault N zs M ys).1 ≠ 0 then twofault N zs M ys
  else if (ls.length : Int) ≠ M then (8, 0)
  else if least ls.length (fun i => decide (cent N.toNat zs (ls[i]?.getD []) ≠ 0)) ≠ -1 then (cent N.toNat zs (ls[(least ls.length (fun i => decide (cent N.toNat zs (ls[i]?.getD []) ≠ 0))).toNat]?.getD []), least ls.length (fun i => decide (cent N.toNat zs (ls[i]?.getD []) ≠ 0)))
  else if least ls.length (fun a => pstr M.toNat ys N.toNat (actf ls) a) ≠ -1 then (7, least ls.length (fun a => pstr M.toNat ys N.toNat (actf ls) a))
  else if N * M > 60 then (9, 0) else (0, 0)
theorem cent_row {ms : List Int} (g1 : IsGrp n zs e) (h : cent n zs ms = 0) : IsHom n zs n zs (fun y => (ms[y]?.getD 0).toNat) ∧ ms = li ((List.range n).map fun y => (ms[y]?.getD 0).toNat) ∧ ∀ x, x < n → ∃ y, y < n ∧ (ms[y]?.getD 0).toNat = x := by
  unfold cent at h
  by_cases h1 : (hfault n zs n zs ms).1 = 0
  · rw [if_neg (by simpa using h1)] at h
    by_cases h2 : o1 n ms = true
    · obtain ⟨_, hl, ψ, hψ, hms⟩ := hom_of g1 g1 h1
      have hval : ∀ y, y < n → (ms[y]?.getD 0).toNat = ψ y := fun y hy => by rw [hms]; simp [li, hy]
      refine ⟨⟨fun a ha => by rw [hval a ha]; exact hψ.lt a ha, fun a b ha hb => by
        rw [hval a ha, hval b hb, hval _ (tm_lt g1.tab ha hb)]; exact hψ.mul a b ha hb⟩, ?_, fun x hx => ?_⟩
      · conv => lhs; rw [hms]
        refine congrArg li (List.map_congr_left fun y hy => (hval y (List.mem_range.1 hy)).symm)
      · have h3 := o1_iff.1 h2 x hx
        rw [hms] at h3
        obtain ⟨y, hy, h4⟩ := List.mem_map.1 (mem_li.1 h3)
        exact ⟨y, List.mem_range.1 hy, by rw [hval y (List.mem_range.1 hy)]; exact h4⟩
    · rw [if_neg h2] at h; cases h
  · rw [if_pos h1] at h; exact absurd h h1
theorem act_is {ls : List (List Int)} (g1 : IsGrp n zs e) (h0 : ∀ t, t < m → cent n zs (ls[t]?.getD []) = 0) (h1 : ∀ t, t < m → pstr m ys n (actf ls) t = false) : IsAct n zs m ys (actf ls) where
  hom := fun a ha => (cent_row g1 (h0 a ha)).1
  onto := fun a x ha hx => (cent_row g1 (h0 a ha)).2.2 x hx
  mul := fun a b y ha hb hy => pstr_no.1 (h1 a ha) b y hb hy
theorem act_reads {ls : List (List Int)} {w : World} {lv : Value} (g1 : IsGrp n zs e) (hL : SlL w lv ls) (hl : ls.length = m) (h0 : ∀ t, t < m → cent n zs (ls[t]?.getD []) = 0) : ActR w lv ls m n (actf ls) where
  sl := hL
  len := hl
  row := fun i hi => (cent_row g1 (h0 i hi)).2.1
  lt := fun i y hi hy => (cent_row g1 (h0 i hi)).1.lt y hy
/-- The first that is wrong. -/
theorem least_val {k : Nat} {p : Nat → Bool} : (∃ j : Nat, j < k ∧ p j = true ∧ (∀ t, t < j → p t = false) ∧ least k p = (j : Int)) ∨ ((∀ t, t < k → p t = false) ∧ least k p = -1) := least_cases k p
end
/-- What Semi answers, at everything. -/
theorem semi_any (N M : Int) (v y lv : Value) (zs ys : List Int) (ls : List (List Int)) (w : World) (hv : Sl w v zs) (hy : Sl w y ys) (hL : SlL w lv ls) (hT : Tab w) :
    Calls Tryz.prog 33 #[.agg #[.int .i64 N, v], .agg #[.int .i64 M, y], lv] w fun x w' => ∃ g, x = .returned (.tuple #[g, .agg #[.int .i64 (semc N zs M ys ls).1, .int .i64 (semc N zs M ys ls).2]]) ∧ ((semc N zs M ys ls).1 ≠ 0 → g = .agg #[.int .i64 0, .slice none 0 0]) ∧ ((semc N zs M ys ls).1 = 0 → ∃ r1 r2 r3, g = .agg #[.int .i64 (N * M), .slice r1 r2 r3] ∧ Row w' w.heap.size (.slice r1 r2 r3) (semT N.toNat zs M.toNat ys (actf ls))) ∧ Below w.heap.size w w' := by
  obtain ⟨v1, v2, v3, rfl⟩ := hv.isSlice
  obtain ⟨y1, y2, y3, rfl⟩ := hy.isSlice
  have HCN := hide (fun W (h : Below w.heap.size w W) => check_any N (.slice v1 v2 v3) zs W (hv.below h))
  have HCH := hide (fun W (h : Below w.heap.size w W) => check_any M (.slice y1 y2 y3) ys W (hy.below h))
  by_cases h1 : (gfault N zs).1 = 0
  · obtain ⟨n, e, rfl, g1, hg0⟩ := gfault_grp h1
    by_cases h2 : (gfault M ys).1 = 0
    · obtain ⟨m, d, rfl, g2, hh0⟩ := gfault_grp h2
      have hn := g1.tab.le
      have hm := g2.tab.le
      have hn1 : 1 ≤ n := Nat.lt_of_le_of_lt (Nat.zero_le _) g1.elt
      have hm1 : 1 ≤ m := Nat.lt_of_le_of_lt (Nat.zero_le _) g2.elt
      have htwo : twofault n zs m ys = (0, 0) := by unfold twofault; rw [if_neg (by simpa using h1), hh0]
      rw [hg0] at HCN
      rw [hh0] at HCH
      have hnm : (n : Int) * (m : Int) = ((n * m : Nat) : Int) := by rw [Int.natCast_mul]
      have hnm9 : n * m ≤ 3600 := Nat.mul_le_mul hn hm
      have hwr : IntKind.i64.wrap ((n : Int) * (m : Int)) = (n : Int) * (m : Int) := by rw [hnm, IntKind.wrap_i64]; omega
      -- by what checked answers
      have main : ∀ ck ik : Int, (∀ W, Below w.heap.size w W → Calls Tryz.prog 60 #[.agg #[.int .i64 n, .slice v1 v2 v3], .agg #[.int .i64 m, .slice y1 y2 y3], lv] W fun x W' => x = .returned (.agg #[.int .i64 ck, .int .i64 ik]) ∧ Below W.heap.size W W') →
          (ck = 0 → ls.length = m ∧ (∀ t, t < m → cent n zs (ls[t]?.getD []) = 0)) →
          semc n zs m ys ls = (if ck ≠ 0 then (ck, ik) else if (n : Int) * (m : Int) > 60 then (9, 0) else (0, 0)) →
          Calls Tryz.prog 33 #[.agg #[.int .i64 n, .slice v1 v2 v3], .agg #[.int .i64 m, .slice y1 y2 y3], lv] w fun x w' => ∃ g, x = .returned (.tuple #[g, .agg #[.int .i64 (semc n zs m ys ls).1, .int .i64 (semc n zs m ys ls).2]]) ∧ ((semc n zs m ys ls).1 ≠ 0 → g = .agg #[.int .i64 0, .slice none 0 0]) ∧ ((semc n zs m ys ls).1 = 0 → ∃ r1 r2 r3, g = .agg #[.int .i64 ((n : Int) * (m : Int)), .slice r1 r2 r3] ∧ Row w' w.heap.size (.slice r1 r2 r3) (semT n zs m ys (actf ls))) ∧ Below w.heap.size w w' := fun ck ik hck hok hsc => by
        refine (semi_walk n m v1 v2 v3 y1 y2 y3 lv 0 0 0 0 ck ik (semT n zs m ys (actf ls)) w HCN HCH (hide fun _ _ => hwr) (hide fun _ _ => hck) (hide fun _ _ hz hb W h => ?_)).mono ?_
        · obtain ⟨hl, h0⟩ := hok hz
          have hnmb : n * m ≤ 60 := by rw [hnm] at hb; omega
          refine (pairs_ok n e m d v1 v2 v3 y1 y2 y3 lv zs ys ls (actf ls) W g1 g2 (hv.below h) (hy.below h) (act_reads g1 (hL.below h) hl h0) hnmb hn1 hm1).mono ?_
          rintro x W' ⟨r, rfl, hr, hb⟩
          obtain ⟨r1, r3, rfl⟩ := row_len hr
          exact ⟨r1, _, r3, by rw [hnm], hr, hb⟩
        · rintro x W' ⟨g, c, i, rfl, hS, hb⟩
          rw [hsc]
          rcases hS with ⟨h, _⟩ | ⟨_, h, _⟩ | ⟨_, _, hz, rfl, rfl, rfl⟩ | ⟨_, _, hz, hbig, rfl, rfl, rfl⟩ | ⟨_, _, hz, hbig, ⟨r1, r2, r3, rfl, hr⟩, rfl, rfl⟩
          · exact absurd rfl h
          · exact absurd rfl h
          · rw [if_pos hz]
            exact ⟨_, rfl, fun _ => rfl, fun h => absurd h hz, hb⟩
          · rw [if_neg (by simpa using hz), if_pos hbig]
            exact ⟨_, rfl, fun _ => rfl, fun h => (by cases h), hb⟩
          · rw [if_neg (by simpa using hz), if_neg hbig]
            exact ⟨_, rfl, fun h => absurd rfl h, fun _ => ⟨r1, r2, r3, rfl, hr⟩, hb⟩
      by_cases hl : ls.length = m
      · have hgo := fun W (h : Below w.heap.size w W) => pchk_go n m v1 v2 v3 y1 y2 y3 lv ls (fun i => cent n zs (ls[i]?.getD [])) (fun a => pstr m ys n (actf ls) a) W (hL.below h) hl hm1 hm
          (hide fun W' i u h' hi hu => centry_ok n e (.slice v1 v2 v3) u zs (ls[i]?.getD []) W' (hv.below (bcat2 h h')) g1 hu ((hT.below h).below h'))
          (hide fun h0 W' a h' ha => pstr_ok m d n a (.slice y1 y2 y3) lv ys ls (actf ls) W' g2 (hy.below (bcat2 h h')) (act_reads g1 (hL.below (bcat2 h h')) hl h0) hn1 hn ha)
        -- the answer is one alone
        rcases least_val (k := ls.length) (p := fun i => decide (cent n zs (ls[i]?.getD []) ≠ 0)) with ⟨k, hk, hp, hbef, hle⟩ | ⟨hno, hle⟩
        · have hp : cent n zs (ls[k]?.getD []) ≠ 0 := of_decide_eq_true hp
          have hbef : ∀ t, t < k → cent n zs (ls[t]?.getD []) = 0 := fun t ht => by simpa using hbef t ht
          refine main (cent n zs (ls[k]?.getD [])) k (fun W h => (hgo W h).mono ?_) (fun h => absurd h hp) ?_
          · rintro x W' ⟨c, i, rfl, hch, hb⟩
            rcases hch with ⟨j, hj, h3, h4, rfl, rfl⟩ | ⟨h3, _⟩ | ⟨h3, _⟩
            · have : j = k := by
                rcases Nat.lt_trichotomy j k with h | h | h
                · exact absurd (hbef j h) h4
                · exact h
                · exact absurd (h3 k h) hp
              subst this
              exact ⟨rfl, hb⟩
            · exact absurd (h3 k (by omega)) hp
            · exact absurd (h3 k (by omega)) hp
          · unfold semc
            rw [htwo, if_neg (by simp), if_neg (by simp [hl]), Int.toNat_natCast, hle, if_pos (by omega), Int.toNat_natCast, if_pos hp]
        · have h0 : ∀ t, t < m → cent n zs (ls[t]?.getD []) = 0 := fun t ht => by simpa using hno t (by omega)
          rcases least_val (k := ls.length) (p := fun a => pstr m ys n (actf ls) a) with ⟨k, hk, hp, hbef, hle2⟩ | ⟨hno2, hle2⟩
          · refine main 7 k (fun W h => (hgo W h).mono ?_) (fun h => by cases h) ?_
            · rintro x W' ⟨c, i, rfl, hch, hb⟩
              rcases hch with ⟨j, hj, h3, h4, _⟩ | ⟨_, j, hj, h3, h4, rfl, rfl⟩ | ⟨_, h3, _⟩
              · exact absurd (h0 j hj) h4
              · have : j = k := by
                  rcases Nat.lt_trichotomy j k with h | h | h
                  · have h9 : pstr m ys n (actf ls) j = true := h4
                    rw [hbef j h] at h9; cases h9
                  · exact h
                  · have h9 : pstr m ys n (actf ls) k = false := h3 k h
                    rw [hp] at h9; cases h9
                subst this
                exact ⟨rfl, hb⟩
              · have h9 : pstr m ys n (actf ls) k = false := h3 k (by omega)
                rw [hp] at h9; cases h9
            · unfold semc
              rw [htwo, if_neg (by simp), if_neg (by simp [hl]), Int.toNat_natCast, hle, if_neg (by simp), Int.toNat_natCast, hle2, if_pos (by omega), if_pos (by decide)]
          · refine main 0 0 (fun W h => (hgo W h).mono ?_) (fun _ => ⟨hl, h0⟩) ?_
            · rintro x W' ⟨c, i, rfl, hch, hb⟩
              rcases hch with ⟨j, hj, h3, h4, _⟩ | ⟨_, j, hj, h3, h4, _⟩ | ⟨_, h3, rfl, rfl⟩
              · exact absurd (h0 j hj) h4
              · have h9 : pstr m ys n (actf ls) j = true := h4
                rw [hno2 j (by omega)] at h9; cases h9
              · exact ⟨rfl, hb⟩
            · unfold semc
              rw [htwo, if_neg (by simp), if_neg (by simp [hl]), Int.toNat_natCast, hle, if_neg (by simp), Int.toNat_natCast, hle2, if_neg (by simp), if_neg (show ¬ ((0 : Int) ≠ 0) by decide)]
      · refine main 8 0 (fun W h => pchk_size n m (.slice v1 v2 v3) (.slice y1 y2 y3) lv ls W (hL.below h) hl) (fun h => by cases h) ?_
        unfold semc
        rw [htwo, if_neg (by simp), if_pos (by omega), if_pos (by decide)]
    · have htwo : twofault n zs M ys = gfault M ys := by unfold twofault; rw [if_neg (by simpa using h1)]
      rw [hg0] at HCN
      refine (semi_walk n M v1 v2 v3 y1 y2 y3 lv 0 0 (gfault M ys).1 (gfault M ys).2 0 0 [] w HCN HCH (hide fun _ h => absurd h h2) (hide fun _ h => absurd h h2) (hide fun _ h => absurd h h2)).mono ?_
      rintro x W' ⟨g, c, i, rfl, hS, hb⟩
      have hsc : semc n zs M ys ls = gfault M ys := by unfold semc; rw [htwo, if_pos h2]
      rw [hsc]
      rcases hS with ⟨h, _⟩ | ⟨_, h, rfl, rfl, rfl⟩ | ⟨_, h, _⟩ | ⟨_, h, _⟩ | ⟨_, h, _⟩
      · exact absurd rfl h
      · exact ⟨_, rfl, fun _ => rfl, fun h9 => absurd h9 h, hb⟩
      · exact absurd h h2
      · exact absurd h h2
      · exact absurd h h2
  · have htwo : twofault N zs M ys = gfault N zs := by unfold twofault; rw [if_pos h1]
    refine (semi_walk N M v1 v2 v3 y1 y2 y3 lv (gfault N zs).1 (gfault N zs).2 (gfault M ys).1 (gfault M ys).2 0 0 [] w HCN HCH (hide fun h => absurd h h1) (hide fun h => absurd h h1) (hide fun h => absurd h h1)).mono ?_
    rintro x W' ⟨g, c, i, rfl, hS, hb⟩
    have hsc : semc N zs M ys ls = gfault N zs := by unfold semc; rw [htwo, if_pos h1]
    rw [hsc]
    rcases hS with ⟨h, rfl, rfl, rfl⟩ | ⟨h, _⟩ | ⟨h, _⟩ | ⟨h, _⟩ | ⟨h, _⟩
    · exact ⟨_, rfl, fun _ => rfl, fun h9 => absurd h9 h, hb⟩
    · exact absurd h h1
    · exact absurd h h1
    · exact absurd h h1
    · exact absurd h h1
end Go.Proofs.YtgejngpioldhpaaGreatDoor

namespace Go.Proofs.YtgejngpioldhpaaGreatDoor
open Go Go.RowKit

set_option maxRecDepth 100000 in
set_option maxHeartbeats 4000000 in
theorem commutes_ok (n : Nat) (v : Value) (zs : List Int) (w : World) (ht : IsTab n zs) (hv : Sl w v zs) :
    Calls Tryz.prog 35 #[.agg #[.int .i64 n, v]] w fun x w' => x = .returned (.bool (comB n zs)) ∧ Below w.heap.size w w' := by
  have hB0 : Below w.heap.size w (w.alloc (.cells #[.int .i64 n, v] 24)) := balloc w _
  have hg0 : BoxG (w.alloc (.cells #[.int .i64 n, v] 24)) w.heap.size n v := blk0 _ _
  have hv0 := hv.below hB0
  have hle := ht.le
  have HT := hide ht
  obtain ⟨g0, g1, _, _⟩ := hg0.two
  clear ht
  go_enter Tryz.func35, Tryz.ntmps35
  go_wp2
  generalize w.alloc (.cells #[.int .i64 n, v] 24) = w0 at *
  go_loopw [3] (fun i wr => ∃ k : Nat, k ≤ n ∧ i = .int .i64 k ∧ (∀ a b, a < k → b < n → tm n zs a b = tm n zs b a) ∧ Below w0.heap.size w0 wr) (fun i _ => n - (intOf i).toNat)
  case atStart => exact ⟨0, Nat.zero_le _, rfl, fun a b ha => by omega, Below.refl _ _⟩
  case round =>
    obtain ⟨a, hk, rfl, hno, hB⟩ := hrel
    have HN := hide hno
    have d0 := below_cell hB g0
    have d1 := below_cell hB g1
    clear hno
    by_cases hlt : a < n
    · go_wp2
      clear d0 d1
      go_loopw [4] (fun i wr => ∃ k : Nat, k ≤ n ∧ i = .int .i64 k ∧ (∀ b, b < k → tm n zs a b = tm n zs b a) ∧ Below w0.heap.size w0 wr) (fun i _ => n - (intOf i).toNat)
      case atStart => exact ⟨0, Nat.zero_le _, rfl, fun b hb => by omega, hB⟩
      case round =>
        obtain ⟨b, hk2, rfl, hno2, hB2⟩ := hrel
        have HN2 := hide hno2
        have d0 := below_cell hB2 g0
        have d1 := below_cell hB2 g1
        clear hno2
        by_cases hlt2 : b < n
        · have hS : ∀ W, Below w0.heap.size w0 W → (Below w0.heap.size w0 W ∧ W.cell? ⟨w.heap.size, 0, none⟩ = some (.int .i64 n) ∧ W.cell? ⟨w.heap.size, 1, none⟩ = some v) := fun W h => ⟨h, below_cell h g0, below_cell h g1⟩
          have hS0 := hS _ (bdrew hB2)
          go_wp2_with fail
          clear d0 d1
          go_region_held3 (fun W => Below w0.heap.size w0 W ∧ W.cell? ⟨w.heap.size, 0, none⟩ = some (.int .i64 n) ∧ W.cell? ⟨w.heap.size, 1, none⟩ = some v)
            (first | exact hS0 | assumption | exact hS _ (bcat2 (And.left ‹_›) hl1))
            (first | (go_at_call 42; refine (M_ok n v zs _ _ _ HT.out (hv0.below (And.left ‹_›)) (by assumption) (by assumption)).mono ?_; rintro e W1 ⟨rfl, hl1⟩))
          obtain ⟨hB3, _⟩ := ‹Below w0.heap.size w0 W1 ∧ _›
          clear hS hS0 hl1
          by_cases hxy : tm n zs a b = tm n zs b a
          · have hbe : ((tm n zs a b : Int) != (tm n zs b a : Int)) = false := by simp [hxy]
            have HXY := hide hxy
            clear hxy
            go_wp2
            go_roundw
            case rel => exact ⟨b + 1, by omega, by go_num, fun d hd => by
              by_cases e : d = b
              · rw [e]; exact HXY.out
              · exact HN2.out d (by omega), hB3⟩
            case measure => simp [intOf]; omega
          · have hbe : ((tm n zs a b : Int) != (tm n zs b a : Int)) = true := by simp; omega
            go_wp2
            go_ret
            refine ⟨retB ?_, bcat hB0 hB3 hB0.size⟩
            cases hq : comB n zs with
            | false => rfl
            | true => exact absurd (comB_iff.1 hq a b hlt hlt2) hxy
        · have hcn : b = n := by omega
          subst hcn
          go_wp2
          go_roundw
          case rel => exact ⟨a + 1, by omega, by go_num, fun d c hd hc => by
            by_cases e : d = a
            · rw [e]; exact HN2.out c hc
            · exact HN.out d c (by omega) hc, hB2⟩
          case measure => simp [intOf]; omega
    · have hbn : a = n := by omega
      subst hbn
      go_wp2
      go_ret
      exact ⟨retB (comB_iff.2 (fun d c hd hc => HN.out d c hd hc)).symm, bcat hB0 hB hB0.size⟩
theorem sl_blk {W : World} {b : Nat} {xs : List Int} (h : Blk W b 3 (xs.map (Value.int .i64))) (hm : xs.length ≤ maxLen) : Sl W (.slice (some ⟨b, 0, none⟩) xs.length xs.length) xs :=
  ⟨some ⟨b, 0, none⟩, xs.length, b, 0, rfl, ⟨fun _ => rfl, fun j hj => by
    rw [Nat.zero_add, h.cell j]
    simp [hj]⟩, h.lt, Nat.le_refl _, hm⟩
def exA : List (List Int) := [[0, 1, 2], [0, 2, 1]]
theorem ex_semc : semc 3 (rngT 3) 2 (rngT 2) exA = (0, 0) := by decide +kernel
theorem ex_grp : ∃ e, IsGrp 6 (semT 3 (rngT 3) 2 (rngT 2) (actf exA)) e := by
  obtain ⟨n, e, hn, hg, _⟩ := gfault_grp (N := 6) (zs := semT 3 (rngT 3) 2 (rngT 2) (actf exA)) (by decide +kernel)
  obtain rfl : n = 6 := by omega
  exact ⟨e, hg⟩
theorem ex_com : comB 6 (semT 3 (rngT 3) 2 (rngT 2) (actf exA)) = false := by decide +kernel
set_option maxRecDepth 100000 in
set_option maxHeartbeats 4000000 in
theorem prodBegun_any (w : World) (hT : Tab w) : Calls Tryz.prog 10 #[] w fun x w' => x = .returned (.bool true) ∧ Below w.heap.size w w' := by
  have HR3 := hide (ring_ok 3 w (by decide) (by decide))
  go_enter Tryz.func10, Tryz.ntmps10
  go_wp2_with fail
  refine HR3.out.mono ?_
  rintro x w1 ⟨ra, rfl, hra, hb1⟩
  have h0 := hT.lt
  have hsa := row_sl hra (Nat.lt_of_lt_of_le h0 hb1.size)
  obtain ⟨a1, a2, a3, rfl⟩ := hsa.isSlice
  have HR2 := hide (ring_ok 2 w1 (by decide) (by decide))
  go_wp2_with fail
  refine HR2.out.mono ?_
  rintro x w2 ⟨rb, rfl, hrb, hb2⟩
  have hB2 := bcat2 hb1 hb2
  have hsb := row_sl hrb (Nat.lt_of_lt_of_le h0 hB2.size)
  obtain ⟨b1, b2, b3, rfl⟩ := hsb.isSlice
  have hsa2 := hsa.below hb2
  clear hra hrb hsa HR2 HR3
  obtain ⟨w3, hw3⟩ : ∃ w3, w3 = ((w2.alloc (.cells #[.int .i64 0, .int .i64 1, .int .i64 2] 3)).alloc (.cells #[.int .i64 0, .int .i64 2, .int .i64 1] 3)).alloc (.cells #[.slice (some ⟨w2.heap.size, 0, none⟩) 3 3, .slice (some ⟨w2.heap.size + 1, 0, none⟩) 3 3] 22) := ⟨_, rfl⟩
  have hb3 : Below w2.heap.size w2 w3 := by rw [hw3]; exact ((balloc w2 _).alloc (by simp) _).alloc (by simp; omega) _
  have hP : Blk w3 w2.heap.size 3 (([0, 1, 2] : List Int).map (Value.int .i64)) := by
    rw [hw3]
    exact ((show Blk (w2.alloc (.cells #[.int .i64 0, .int .i64 1, .int .i64 2] 3)) w2.heap.size 3 [.int .i64 0, .int .i64 1, .int .i64 2] from World.alloc_heap_new w2 _).alloc _).alloc _
  have hQ : Blk w3 (w2.heap.size + 1) 3 (([0, 2, 1] : List Int).map (Value.int .i64)) := by
    rw [hw3]
    have h := (show Blk ((w2.alloc (.cells #[.int .i64 0, .int .i64 1, .int .i64 2] 3)).alloc (.cells #[.int .i64 0, .int .i64 2, .int .i64 1] 3)) (w2.alloc (.cells #[.int .i64 0, .int .i64 1, .int .i64 2] 3)).heap.size 3 [.int .i64 0, .int .i64 2, .int .i64 1] from World.alloc_heap_new _ _).alloc (.cells #[.slice (some ⟨w2.heap.size, 0, none⟩) 3 3, .slice (some ⟨w2.heap.size + 1, 0, none⟩) 3 3] 22)
    rw [World.size_alloc] at h
    exact h
  have hL : Blk w3 (w2.heap.size + 1 + 1) 22 [.slice (some ⟨w2.heap.size, 0, none⟩) 3 3, .slice (some ⟨w2.heap.size + 1, 0, none⟩) 3 3] := by
    rw [hw3]
    have h := World.alloc_heap_new ((w2.alloc (.cells #[.int .i64 0, .int .i64 1, .int .i64 2] 3)).alloc (.cells #[.int .i64 0, .int .i64 2, .int .i64 1] 3)) (.cells #[.slice (some ⟨w2.heap.size, 0, none⟩) 3 3, .slice (some ⟨w2.heap.size + 1, 0, none⟩) 3 3] 22)
    rw [World.size_alloc, World.size_alloc] at h
    exact h
  have hsL : SlL w3 (.slice (some ⟨w2.heap.size + 1 + 1, 0, none⟩) 2 2) exA := by
    refine ⟨some ⟨w2.heap.size + 1 + 1, 0, none⟩, 2, w2.heap.size + 1 + 1, 0, rfl, fun _ => rfl, fun j hj => ?_, hL.lt, Nat.le_refl _, by unfold maxLen; decide⟩
    rw [Nat.zero_add, hL.cell j]
    have hj : j < 2 := hj
    rcases (show j = 0 ∨ j = 1 by omega) with rfl | rfl
    · exact ⟨_, rfl, sl_blk hP (by unfold maxLen; decide)⟩
    · exact ⟨_, rfl, sl_blk hQ (by unfold maxLen; decide)⟩
  have hB3 := bcat2 hB2 hb3
  have HSE := hide (semi_any 3 2 (.slice a1 a2 a3) (.slice b1 b2 b3) (.slice (some ⟨w2.heap.size + 1 + 1, 0, none⟩) 2 2) (rngT 3) (rngT 2) exA w3 (hsa2.below hb3) (hsb.below hb3) hsL (hT.below hB3))
  rw [ex_semc] at HSE
  simp only at HSE
  go_wp2_with fail
  rw [← hw3]
  clear hw3
  refine HSE.out.mono ?_
  rintro x w4 ⟨g, rfl, _, hg, hb4⟩
  obtain ⟨r1, r2, r3, rfl, hr⟩ := hg (by simp)
  have hsr := row_sl hr (Nat.lt_of_lt_of_le (Nat.lt_of_lt_of_le h0 hB3.size) hb4.size)
  have hsr : Sl w4 (.slice r1 r2 r3) (semT 3 (rngT 3) 2 (rngT 2) (actf exA)) := hsr
  obtain ⟨w5, hw5⟩ : ∃ w5, w5 = (w4.alloc (.cells #[.int .i64 6, .slice r1 r2 r3] 24)).alloc (.cells #[.int .i64 0, .int .i64 0] 27) := ⟨_, rfl⟩
  have hb5 : Below w4.heap.size w4 w5 := by rw [hw5]; exact (balloc w4 _).alloc (by simp) _
  have hG5 : BoxG w5 w4.heap.size 6 (.slice r1 r2 r3) := by rw [hw5]; exact (blk0 _ _).alloc _
  have hF5 : Blk w5 (w4.heap.size + 1) 27 [.int .i64 0, .int .i64 0] := by
    rw [hw5]
    have := blk0 (w := w4.alloc (.cells #[.int .i64 6, .slice r1 r2 r3] 24)) (T := 27) (.int .i64 0) (.int .i64 0)
    rwa [World.size_alloc] at this
  have hB5 := bcat2 hB3 (bcat2 hb4 hb5)
  obtain ⟨e, hgr⟩ := ex_grp
  have HCO := hide (commutes_ok 6 (.slice r1 r2 r3) _ w5 hgr.tab (hsr.below hb5))
  rw [ex_com] at HCO
  obtain ⟨f0, f1, _, _⟩ := hF5.two
  obtain ⟨c0, c1, _, _⟩ := hG5.two
  rw [hw5] at f0 f1 c0 c1
  clear hsr hr hg HSE
  go_wp2_with fail
  rw [← hw5]
  clear f0 f1 c0 c1 hw5
  refine HCO.out.mono ?_
  rintro x w6 ⟨rfl, hb6⟩
  go_wp2
  go_ret
  exact ⟨rfl, bcat2 hB5 hb6⟩
end Go.Proofs.YtgejngpioldhpaaGreatDoor

namespace Go.Proofs.YtgejngpioldhpaaGreatDoor
open Go Go.RowKit

/-- A prime from 2 to 100. -/
def primeB (p : Int) : Bool := decide (2 ≤ p ∧ p ≤ 100 ∧ ∀ d : Nat, d < p.toNat → 2 ≤ d → p.toNat % d ≠ 0)
theorem prime_root : ∀ p : Nat, p < 101 → 2 ≤ p → (∀ d : Nat, d < p → 2 ≤ d → d * d ≤ p → p % d ≠ 0) → ∀ d : Nat, d < p → 2 ≤ d → p % d ≠ 0 := by
  intro p hp h2 h d hd hd2 hm
  by_cases hle : d * d ≤ p
  · exact h d hd hd2 hle hm
  · obtain ⟨k, hk⟩ := Nat.dvd_of_mod_eq_zero hm
    have hkd : k < d := by
      refine Nat.lt_of_not_le fun h9 => ?_
      have := Nat.mul_le_mul_left d h9
      omega
    have hk2 : 2 ≤ k := by
      match k, hk with
      | 0, hk => simp at hk; omega
      | 1, hk => simp at hk; omega
      | k + 2, _ => omega
    have hkk : k * k ≤ p := by
      have := Nat.mul_le_mul_right k (Nat.le_of_lt hkd)
      omega
    refine h k (by omega) hk2 hkk ?_
    rw [hk]
    exact Nat.mul_mod_left d k
/-- A power of p. -/
def isPw (n p : Nat) : Prop := ∃ k, n = p ^ k
theorem pw_strip {p v j k : Nat} (hp : 2 ≤ p) (hv : ¬ p ∣ v) (h : v * p ^ j = p ^ k) : v = 1 := by
  have hpos : 0 < p := by omega
  rcases Nat.lt_trichotomy j k with h1 | h1 | h1
  · refine absurd ?_ hv
    obtain ⟨t, rfl⟩ : ∃ t, k = j + t + 1 := ⟨k - j - 1, by omega⟩
    have h2 : v = p ^ (t + 1) := by
      refine Nat.eq_of_mul_eq_mul_right (Nat.pow_pos (n := j) hpos) ?_
      rw [h, ← Nat.pow_add]
      congr 1
      omega
    rw [h2, Nat.pow_succ]
    exact Nat.dvd_mul_left _ _
  · subst h1
    exact Nat.eq_of_mul_eq_mul_right (Nat.pow_pos (n := j) hpos) (by rw [h, Nat.one_mul])
  · exfalso
    obtain ⟨t, rfl⟩ : ∃ t, j = k + t + 1 := ⟨j - k - 1, by omega⟩
    have h2 : v * p ^ (t + 1) = 1 := by
      refine Nat.eq_of_mul_eq_mul_right (Nat.pow_pos (n := k) hpos) ?_
      rw [Nat.one_mul, Nat.mul_assoc, ← Nat.pow_add, show t + 1 + k = k + t + 1 by omega]
      exact h
    have h3 := Nat.eq_one_of_mul_eq_one_left h2
    rw [Nat.pow_succ] at h3
    have h4 := Nat.eq_one_of_mul_eq_one_left h3
    omega
end Go.Proofs.YtgejngpioldhpaaGreatDoor

namespace Go.Proofs.YtgejngpioldhpaaGreatDoor
open Go Go.RowKit

end Go.Proofs.YtgejngpioldhpaaGreatDoor

namespace Go.Proofs.YtgejngpioldhpaaGreatDoor.Pop
open Go

/-- A number of these digits, the lowest first. -/
def val (B : Nat) : List Nat → Nat
  | [] => 0
  | d :: ds => d + B * val B ds
/-- Fields of k bits, every other one full. -/
def mask (k : Nat) : Nat → Nat
  | 0 => 0
  | n + 1 => (2 ^ k - 1) + 2 ^ (2 * k) * mask k n
def pairs : List Nat → List Nat
  | d :: c :: ds => (d + c) :: pairs ds
  | _ => []
theorem and_split {k a b c d : Nat} (ha : a < 2 ^ k) (hc : c < 2 ^ k) : (a + 2 ^ k * b) &&& (c + 2 ^ k * d) = (a &&& c) + 2 ^ k * (b &&& d) := by
  have hac : a &&& c < 2 ^ k := Nat.lt_of_le_of_lt Nat.and_le_left ha
  apply Nat.eq_of_testBit_eq
  intro i
  rw [Nat.testBit_and, Nat.add_comm a, Nat.add_comm c, Nat.add_comm (a &&& c), Nat.testBit_two_pow_mul_add _ ha, Nat.testBit_two_pow_mul_add _ hc, Nat.testBit_two_pow_mul_add _ hac]
  by_cases h : i < k
  · rw [if_pos h, if_pos h, if_pos h, Nat.testBit_and]
  · rw [if_neg h, if_neg h, if_neg h, Nat.testBit_and]
theorem two_fields {k d c : Nat} (hd : d < 2 ^ k) (hc : c < 2 ^ k) : d + 2 ^ k * c < 2 ^ (2 * k) := by
  have h1 : 2 ^ (2 * k) = 2 ^ k * 2 ^ k := by rw [Nat.two_mul, Nat.pow_add]
  have h2 : 2 ^ k * (c + 1) ≤ 2 ^ k * 2 ^ k := Nat.mul_le_mul_left _ hc
  rw [h1]
  rw [Nat.mul_add] at h2
  omega
theorem low_field {k d c : Nat} (hd : d < 2 ^ k) : (d + 2 ^ k * c) &&& (2 ^ k - 1) = d := by
  rw [Nat.and_two_pow_sub_one_eq_mod, Nat.add_mul_mod_self_left, Nat.mod_eq_of_lt hd]
theorem mask_lt (k : Nat) : 2 ^ k - 1 < 2 ^ (2 * k) := Nat.lt_of_lt_of_le (Nat.sub_lt (Nat.two_pow_pos k) (by omega)) (Nat.pow_le_pow_right (by omega) (by omega))
theorem sq (k x : Nat) : 2 ^ k * (2 ^ k * x) = 2 ^ (2 * k) * x := by rw [← Nat.mul_assoc, ← Nat.pow_add, Nat.two_mul]
/-- One step: fields that stand side by side are added. -/
theorem step (k : Nat) : ∀ (n : Nat) (ds : List Nat), ds.length = 2 * n → (∀ d, d ∈ ds → d < 2 ^ k) →
    ((val (2 ^ k) ds / 2 ^ k) &&& mask k n) + (val (2 ^ k) ds &&& mask k n) = val (2 ^ (2 * k)) (pairs ds)
  | 0, ds, hl, _ => by
    obtain rfl : ds = [] := List.length_eq_zero_iff.1 (by omega)
    simp [mask, pairs, val]
  | n + 1, ds, hl, hd => by
    match ds, hl, hd with
    | d :: c :: ds, hl, hd =>
      have h1 : d < 2 ^ k := hd d (by simp)
      have h2 : c < 2 ^ k := hd c (by simp)
      have ih := step k n ds (by simp at hl; omega) (fun x hx => hd x (by simp [hx]))
      have hp := Nat.two_pow_pos k
      have hV := Nat.mod_add_div (val (2 ^ k) ds) (2 ^ k)
      have hm := Nat.mod_lt (val (2 ^ k) ds) hp
      show ((d + 2 ^ k * (c + 2 ^ k * val (2 ^ k) ds)) / 2 ^ k &&& ((2 ^ k - 1) + 2 ^ (2 * k) * mask k n)) + ((d + 2 ^ k * (c + 2 ^ k * val (2 ^ k) ds)) &&& ((2 ^ k - 1) + 2 ^ (2 * k) * mask k n)) = (d + c) + 2 ^ (2 * k) * val (2 ^ (2 * k)) (pairs ds)
      generalize val (2 ^ k) ds = V at *
      have e2 : (d + 2 ^ k * (c + 2 ^ k * V)) = (d + 2 ^ k * c) + 2 ^ (2 * k) * V := by rw [Nat.mul_add, sq, Nat.add_assoc]
      have e3 : (d + 2 ^ k * (c + 2 ^ k * V)) / 2 ^ k = c + 2 ^ k * V := by rw [Nat.add_mul_div_left _ _ hp, Nat.div_eq_of_lt h1, Nat.zero_add]
      have e4 : c + 2 ^ k * V = (c + 2 ^ k * (V % 2 ^ k)) + 2 ^ (2 * k) * (V / 2 ^ k) := by
        rw [← sq, Nat.add_assoc, ← Nat.mul_add, hV]
      rw [e3, e2, e4, and_split (two_fields h2 hm) (mask_lt k), and_split (two_fields h1 h2) (mask_lt k), low_field h2, low_field h1, ← ih, Nat.mul_add]
      omega
theorem pairs_sum : ∀ (n : Nat) (ds : List Nat), ds.length = 2 * n → (pairs ds).sum = ds.sum ∧ (pairs ds).length = n
  | 0, ds, hl => by
    obtain rfl : ds = [] := List.length_eq_zero_iff.1 (by omega)
    simp [pairs]
  | n + 1, ds, hl => by
    match ds, hl with
    | d :: c :: ds, hl =>
      obtain ⟨h1, h2⟩ := pairs_sum n ds (by simp at hl; omega)
      simp [pairs, h1, h2]
      omega
theorem pairs_le {B : Nat} : ∀ (n : Nat) (ds : List Nat), ds.length = 2 * n → (∀ d, d ∈ ds → d ≤ B) → ∀ d, d ∈ pairs ds → d ≤ 2 * B
  | 0, ds, hl, _ => by
    obtain rfl : ds = [] := List.length_eq_zero_iff.1 (by omega)
    simp [pairs]
  | n + 1, ds, hl, hd => by
    match ds, hl, hd with
    | d :: c :: ds, hl, hd =>
      intro x hx
      have h1 := hd d (by simp)
      have h2 := hd c (by simp)
      rcases List.mem_cons.1 hx with rfl | hx
      · omega
      · exact pairs_le n ds (by simp at hl; omega) (fun y hy => hd y (by simp [hy])) x hx
/-- The digit above is added to each digit. -/
def adj : List Nat → List Nat
  | d :: c :: ds => (d + c) :: adj (c :: ds)
  | ds => ds
theorem adj_val {B : Nat} (hB : 0 < B) : ∀ ds : List Nat, (∀ d, d ∈ ds → d < B) → val B ds / B + val B ds = val B (adj ds)
  | [], _ => by simp [adj, val]
  | [d], h => by
    have := h d (by simp)
    simp [adj, val, Nat.div_eq_of_lt this]
  | d :: c :: ds, h => by
    have ih := adj_val hB (c :: ds) (fun x hx => h x (by simp [hx]))
    have hd := h d (by simp)
    have hc := h c (by simp)
    have e1 : val B (c :: ds) = c + B * val B ds := rfl
    have e2 : (c + B * val B ds) / B = val B ds := by rw [Nat.add_mul_div_left _ _ hB, Nat.div_eq_of_lt hc, Nat.zero_add]
    rw [e1, e2] at ih
    have e3 : val B (d :: c :: ds) = d + B * (c + B * val B ds) := rfl
    have e4 : (d + B * (c + B * val B ds)) / B = c + B * val B ds := by rw [Nat.add_mul_div_left _ _ hB, Nat.div_eq_of_lt hd, Nat.zero_add]
    rw [e3, e4]
    show _ = (d + c) + B * val B (adj (c :: ds))
    rw [← ih]
    generalize val B ds = V
    simp only [Nat.mul_add]
    omega
theorem adj_le {M : Nat} : ∀ ds : List Nat, (∀ d, d ∈ ds → d ≤ M) → ∀ d, d ∈ adj ds → d ≤ 2 * M
  | [], _ => by simp [adj]
  | [d], h => fun x hx => by
    have := h x hx
    omega
  | d :: c :: ds, h => fun x hx => by
    have h1 := h d (by simp)
    have h2 := h c (by simp)
    rcases List.mem_cons.1 hx with rfl | hx
    · omega
    · exact adj_le (c :: ds) (fun y hy => h y (by simp [hy])) x hx
theorem adj_len : ∀ ds : List Nat, (adj ds).length = ds.length
  | [] => rfl
  | [_] => rfl
  | _ :: c :: ds => by simp [adj, adj_len (c :: ds)]
/-- Every other digit. -/
def evens : List Nat → List Nat
  | d :: _ :: ds => d :: evens ds
  | _ => []
theorem and_evens (k : Nat) : ∀ (n : Nat) (ds : List Nat), ds.length = 2 * n → (∀ d, d ∈ ds → d < 2 ^ k) → val (2 ^ k) ds &&& mask k n = val (2 ^ (2 * k)) (evens ds)
  | 0, ds, hl, _ => by
    obtain rfl : ds = [] := List.length_eq_zero_iff.1 (by omega)
    simp [mask, evens, val]
  | n + 1, ds, hl, hd => by
    match ds, hl, hd with
    | d :: c :: ds, hl, hd =>
      have h1 : d < 2 ^ k := hd d (by simp)
      have h2 : c < 2 ^ k := hd c (by simp)
      have ih := and_evens k n ds (by simp at hl; omega) (fun x hx => hd x (by simp [hx]))
      show ((d + 2 ^ k * (c + 2 ^ k * val (2 ^ k) ds)) &&& ((2 ^ k - 1) + 2 ^ (2 * k) * mask k n)) = d + 2 ^ (2 * k) * val (2 ^ (2 * k)) (evens ds)
      generalize val (2 ^ k) ds = V at *
      have e2 : (d + 2 ^ k * (c + 2 ^ k * V)) = (d + 2 ^ k * c) + 2 ^ (2 * k) * V := by rw [Nat.mul_add, sq, Nat.add_assoc]
      rw [e2, and_split (two_fields h1 h2) (mask_lt k), low_field h1, ih]
theorem evens_adj : ∀ (n : Nat) (ds : List Nat), ds.length = 2 * n → evens (adj ds) = pairs ds
  | 0, ds, hl => by
    obtain rfl : ds = [] := List.length_eq_zero_iff.1 (by omega)
    rfl
  | n + 1, ds, hl => by
    match ds, hl with
    | [d, c], _ => rfl
    | d :: c :: b :: ds, hl =>
      have ih := evens_adj n (b :: ds) (by simp at hl ⊢; omega)
      show (d + c) :: evens (adj (b :: ds)) = (d + c) :: pairs (b :: ds)
      rw [ih]
end Go.Proofs.YtgejngpioldhpaaGreatDoor.Pop

namespace Go.Proofs.YtgejngpioldhpaaGreatDoor.Pop
open Go

theorem last_one {a b c d e f g h y : Nat} (ha : a ≤ 8)
    (hy : y = a + 256 * (b + 256 * (c + 256 * (d + 256 * (e + 256 * (f + 256 * (g + 256 * h))))))) : y + y / 256 = (a + b) + 256 * ((b + c) + 256 * ((c + d) + 256 * ((d + e) + 256 * ((e + f) + 256 * ((f + g) + 256 * ((g + h) + 256 * h)))))) := by
  have e1 : y / 256 = b + 256 * (c + 256 * (d + 256 * (e + 256 * (f + 256 * (g + 256 * h))))) := by
    rw [hy, Nat.add_mul_div_left _ _ (by decide), Nat.div_eq_of_lt (by omega), Nat.zero_add]
  rw [e1, hy]
  clear e1 hy
  omega
theorem last_two {a b c d e f g h y : Nat} (ha : a ≤ 16) (hb : b ≤ 16)
    (hy : y = a + 256 * (b + 256 * (c + 256 * (d + 256 * (e + 256 * (f + 256 * (g + 256 * h))))))) : y + y / 65536 = (a + c) + 256 * ((b + d) + 256 * ((c + e) + 256 * ((d + f) + 256 * ((e + g) + 256 * ((f + h) + 256 * (g + 256 * h)))))) := by
  have e1 : y / 65536 = c + 256 * (d + 256 * (e + 256 * (f + 256 * (g + 256 * h)))) := by
    rw [hy, show a + 256 * (b + 256 * (c + 256 * (d + 256 * (e + 256 * (f + 256 * (g + 256 * h)))))) = (a + 256 * b) + 65536 * (c + 256 * (d + 256 * (e + 256 * (f + 256 * (g + 256 * h))))) by omega, Nat.add_mul_div_left _ _ (by decide), Nat.div_eq_of_lt (by omega), Nat.zero_add]
  rw [e1, hy]
  clear e1 hy
  omega
theorem last_four {a b c d e f g h y : Nat} (ha : a ≤ 32) (hb : b ≤ 32) (hc : c ≤ 32) (hd : d ≤ 32)
    (hy : y = a + 256 * (b + 256 * (c + 256 * (d + 256 * (e + 256 * (f + 256 * (g + 256 * h))))))) : y + y / 4294967296 = (a + e) + 256 * ((b + f) + 256 * ((c + g) + 256 * ((d + h) + 256 * (e + 256 * (f + 256 * (g + 256 * h)))))) := by
  have e1 : y / 4294967296 = e + 256 * (f + 256 * (g + 256 * h)) := by
    rw [hy, show a + 256 * (b + 256 * (c + 256 * (d + 256 * (e + 256 * (f + 256 * (g + 256 * h)))))) = (a + 256 * (b + 256 * (c + 256 * d))) + 4294967296 * (e + 256 * (f + 256 * (g + 256 * h))) by omega, Nat.add_mul_div_left _ _ (by decide), Nat.div_eq_of_lt (by omega), Nat.zero_add]
  rw [e1, hy]
  clear e1 hy
  omega
/-- Eight bytes, none greater than eight, are added into the lowest one. -/
theorem last_steps {a b c d e f g h : Nat} (ha : a ≤ 8) (hb : b ≤ 8) (hc : c ≤ 8) (hd : d ≤ 8) (he : e ≤ 8) (hf : f ≤ 8) (hg : g ≤ 8) (hh : h ≤ 8) {y y1 y2 : Nat}
    (hy : y = val 256 [a, b, c, d, e, f, g, h]) (h1 : y1 = y + y / 256) (h2 : y2 = y1 + y1 / 65536) : (y2 + y2 / 4294967296) % 128 = a + b + c + d + e + f + g + h := by
  have e0 : y = a + 256 * (b + 256 * (c + 256 * (d + 256 * (e + 256 * (f + 256 * (g + 256 * h)))))) := by
    rw [hy]
    simp only [val]
    omega
  rw [last_one ha e0] at h1
  rw [last_two (by omega) (by omega) h1] at h2
  rw [last_four (by omega) (by omega) (by omega) (by omega) h2]
  clear h1 h2 e0 hy
  omega
/-- The count, as the library's text reckons it, without what is cut off at 64 bits: nothing is. -/
def cnt (x : Nat) : Nat :=
  let x1 := ((x / 2 ^ 1) &&& mask 1 32) + (x &&& mask 1 32)
  let x2 := ((x1 / 2 ^ 2) &&& mask 2 16) + (x1 &&& mask 2 16)
  let x3 := (x2 / 2 ^ 4 + x2) &&& mask 4 8
  let y1 := x3 + x3 / 256
  let y2 := y1 + y1 / 65536
  (y2 + y2 / 4294967296) % 128
theorem cnt_eq (ds : List Nat) (hl : ds.length = 64) (hd : ∀ d, d ∈ ds → d ≤ 1) : cnt (val (2 ^ 1) ds) = ds.sum := by
  have s1 := step 1 32 ds (by omega) (fun d h => by have := hd d h; omega)
  have p1 := pairs_sum 32 ds (by omega)
  have l1 := pairs_le 32 ds (by omega) hd
  have s2 := step 2 16 (pairs ds) (by omega) (fun d h => by have := l1 d h; omega)
  have p2 := pairs_sum 16 (pairs ds) (by omega)
  have l2 := pairs_le 16 (pairs ds) (by omega) l1
  have a3 := adj_val (B := 2 ^ 4) (by decide) (pairs (pairs ds)) (fun d h => by have := l2 d h; omega)
  have m3 := adj_le (pairs (pairs ds)) l2
  have n3 := adj_len (pairs (pairs ds))
  have v3 := and_evens 4 8 (adj (pairs (pairs ds))) (by omega) (fun d h => by have := m3 d h; omega)
  have w3 := evens_adj 8 (pairs (pairs ds)) (by omega)
  have p3 := pairs_sum 8 (pairs (pairs ds)) (by omega)
  have l3 := pairs_le 8 (pairs (pairs ds)) (by omega) l2
  rw [w3] at v3
  rw [← p1.1, ← p2.1, ← p3.1]
  clear p1 p2 l1 l2 m3 n3 w3 hl hd
  unfold cnt
  rw [s1]
  show ((((val (2 ^ (2 * 1)) (pairs ds) / 2 ^ 2) &&& mask 2 16) + (val (2 ^ (2 * 1)) (pairs ds) &&& mask 2 16)) / 2 ^ 4 + (((val (2 ^ (2 * 1)) (pairs ds) / 2 ^ 2) &&& mask 2 16) + (val (2 ^ (2 * 1)) (pairs ds) &&& mask 2 16)) &&& mask 4 8 |> fun x3 => (x3 + x3 / 256 |> fun y1 => (y1 + y1 / 65536 |> fun y2 => (y2 + y2 / 4294967296) % 128))) = _
  rw [show 2 ^ (2 * 1) = 2 ^ 2 from rfl, s2, show 2 ^ (2 * 2) = 2 ^ 4 from rfl, a3, v3]
  generalize pairs (pairs (pairs ds)) = qs at *
  match qs, p3, l3 with
  | [a, b, c, d, e, f, g, h], _, l3 =>
    have hall : ∀ x, x ∈ [a, b, c, d, e, f, g, h] → x ≤ 8 := fun x hx => by have := l3 x hx; omega
    have := last_steps (hall a (by simp)) (hall b (by simp)) (hall c (by simp)) (hall d (by simp)) (hall e (by simp)) (hall f (by simp)) (hall g (by simp)) (hall h (by simp)) rfl rfl rfl
    refine Eq.trans this ?_
    simp
    omega
end Go.Proofs.YtgejngpioldhpaaGreatDoor.Pop

namespace Go.Proofs.YtgejngpioldhpaaGreatDoor.Pop
open Go

theorem val_snoc (B x : Nat) : ∀ ds : List Nat, val B (ds ++ [x]) = val B ds + B ^ ds.length * x
  | [] => by simp [val]
  | d :: ds => by
    show d + B * val B (ds ++ [x]) = d + B * val B ds + B ^ (ds.length + 1) * x
    rw [val_snoc B x ds, Nat.mul_add, ← Nat.mul_assoc, ← Nat.pow_succ', Nat.add_assoc]
/-- A set's bits, the lowest first. -/
def dig (q : Nat → Bool) (k : Nat) : List Nat := (List.range k).map fun a => if q a then 1 else 0
theorem dig_len (q : Nat → Bool) (k : Nat) : (dig q k).length = k := by simp [dig]
theorem dig_succ (q : Nat → Bool) (k : Nat) : dig q (k + 1) = dig q k ++ [if q k then 1 else 0] := by simp [dig, List.range_succ]
theorem dig_val (q : Nat → Bool) : ∀ k, val (2 ^ 1) (dig q k) = bs q k
  | 0 => rfl
  | k + 1 => by
    rw [dig_succ, val_snoc, dig_len, dig_val q k]
    show bs q k + (2 ^ 1) ^ k * _ = 2 ^ k * _ + bs q k
    rw [Nat.add_comm]
theorem dig_sum (q : Nat → Bool) : ∀ k, (dig q k).sum = (lst k q).length
  | 0 => rfl
  | k + 1 => by
    rw [dig_succ, List.sum_append, dig_sum q k]
    unfold lst
    rw [List.range_succ, List.filter_append, List.length_append]
    cases h : q k <;> simp [h]
theorem dig_le (q : Nat → Bool) (k : Nat) : ∀ d, d ∈ dig q k → d ≤ 1 := fun d h => by
  obtain ⟨a, _, rfl⟩ := List.mem_map.1 h
  split <;> omega
theorem bs_wide (p : Nat → Bool) {n : Nat} : ∀ k, bs (fun a => decide (a < n) && p a) (n + k) = bs p n
  | 0 => bs_ext fun a ha => by simp; omega
  | k + 1 => by
    show 2 ^ (n + k) * (if (decide (n + k < n) && p (n + k)) then 1 else 0) + bs _ (n + k) = _
    rw [bs_wide p k, decide_eq_false (by omega)]
    simp
theorem lst_wide (p : Nat → Bool) {n : Nat} : ∀ k, lst (n + k) (fun a => decide (a < n) && p a) = lst n p
  | 0 => List.filter_congr fun a ha => by
    have h1 := List.mem_range.1 ha
    rw [decide_eq_true (show a < n by omega)]
    rfl
  | k + 1 => by
    have h1 := lst_wide p (n := n) k
    unfold lst at h1 ⊢
    rw [← Nat.add_assoc, List.range_succ, List.filter_append, h1]
    simp
    omega
/-- How many things a set has. -/
theorem cnt_bs (p : Nat → Bool) {n : Nat} (hn : n ≤ 60) : cnt (bs p n) = (lst n p).length := by
  have h1 := bs_wide p (n := n) (64 - n)
  have h2 := lst_wide p (n := n) (64 - n)
  rw [show n + (64 - n) = 64 by omega] at h1 h2
  rw [← h1, ← h2, ← dig_val, cnt_eq _ (dig_len _ _) (dig_le _ _), dig_sum]
end Go.Proofs.YtgejngpioldhpaaGreatDoor.Pop

namespace Go.Proofs.YtgejngpioldhpaaGreatDoor
open Go Go.RowKit

theorem and_nat (a b : Nat) (ha : a < 18446744073709551616) (hb : b < 18446744073709551616) : bits BinOp.and IntKind.u64 (a : Int) (b : Int) = ((a &&& b : Nat) : Int) := bits_and_u64_nat a b ha hb
theorem and_127 (y : Nat) (hy : y < 9223372036854775808) : bits BinOp.and IntKind.i64 (y : Int) 127 = ((y % 128 : Nat) : Int) := by
  have h1 : (BitVec.ofInt 64 (y : Int) &&& BitVec.ofInt 64 127).toNat = y % 128 := by
    rw [BitVec.toNat_and]
    have e1 : (BitVec.ofInt 64 (y : Int)).toNat = y := by rw [BitVec.toNat_ofInt]; omega
    have e2 : (BitVec.ofInt 64 (127 : Int)).toNat = 2 ^ 7 - 1 := by decide
    rw [e1, e2, Nat.and_two_pow_sub_one_eq_mod]
  show IntKind.i64.wrap ((BitVec.ofInt 64 (y : Int) &&& BitVec.ofInt 64 127).toNat : Int) = _
  rw [h1, IntKind.wrap_i64]
  omega
theorem wrap_nat {z : Int} (y : Nat) (h : z = (y : Int)) (hy : y < 18446744073709551616) : IntKind.u64.wrap z = (y : Int) := by
  rw [h, IntKind.wrap_u64]
  omega
set_option maxRecDepth 100000 in
set_option maxHeartbeats 1000000 in
theorem ones_cnt (x : Nat) (hx : x < 18446744073709551616) (w : World) :
    Calls Tryz.prog 107 #[.int .u64 x] w fun e w' => e = .returned (.int .i64 (Pop.cnt x)) ∧ w' = w := by
  have k1 : Pop.mask 1 32 = 6148914691236517205 := by decide +kernel
  have k2 : Pop.mask 2 16 = 3689348814741910323 := by decide +kernel
  have k3 : Pop.mask 4 8 = 1085102592571150095 := by decide +kernel
  obtain ⟨x1, h1⟩ : ∃ x1, x1 = ((x / 2 ^ 1) &&& Pop.mask 1 32) + (x &&& Pop.mask 1 32) := ⟨_, rfl⟩
  obtain ⟨x2, h2⟩ : ∃ x2, x2 = ((x1 / 2 ^ 2) &&& Pop.mask 2 16) + (x1 &&& Pop.mask 2 16) := ⟨_, rfl⟩
  obtain ⟨x3, h3⟩ : ∃ x3, x3 = (x2 / 2 ^ 4 + x2) &&& Pop.mask 4 8 := ⟨_, rfl⟩
  obtain ⟨y1, h4⟩ : ∃ y1, y1 = x3 + x3 / 256 := ⟨_, rfl⟩
  obtain ⟨y2, h5⟩ : ∃ y2, y2 = y1 + y1 / 65536 := ⟨_, rfl⟩
  obtain ⟨y3, h6⟩ : ∃ y3, y3 = y2 + y2 / 4294967296 := ⟨_, rfl⟩
  have hc : Pop.cnt x = y3 % 128 := by
    unfold Pop.cnt
    rw [h6, h5, h4, h3, h2, h1]
  have b1 : x1 < 18446744073709551616 := by
    have := Nat.and_le_right (n := x / 2 ^ 1) (m := Pop.mask 1 32)
    have := Nat.and_le_right (n := x) (m := Pop.mask 1 32)
    omega
  have b2 : x2 ≤ 7378697629483820646 := by
    have := Nat.and_le_right (n := x1 / 2 ^ 2) (m := Pop.mask 2 16)
    have := Nat.and_le_right (n := x1) (m := Pop.mask 2 16)
    omega
  have b3 : x3 ≤ 1085102592571150095 := by
    have := Nat.and_le_right (n := x2 / 2 ^ 4 + x2) (m := Pop.mask 4 8)
    omega
  have E1 : IntKind.u64.wrap (bits BinOp.and IntKind.u64 ((x : Int) / 2) 6148914691236517205 + bits BinOp.and IntKind.u64 (x : Int) 6148914691236517205) = (x1 : Int) := by
    have a1 := and_nat (x / 2) 6148914691236517205 (by omega) (by decide)
    have a2 := and_nat x 6148914691236517205 hx (by decide)
    rw [Int.natCast_ediv] at a1
    refine wrap_nat x1 ?_ b1
    rw [k1] at h1
    have a1' : bits BinOp.and IntKind.u64 ((x : Int) / 2) 6148914691236517205 = ((x / 2 &&& 6148914691236517205 : Nat) : Int) := a1
    have a2' : bits BinOp.and IntKind.u64 (x : Int) 6148914691236517205 = ((x &&& 6148914691236517205 : Nat) : Int) := a2
    rw [a1', a2', h1, Int.natCast_add, Nat.pow_one]
  have E2 : IntKind.u64.wrap (bits BinOp.and IntKind.u64 ((x1 : Int) / 4) 3689348814741910323 + bits BinOp.and IntKind.u64 (x1 : Int) 3689348814741910323) = (x2 : Int) := by
    have a1 := and_nat (x1 / 4) 3689348814741910323 (by omega) (by decide)
    have a2 := and_nat x1 3689348814741910323 b1 (by decide)
    rw [Int.natCast_ediv] at a1
    refine wrap_nat x2 ?_ (by omega)
    rw [k2] at h2
    have a1' : bits BinOp.and IntKind.u64 ((x1 : Int) / 4) 3689348814741910323 = ((x1 / 4 &&& 3689348814741910323 : Nat) : Int) := a1
    have a2' : bits BinOp.and IntKind.u64 (x1 : Int) 3689348814741910323 = ((x1 &&& 3689348814741910323 : Nat) : Int) := a2
    rw [a1', a2', h2, Int.natCast_add]
  have E3 : bits BinOp.and IntKind.u64 (IntKind.u64.wrap ((x2 : Int) / 16 + (x2 : Int))) 1085102592571150095 = (x3 : Int) := by
    rw [wrap_nat (x2 / 16 + x2) (by rw [Int.natCast_add, Int.natCast_ediv]; rfl) (by omega)]
    rw [k3] at h3
    rw [h3]
    exact and_nat (x2 / 16 + x2) 1085102592571150095 (by omega) (by decide)
  have E4 : IntKind.u64.wrap ((x3 : Int) + (x3 : Int) / 256) = (y1 : Int) := wrap_nat y1 (by omega) (by omega)
  have E5 : IntKind.u64.wrap ((y1 : Int) + (y1 : Int) / 65536) = (y2 : Int) := wrap_nat y2 (by omega) (by omega)
  have E6 : IntKind.u64.wrap ((y2 : Int) + (y2 : Int) / 4294967296) = (y3 : Int) := wrap_nat y3 (by omega) (by omega)
  have b6 : y3 < 9223372036854775808 := by omega
  have E7 : IntKind.i64.wrap (y3 : Int) = (y3 : Int) := by rw [IntKind.wrap_i64]; omega
  have E8 := and_127 y3 b6
  rw [hc]
  clear h1 h2 h3 h4 h5 h6 k1 k2 k3 hc b1 b2 b3 b6
  go_enter Tryz.func107, Tryz.ntmps107
  go_wp2
  go_ret
  exact ⟨rfl, rfl⟩
/-- How many things a set has. -/
theorem len_cnt (n : Nat) (p : Nat → Bool) (hn : n ≤ 60) (w : World) :
    Calls Tryz.prog 94 #[.int .u64 (bs p n)] w fun e w' => e = .returned (.int .i64 (lst n p).length) ∧ w' = w := by
  go_enter Tryz.func94, Tryz.ntmps94
  go_wp2_with fail
  refine (ones_cnt (bs p n) (bs_64 hn) w).mono ?_
  rintro e w1 ⟨rfl, rfl⟩
  rw [Pop.cnt_bs p hn]
  go_wp2
  go_ret
  exact ⟨rfl, rfl⟩
end Go.Proofs.YtgejngpioldhpaaGreatDoor

namespace Go.Proofs.YtgejngpioldhpaaGreatDoor
open Go Go.RowKit

theorem lst_same {n : Nat} {p q : Nat → Bool} (h : ∀ x, x < n → (p x = true ↔ q x = true)) : lst n p = lst n q := lst_congr fun x hx => by
  have := h x hx
  cases h1 : p x <;> cases h2 : q x <;> simp_all
theorem lst_less {n : Nat} {p q : Nat → Bool} (h : ∀ x, x < n → p x = true → q x = true) : (lst n p).length ≤ (lst n q).length ∧ ((∃ x, x < n ∧ q x = true ∧ ¬ p x = true) → (lst n p).length < (lst n q).length) := by
  have e1 : lst n p = (lst n q).filter p := by
    unfold lst
    rw [List.filter_filter]
    refine List.filter_congr fun x hx => ?_
    cases hp : p x with
    | false => simp
    | true => simp [h x (List.mem_range.1 hx) hp]
  rw [e1]
  refine ⟨List.length_filter_le _ _, ?_⟩
  rintro ⟨x, hx, h1, h2⟩
  exact List.length_filter_lt_length_iff_exists.2 ⟨x, mem_lst.2 ⟨hx, h1⟩, h2⟩
/-- A subgroup of a power of p things with no greater one by a thing more. -/
structure Grown (n : Nat) (zs : List Int) (e p : Nat) (s : Nat → Bool) : Prop where
  sub : subT n zs e s = true
  pow : isPw (lst n s).length p
  top : ∀ a (q : Nat → Bool), a < n → (∀ x, x < n → (q x = true ↔ Mkd n zs e (fun y => s y || decide (y = a)) x)) → bs q n = bs s n ∨ ¬ isPw (lst n q).length p
theorem one_lst {n e : Nat} (he : e < n) : lst n (fun a => decide (a = e)) = [e] := by
  have hnd : (lst n (fun a => decide (a = e))).Nodup := List.nodup_range.sublist List.filter_sublist
  have hm : ∀ x, x ∈ lst n (fun a => decide (a = e)) ↔ x ∈ [e] := fun x => by
    rw [mem_lst]
    simp
    intro h9
    omega
  exact (List.perm_singleton.1 ((List.perm_ext_iff_of_nodup hnd (by simp)).2 hm))
theorem one_sub {n e : Nat} {zs : List Int} (g : IsGrp n zs e) : subT n zs e (fun a => decide (a = e)) = true := by
  rw [subT_iff]
  refine ⟨by simp, fun a b _ _ h1 h2 => ?_⟩
  have h1 := of_decide_eq_true h1
  have h2 := of_decide_eq_true h2
  rw [h1, h2]
  exact decide_eq_true (g.left e g.elt)
theorem mkd_ex' (n : Nat) (zs : List Int) (e : Nat) (q : Nat → Bool) : ∃ p : Nat → Bool, ∀ a, a < n → (p a = true ↔ Mkd n zs e q a) := by
  obtain ⟨p, hp⟩ := Fin.test_of (Mkd n zs e q)
  exact ⟨p, fun a _ => hp a⟩
end Go.Proofs.YtgejngpioldhpaaGreatDoor

namespace Go.Proofs.YtgejngpioldhpaaGreatDoor
open Go Go.RowKit Go.Maps

set_option maxRecDepth 100000 in
set_option maxHeartbeats 2000000 in
theorem conjd_ok (n : Nat) (v u : Value) (zs : List Int) (e a : Nat) (q : Nat → Bool) (w : World) (hG : GA w n v e u zs) (hT : Tab w) (ha : a < n) :
    Calls Tryz.prog 67 #[.agg #[.int .i64 n, v, .int .i64 e, u], .int .u64 (bs q n), .int .i64 a] w fun x w' => x = .returned (.int .u64 (bs (cjq n zs e q a) n)) ∧ Below w.heap.size w w' := by
  have hn := hG.le
  have hg := hG.grp
  have hB0 : Below w.heap.size w (w.alloc (.cells #[.int .i64 n, v, .int .i64 e, u] 51)) := balloc w _
  have hX0 := Box4.new w n e v u
  obtain ⟨w0, hw0⟩ : ∃ w0, w0 = w.alloc (.cells #[.int .i64 n, v, .int .i64 e, u] 51) := ⟨_, rfl⟩
  rw [← hw0] at hB0 hX0
  have hT0 := hT.below hB0
  have HL := hide (list_ok n q w0 hn hT0)
  have HM := hide (fun x (h : x ∈ lst n q) => (mem_lst.1 h).1)
  have hll := lst_len n q
  show Calls Tryz.prog 67 _ w fun x w' => x = .returned (.int .u64 (bs (cjl n zs e (lst n q) a) n)) ∧ Below w.heap.size w w'
  generalize lst n q = xs at *
  go_enter Tryz.func67, Tryz.ntmps67
  go_wp2_with fail
  rw [← hw0]
  clear hw0
  refine HL.out.mono ?_
  rintro x w1 ⟨r, rfl, hr, hb1⟩
  obtain ⟨ra, rc, pb, po, rfl, hr, hp, hq3, hq4, _⟩ := hr
  rw [li_len] at hq3 ⊢
  have hB1 := bcat2 hB0 hb1
  have HR := hide hr
  have HLL := hide (li_len xs)
  clear hr hq4
  go_wp2
  go_loopw [7, 13] (fun s i wr => ∃ k : Nat, k ≤ xs.length ∧ i = .int .i64 k ∧ s = .int .u64 (bs (cjl n zs e (xs.take k) a) n) ∧ Below w1.heap.size w1 wr) (fun _ i _ => xs.length - (intOf i).toNat)
  case atStart => exact ⟨0, Nat.zero_le _, rfl, by rw [List.take_zero, show bs (cjl n zs e [] a) n = 0 from bs_none n]; rfl, Below.refl _ _⟩
  case round =>
    obtain ⟨k, hk, rfl, rfl, hB⟩ := hrel
    by_cases hlt : k < xs.length
    · have hck := (HR.out.below hB hp).cell k (by rw [HLL.out]; exact hlt)
      rw [li_get hlt] at hck
      obtain rfl := HR.out.at_ (by rw [HLL.out]; omega)
      obtain ⟨x, hxe⟩ : ∃ x, xs[k] = x := ⟨_, rfl⟩
      have hxn : x < n := by rw [← hxe]; exact HM.out _ (List.getElem_mem hlt)
      have hsn : xs.take (k + 1) = xs.take k ++ [x] := by rw [List.take_succ_eq_append_getElem hlt, hxe]
      rw [hxe] at hck
      have hGr := (hG.below hB1).below hB
      have hct : Fin.cj (tm n zs) (iv n zs e) x a < n := List.mem_range.1 (Fin.cj_mem (grp_fg hg) (grp_iv hg) (List.mem_range.2 hxn) (List.mem_range.2 ha))
      have hor := bs_put (n := n) (t := Fin.cj (tm n zs) (iv n zs e) x a) (p := cjl n zs e (xs.take k) a) (q := cjl n zs e (xs.take (k + 1)) a) hn (fun z => by
        unfold cjl
        rw [hsn, List.any_append]
        simp only [List.any_cons, List.any_nil, Bool.or_false]
        congr 1
        rw [Bool.eq_iff_iff, decide_eq_true_eq, decide_eq_true_eq]
        exact eq_comm)
      have HCM := hide (conj_ok n v u zs e x a wr hGr hxn ha)
      have HOF := hide (fun W b (h : W.cell? ⟨b, 0, none⟩ = some (.int .i64 (Fin.cj (tm n zs) (iv n zs e) x a))) => of_one n b (Fin.cj (tm n zs) (iv n zs e) x a) W hn hct h)
      obtain ⟨g0, g1, g2, g3⟩ := (hX0.below (bcat2 hb1 hB)).cells
      generalize Fin.cj (tm n zs) (iv n zs e) x a = t at *
      generalize bs (fun z => decide (z = t)) n = T9 at *
      clear hsn hxe
      go_wp2_with fail
      refine HCM.out.mono ?_
      rintro x9 w7 ⟨rfl, hb7⟩
      have hB8 := bcat2 hB (bcat2 hb7 (balloc w7 (.cells #[.int .i64 t] 3)))
      clear g0 g1 g2 g3
      go_wp2_with fail
      refine (HOF.out _ _ (cell1 _ _ _)).mono ?_
      rintro x9 w8 ⟨rfl, rfl⟩
      go_wp2
      go_roundw
      case rel => exact ⟨k + 1, by omega, by go_num, rfl, hB8⟩
      case measure => simp [intOf]; omega
    · have hkn : k = xs.length := by omega
      subst hkn
      rw [List.take_length]
      go_wp2
      go_ret
      exact ⟨rfl, bcat2 hB1 hB⟩
theorem und58 : Tryz.prog.underlying 55 = some (.int .u64) := by kernel_rfl
theorem key58 : Keyed Tryz.prog 55 := int_keyed und58
/-- A map whose keys are the conjugates of s by the things below k. -/
def Cjs (W : World) (n : Nat) (zs : List Int) (e M k : Nat) (s : Nat → Bool) : Prop :=
  ∃ D : DataW Unit, W.ownsMap Tryz.prog 55 unitElem M k D ∧ ∀ t : Nat, Maps.has D (.int .u64 t) = true ↔ ∃ a, a < k ∧ t = bs (cjq n zs e s a) n
theorem below_grown' {w w' : World} (h : Below w.heap.size w w') (row : Option Nat) : w.grownBy w' row := ⟨h.os, h.tape, h.output, h.size, fun b hb _ => h.block b hb⟩
theorem Cjs.below {W W' : World} {n e M k : Nat} {zs : List Int} {s : Nat → Bool} (h : Cjs W n zs e M k s) (hb : Below W.heap.size W W') : Cjs W' n zs e M k s := by
  obtain ⟨D, h1, h2⟩ := h
  exact ⟨D, h1.kept (below_grown' hb none) (by simp), h2⟩
end Go.Proofs.YtgejngpioldhpaaGreatDoor
