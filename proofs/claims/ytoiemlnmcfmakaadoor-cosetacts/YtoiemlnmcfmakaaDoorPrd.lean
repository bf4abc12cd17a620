/- Products of two subgroups, told by the laws' own searches; lists and their sets. -/
import Derived.Test.YtoiemlnmcfmakaaDoorRf2
import Derived.Test.YtoiemlnmcfmakaaDoorSqr
namespace Go.Proofs.YtoiemlnmcfmakaaDoor
open Go Go.RowKit

theorem mem_li {xs : List Nat} {a : Nat} : (a : Int) ∈ li xs ↔ a ∈ xs := by
  unfold li
  rw [List.mem_map]
  constructor
  · rintro ⟨x, hx, he⟩
    have : x = a := by omega
    rwa [← this]
  · intro h
    exact ⟨a, h, rfl⟩
theorem pset_lst {n : Nat} {p : Nat → Bool} {a : Nat} (ha : a < n) : pset (li (lst n p)) a = p a := by
  unfold pset
  rw [Bool.eq_iff_iff, decide_eq_true_eq, mem_li, mem_lst]
  simp [ha]
theorem lst_congr {n : Nat} {p q : Nat → Bool} (h : ∀ a, a < n → p a = q a) : lst n p = lst n q :=
  List.filter_congr fun a ha => h a (List.mem_range.1 ha)
theorem lst_pset (n : Nat) (p : Nat → Bool) : lst n (pset (li (lst n p))) = lst n p := lst_congr fun _ ha => pset_lst ha
/-- Nothing is wrong with a list of a set. -/
theorem lst_fault (n : Nat) (p : Nat → Bool) : lfault n (li (lst n p)) = (0, 0) := by
  refine lfault_ok (by rw [li_len]; exact lst_len n p) fun t ht => ?_
  rw [li_len] at ht
  have h0 := mem_lst.1 (List.getElem_mem ht)
  have h2 : rbad n (li (lst n p)) t = false := by unfold rbad; rw [li_get ht]; simp; omega
  have h3 : fbad (li (lst n p)) t = false := by
    unfold fbad
    rw [decide_eq_false_iff_not]
    rintro ⟨h4, h5⟩
    have h6 : t - 1 < (lst n p).length := by omega
    rw [li_get ht, li_get h6] at h5
    have h7 := List.pairwise_iff_getElem.1 (lst_rise n p) (t - 1) t h6 ht (by omega)
    omega
  rw [h2, h3]; rfl
theorem subT_congr {n e : Nat} {zs : List Int} {p q : Nat → Bool} (g : IsGrp n zs e) (h : ∀ a, a < n → p a = q a) : subT n zs e p = subT n zs e q := by
  rw [Bool.eq_iff_iff, subT_iff, subT_iff]
  constructor
  · rintro ⟨h1, h2⟩
    exact ⟨by rw [← h e g.elt]; exact h1, fun a b ha hb h3 h4 => by
      have ha' := List.mem_range.1 ha
      have hb' := List.mem_range.1 hb
      rw [← h _ (tm_lt g.tab ha' hb')]
      exact h2 a b ha hb (by rw [h a ha']; exact h3) (by rw [h b hb']; exact h4)⟩
  · rintro ⟨h1, h2⟩
    exact ⟨by rw [h e g.elt]; exact h1, fun a b ha hb h3 h4 => by
      have ha' := List.mem_range.1 ha
      have hb' := List.mem_range.1 hb
      rw [h _ (tm_lt g.tab ha' hb')]
      exact h2 a b ha hb (by rw [← h a ha']; exact h3) (by rw [← h b hb']; exact h4)⟩
/-- What is made, as a test, is a subgroup. -/
theorem made_sg {n e : Nat} {zs : List Int} {q p : Nat → Bool} (g : IsGrp n zs e) (hp : ∀ a, a < n → (p a = true ↔ Mkd n zs e q a)) : Fin.Sg (List.range n) (tm n zs) e (fun a => p a = true) := by
  have S := Fin.Gen.sg (l := List.range n) (m := tm n zs) (e := e) (fun x => q x = true)
  refine ⟨(hp e g.elt).2 S.one, fun a b ha hb h1 h2 => ?_⟩
  have ha' := List.mem_range.1 ha
  have hb' := List.mem_range.1 hb
  exact (hp _ (tm_lt g.tab ha' hb')).2 (S.mul a b ha hb ((hp a ha').1 h1) ((hp b hb').1 h2))
/-- The document's inverse. -/
theorem Iiv_ok (n a e : Nat) (v : Value) (zs : List Int) (w : World) (g : IsGrp n zs e) (hv : Sl w v zs) (ha : a < n) :
    Calls Tryd.prog 58 #[.agg #[.int .i64 n, v], .int .i64 a] w fun x w' => x = .returned (.int .i64 (iv n zs e a)) ∧ Below w.heap.size w w' := by
  have h := I_ok n a v zs w g.tab hv ha
  rw [invR_eq g.tab (by rw [g.one]; omega) (fun t ht => assB_iff.2 fun b c hb hc => g.ass t b c ht hb hc) ha, g.one, (iv_spec g ha).2.2.2] at h
  exact h
/-- Products of things of two lists. -/
def prq (n : Nat) (zs : List Int) (e : Nat) (xs ys : List Nat) (x : Nat) : Bool := xs.any fun a => decide (tm n zs (iv n zs e a) x ∈ ys)
theorem prq_iff {n e : Nat} {zs : List Int} {p q : Nat → Bool} (g : IsGrp n zs e) {x : Nat} (hx : x < n) : prq n zs e (lst n p) (lst n q) x = true ↔ ∃ a b, a ∈ List.range n ∧ b ∈ List.range n ∧ p a = true ∧ q b = true ∧ tm n zs a b = x := by
  unfold prq
  simp only [List.any_eq_true, decide_eq_true_eq, mem_lst]
  constructor
  · rintro ⟨a, ⟨ha, hpa⟩, hb, hqb⟩
    obtain ⟨h1, h2, _, _⟩ := iv_spec g ha
    exact ⟨a, _, List.mem_range.2 ha, List.mem_range.2 hb, hpa, hqb, by rw [← g.ass _ _ _ ha h1 hx, h2, g.left x hx]⟩
  · rintro ⟨a, b, ha, hb, hpa, hqb, rfl⟩
    have ha := List.mem_range.1 ha
    have hb := List.mem_range.1 hb
    obtain ⟨h1, _, h3, _⟩ := iv_spec g ha
    refine ⟨a, ⟨ha, hpa⟩, ?_⟩
    rw [← g.ass _ _ _ h1 ha hb, h3, g.left b hb]
    exact ⟨hb, hqb⟩

theorem call61 (a : Int) (x y z : Value) (W : World) : Sem.run Tryd.prog (callFunc 57 (#[.int .i64 a] ++ #[x, y, z])) W = .ok (.enter 57 (#[.int .i64 a] ++ #[x, y, z])) W := by kernel_rfl
set_option maxRecDepth 100000 in
set_option maxHeartbeats 2000000 in
theorem pcl61_ok (n e x ab bb gb : Nat) (v av bv : Value) (zs : List Int) (xs ys : List Nat) (w : World) (g : IsGrp n zs e) (hv : Sl w v zs) (hx : x < n) (hA : Boxed w ab 22 av) (hsA : Sl w av (li xs)) (hB : Boxed w bb 22 bv) (hsB : Sl w bv (li ys)) (hX : BoxG w gb n v) (hm : ∀ a, a ∈ xs → a < n) :
    Calls Tryd.prog 57 (#[.int .i64 x] ++ #[.pointer (some ⟨ab, 0, none⟩), .pointer (some ⟨bb, 0, none⟩), .pointer (some ⟨gb, 0, none⟩)]) w fun y w' => y = .returned (.bool (prq n zs e xs ys x)) ∧ Below w.heap.size w w' := by
  show Calls Tryd.prog 57 #[.int .i64 x, .pointer (some ⟨ab, 0, none⟩), .pointer (some ⟨bb, 0, none⟩), .pointer (some ⟨gb, 0, none⟩)] w _
  obtain ⟨aa, acap, apb, apo, rfl, hr, hp, hq3, hq4⟩ := hsA
  have hml : xs.length ≤ 9223372036854775807 := by rw [li_len] at hq3; unfold maxLen at hq4; omega
  rw [li_len] at *
  have HR := hide hr
  have HLL := hide (li_len xs)
  have HM9 := hide hm
  clear hr hq3 hq4 hm
  go_enter Tryd.func57, Tryd.ntmps57
  go_wp2
  go_loopw [6] (fun i wr => ∃ k : Nat, k ≤ xs.length ∧ i = .int .i64 k ∧ (∀ t, (ht : t < xs.length) → t < k → ¬ tm n zs (iv n zs e xs[t]) x ∈ ys) ∧ Below w.heap.size w wr) (fun i _ => xs.length - (intOf i).toNat)
  case atStart => exact ⟨0, Nat.zero_le _, rfl, fun t _ ht => by omega, Below.refl _ _⟩
  case round =>
    obtain ⟨k, hk, rfl, hno, hBw⟩ := hrel
    have HNO := hide hno
    clear hno
    have hAc := (Boxed.below hA hBw).cell
    by_cases hlt : k < xs.length
    · have hck := (HR.out.below hBw hp).cell k (by rw [HLL.out]; exact hlt)
      rw [li_get hlt] at hck
      obtain rfl := HR.out.at_ (by rw [HLL.out]; omega)
      obtain ⟨a, hae⟩ : ∃ a, xs[k] = a := ⟨_, rfl⟩
      have han : a < n := by rw [← hae]; exact HM9.out _ (List.getElem_mem hlt)
      rw [hae] at hck
      have HAE := hide hae
      clear hae
      have hvr := hv.below hBw
      obtain ⟨hin, _, _, _⟩ := iv_spec g han
      have HI := hide (fun W (h : Below wr.heap.size wr W) => Iiv_ok n a e v zs W g (hvr.below h) han)
      have HM := hide (fun W (h : Below wr.heap.size wr W) => M_ok n v zs (iv n zs e a) x W g.tab (hvr.below h) hin hx)
      have HH := hide (fun W (h : Below wr.heap.size wr W) => (rhas_ok bv (li ys) (tm n zs (iv n zs e a) x) W ((hsB.below hBw).below h)).mono (fun e9 w9 h9 => show e9 = .returned (.bool (decide (((tm n zs (iv n zs e a) x : Nat) : Int) ∈ li ys))) ∧ Below W.heap.size W w9 from ⟨h9.1, h9.2 ▸ Below.refl _ _⟩))
      have hBc := (Boxed.below hB hBw).cell
      obtain ⟨g0, g1, _, _⟩ := (blk_below hX hBw).two
      have hki : (k : Int) < (xs.length : Int) := by omega
      have hS : ∀ W, Below wr.heap.size wr W → (Below wr.heap.size wr W ∧ W.cell? ⟨ab, 0, none⟩ = some (.slice (some ⟨apb, apo, none⟩) xs.length acap) ∧ W.cell? ⟨bb, 0, none⟩ = some bv ∧ W.cell? ⟨gb, 0, none⟩ = some (.int .i64 n) ∧ W.cell? ⟨gb, 1, none⟩ = some v ∧ W.cell? ⟨apb, apo + k, none⟩ = some (.int .i64 a)) := fun W h => ⟨h, below_cell h hAc, below_cell h hBc, below_cell h g0, below_cell h g1, below_cell h hck⟩
      have hS0 := hS _ (bdrew (Below.refl _ wr))
      clear hck hBc g0 g1
      by_cases hin9 : tm n zs (iv n zs e a) x ∈ ys
      · rw [decide_eq_true (mem_li.2 hin9)] at HH
        have HD := hide (show prq n zs e xs ys x = true by
          unfold prq
          rw [List.any_eq_true]
          exact ⟨xs[k], List.getElem_mem hlt, by rw [HAE.out]; simpa using hin9⟩)
        generalize tm n zs (iv n zs e a) x = t at *
        generalize iv n zs e a = i at *
        go_wp2_with fail
        go_region_held3 (fun W => Below wr.heap.size wr W ∧ W.cell? ⟨ab, 0, none⟩ = some (.slice (some ⟨apb, apo, none⟩) xs.length acap) ∧ W.cell? ⟨bb, 0, none⟩ = some bv ∧ W.cell? ⟨gb, 0, none⟩ = some (.int .i64 n) ∧ W.cell? ⟨gb, 1, none⟩ = some v ∧ W.cell? ⟨apb, apo + k, none⟩ = some (.int .i64 a))
          (first | exact hS0 | assumption | exact hS _ (bcat2 (And.left ‹_›) hl1))
          (first
            | (go_at_call 58; refine (HI.out _ (And.left ‹_›)).mono ?_; rintro e1 W1 ⟨rfl, hl1⟩)
            | (go_at_call 31; refine (HM.out _ (And.left ‹_›)).mono ?_; rintro e2 W2 ⟨rfl, hl1⟩)
            | (go_at_call 53; refine (HH.out _ (And.left ‹_›)).mono ?_; rintro e3 W3 ⟨rfl, hl1⟩))
        all_goals (
          have hB9 := And.left ‹Below wr.heap.size wr W3 ∧ _›
          go_wp2
          go_ret
          exact ⟨by rw [HD.out]; rfl, bcat hBw hB9 hBw.size⟩)
      · rw [decide_eq_false (fun h => hin9 (mem_li.1 h))] at HH
        have HN := hide (show ∀ t, (ht : t < xs.length) → t < k + 1 → ¬ tm n zs (iv n zs e xs[t]) x ∈ ys from fun t h1 h2 => by
          by_cases e9 : t = k
          · subst e9; rw [HAE.out]; exact hin9
          · exact HNO.out t h1 (by omega))
        generalize tm n zs (iv n zs e a) x = t at *
        generalize iv n zs e a = i at *
        go_wp2_with fail
        go_region_held3 (fun W => Below wr.heap.size wr W ∧ W.cell? ⟨ab, 0, none⟩ = some (.slice (some ⟨apb, apo, none⟩) xs.length acap) ∧ W.cell? ⟨bb, 0, none⟩ = some bv ∧ W.cell? ⟨gb, 0, none⟩ = some (.int .i64 n) ∧ W.cell? ⟨gb, 1, none⟩ = some v ∧ W.cell? ⟨apb, apo + k, none⟩ = some (.int .i64 a))
          (first | exact hS0 | assumption | exact hS _ (bcat2 (And.left ‹_›) hl1))
          (first
            | (go_at_call 58; refine (HI.out _ (And.left ‹_›)).mono ?_; rintro e1 W1 ⟨rfl, hl1⟩)
            | (go_at_call 31; refine (HM.out _ (And.left ‹_›)).mono ?_; rintro e2 W2 ⟨rfl, hl1⟩)
            | (go_at_call 53; refine (HH.out _ (And.left ‹_›)).mono ?_; rintro e3 W3 ⟨rfl, hl1⟩))
        all_goals (
          have hB9 := And.left ‹Below wr.heap.size wr W3 ∧ _›
          go_wp2
          go_roundw
          case rel => exact ⟨k + 1, by omega, by go_num, HN.out, bcat hBw hB9 hBw.size⟩
          case measure => simp [intOf]; omega)
    · have HD := hide (show prq n zs e xs ys x = false by
        unfold prq
        rw [List.any_eq_false]
        intro z hz
        obtain ⟨t, ht, rfl⟩ := List.mem_iff_getElem.1 hz
        simpa using HNO.out t ht (by omega))
      go_wp2
      go_ret
      exact ⟨by rw [HD.out]; rfl, hBw⟩

theorem call66 (a : Int) (x y z : Value) (W : World) : Sem.run Tryd.prog (callFunc 62 (#[.int .i64 a] ++ #[x, y, z])) W = .ok (.enter 62 (#[.int .i64 a] ++ #[x, y, z])) W := by kernel_rfl
set_option maxRecDepth 100000 in
set_option maxHeartbeats 2000000 in
theorem pcl66_ok (n e x ab bb gb : Nat) (v av bv : Value) (zs : List Int) (xs ys : List Nat) (w : World) (g : IsGrp n zs e) (hv : Sl w v zs) (hx : x < n) (hA : Boxed w ab 22 av) (hsA : Sl w av (li xs)) (hB : Boxed w bb 22 bv) (hsB : Sl w bv (li ys)) (hX : BoxG w gb n v) (hm : ∀ a, a ∈ xs → a < n) :
    Calls Tryd.prog 62 (#[.int .i64 x] ++ #[.pointer (some ⟨ab, 0, none⟩), .pointer (some ⟨bb, 0, none⟩), .pointer (some ⟨gb, 0, none⟩)]) w fun y w' => y = .returned (.bool (prq n zs e xs ys x)) ∧ Below w.heap.size w w' := by
  show Calls Tryd.prog 62 #[.int .i64 x, .pointer (some ⟨ab, 0, none⟩), .pointer (some ⟨bb, 0, none⟩), .pointer (some ⟨gb, 0, none⟩)] w _
  obtain ⟨aa, acap, apb, apo, rfl, hr, hp, hq3, hq4⟩ := hsA
  have hml : xs.length ≤ 9223372036854775807 := by rw [li_len] at hq3; unfold maxLen at hq4; omega
  rw [li_len] at *
  have HR := hide hr
  have HLL := hide (li_len xs)
  have HM9 := hide hm
  clear hr hq3 hq4 hm
  go_enter Tryd.func62, Tryd.ntmps62
  go_wp2
  go_loopw [6] (fun i wr => ∃ k : Nat, k ≤ xs.length ∧ i = .int .i64 k ∧ (∀ t, (ht : t < xs.length) → t < k → ¬ tm n zs (iv n zs e xs[t]) x ∈ ys) ∧ Below w.heap.size w wr) (fun i _ => xs.length - (intOf i).toNat)
  case atStart => exact ⟨0, Nat.zero_le _, rfl, fun t _ ht => by omega, Below.refl _ _⟩
  case round =>
    obtain ⟨k, hk, rfl, hno, hBw⟩ := hrel
    have HNO := hide hno
    clear hno
    have hAc := (Boxed.below hA hBw).cell
    by_cases hlt : k < xs.length
    · have hck := (HR.out.below hBw hp).cell k (by rw [HLL.out]; exact hlt)
      rw [li_get hlt] at hck
      obtain rfl := HR.out.at_ (by rw [HLL.out]; omega)
      obtain ⟨a, hae⟩ : ∃ a, xs[k] = a := ⟨_, rfl⟩
      have han : a < n := by rw [← hae]; exact HM9.out _ (List.getElem_mem hlt)
      rw [hae] at hck
      have HAE := hide hae
      clear hae
      have hvr := hv.below hBw
      obtain ⟨hin, _, _, _⟩ := iv_spec g han
      have HI := hide (fun W (h : Below wr.heap.size wr W) => Iiv_ok n a e v zs W g (hvr.below h) han)
      have HM := hide (fun W (h : Below wr.heap.size wr W) => M_ok n v zs (iv n zs e a) x W g.tab (hvr.below h) hin hx)
      have HH := hide (fun W (h : Below wr.heap.size wr W) => (rhas_ok bv (li ys) (tm n zs (iv n zs e a) x) W ((hsB.below hBw).below h)).mono (fun e9 w9 h9 => show e9 = .returned (.bool (decide (((tm n zs (iv n zs e a) x : Nat) : Int) ∈ li ys))) ∧ Below W.heap.size W w9 from ⟨h9.1, h9.2 ▸ Below.refl _ _⟩))
      have hBc := (Boxed.below hB hBw).cell
      obtain ⟨g0, g1, _, _⟩ := (blk_below hX hBw).two
      have hki : (k : Int) < (xs.length : Int) := by omega
      have hS : ∀ W, Below wr.heap.size wr W → (Below wr.heap.size wr W ∧ W.cell? ⟨ab, 0, none⟩ = some (.slice (some ⟨apb, apo, none⟩) xs.length acap) ∧ W.cell? ⟨bb, 0, none⟩ = some bv ∧ W.cell? ⟨gb, 0, none⟩ = some (.int .i64 n) ∧ W.cell? ⟨gb, 1, none⟩ = some v ∧ W.cell? ⟨apb, apo + k, none⟩ = some (.int .i64 a)) := fun W h => ⟨h, below_cell h hAc, below_cell h hBc, below_cell h g0, below_cell h g1, below_cell h hck⟩
      have hS0 := hS _ (bdrew (Below.refl _ wr))
      clear hck hBc g0 g1
      by_cases hin9 : tm n zs (iv n zs e a) x ∈ ys
      · rw [decide_eq_true (mem_li.2 hin9)] at HH
        have HD := hide (show prq n zs e xs ys x = true by
          unfold prq
          rw [List.any_eq_true]
          exact ⟨xs[k], List.getElem_mem hlt, by rw [HAE.out]; simpa using hin9⟩)
        generalize tm n zs (iv n zs e a) x = t at *
        generalize iv n zs e a = i at *
        go_wp2_with fail
        go_region_held3 (fun W => Below wr.heap.size wr W ∧ W.cell? ⟨ab, 0, none⟩ = some (.slice (some ⟨apb, apo, none⟩) xs.length acap) ∧ W.cell? ⟨bb, 0, none⟩ = some bv ∧ W.cell? ⟨gb, 0, none⟩ = some (.int .i64 n) ∧ W.cell? ⟨gb, 1, none⟩ = some v ∧ W.cell? ⟨apb, apo + k, none⟩ = some (.int .i64 a))
          (first | exact hS0 | assumption | exact hS _ (bcat2 (And.left ‹_›) hl1))
          (first
            | (go_at_call 58; refine (HI.out _ (And.left ‹_›)).mono ?_; rintro e1 W1 ⟨rfl, hl1⟩)
            | (go_at_call 31; refine (HM.out _ (And.left ‹_›)).mono ?_; rintro e2 W2 ⟨rfl, hl1⟩)
            | (go_at_call 53; refine (HH.out _ (And.left ‹_›)).mono ?_; rintro e3 W3 ⟨rfl, hl1⟩))
        all_goals (
          have hB9 := And.left ‹Below wr.heap.size wr W3 ∧ _›
          go_wp2
          go_ret
          exact ⟨by rw [HD.out]; rfl, bcat hBw hB9 hBw.size⟩)
      · rw [decide_eq_false (fun h => hin9 (mem_li.1 h))] at HH
        have HN := hide (show ∀ t, (ht : t < xs.length) → t < k + 1 → ¬ tm n zs (iv n zs e xs[t]) x ∈ ys from fun t h1 h2 => by
          by_cases e9 : t = k
          · subst e9; rw [HAE.out]; exact hin9
          · exact HNO.out t h1 (by omega))
        generalize tm n zs (iv n zs e a) x = t at *
        generalize iv n zs e a = i at *
        go_wp2_with fail
        go_region_held3 (fun W => Below wr.heap.size wr W ∧ W.cell? ⟨ab, 0, none⟩ = some (.slice (some ⟨apb, apo, none⟩) xs.length acap) ∧ W.cell? ⟨bb, 0, none⟩ = some bv ∧ W.cell? ⟨gb, 0, none⟩ = some (.int .i64 n) ∧ W.cell? ⟨gb, 1, none⟩ = some v ∧ W.cell? ⟨apb, apo + k, none⟩ = some (.int .i64 a))
          (first | exact hS0 | assumption | exact hS _ (bcat2 (And.left ‹_›) hl1))
          (first
            | (go_at_call 58; refine (HI.out _ (And.left ‹_›)).mono ?_; rintro e1 W1 ⟨rfl, hl1⟩)
            | (go_at_call 31; refine (HM.out _ (And.left ‹_›)).mono ?_; rintro e2 W2 ⟨rfl, hl1⟩)
            | (go_at_call 53; refine (HH.out _ (And.left ‹_›)).mono ?_; rintro e3 W3 ⟨rfl, hl1⟩))
        all_goals (
          have hB9 := And.left ‹Below wr.heap.size wr W3 ∧ _›
          go_wp2
          go_roundw
          case rel => exact ⟨k + 1, by omega, by go_num, HN.out, bcat hBw hB9 hBw.size⟩
          case measure => simp [intOf]; omega)
    · have HD := hide (show prq n zs e xs ys x = false by
        unfold prq
        rw [List.any_eq_false]
        intro z hz
        obtain ⟨t, ht, rfl⟩ := List.mem_iff_getElem.1 hz
        simpa using HNO.out t ht (by omega))
      go_wp2
      go_ret
      exact ⟨by rw [HD.out]; rfl, hBw⟩

end Go.Proofs.YtoiemlnmcfmakaaDoor
