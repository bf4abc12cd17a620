/- What the iterator of beads' lyndons tells: how many Lyndon words there are of as many numbers as each divisor says. -/
import Derived.Test.YtojnjfkonaeegaaDoorDvi
import Derived.Test.YtojnjfkonaeegaaDoorLym
namespace Go.Proofs.YtojnjfkonaeegaaDoor
open Go Go.RowKit
open YtojnjfkonaeegaaDoorQ (UN plus_ok minus_ok divq_ok of_any timesPlus_any decimal_any Tab UN.below UN.mono UN.nil us owns_mono)

attribute [local go_sem] Oper.semAt_some

theorem dvf_ge {n : Nat} : ∀ (k d : Nat), ∀ e ∈ dvf n k d, d ≤ e
  | 0, d, e, h => by simp [dvf] at h
  | k + 1, d, e, h => by
    by_cases hd : n % d = 0
    · rw [dvf_hit hd] at h
      rcases List.mem_cons.1 h with rfl | h
      · exact Nat.le_refl _
      · have := dvf_ge k (d + 1) e h; omega
    · rw [dvf_miss hd] at h
      have := dvf_ge k (d + 1) e h; omega
theorem dvf_le {n : Nat} : ∀ (k d : Nat), ∀ e ∈ dvf n k d, e < d + k
  | 0, d, e, h => by simp [dvf] at h
  | k + 1, d, e, h => by
    by_cases hd : n % d = 0
    · rw [dvf_hit hd] at h
      rcases List.mem_cons.1 h with rfl | h
      · omega
      · have := dvf_le k (d + 1) e h; omega
    · rw [dvf_miss hd] at h
      have := dvf_le k (d + 1) e h; omega
theorem dvf_len {n : Nat} : ∀ (k d : Nat), (dvf n k d).length ≤ k
  | 0, d => by simp [dvf]
  | k + 1, d => by
    have := dvf_len (n := n) k (d + 1)
    by_cases hd : n % d = 0
    · rw [dvf_hit hd, List.length_cons]; omega
    · rw [dvf_miss hd]; omega
theorem dvf_rise {n : Nat} : ∀ (k d : Nat), (dvf n k d).Pairwise (· < ·)
  | 0, d => by simp [dvf]
  | k + 1, d => by
    by_cases hd : n % d = 0
    · rw [dvf_hit hd]
      exact List.pairwise_cons.2 ⟨fun e he => by have := dvf_ge k (d + 1) e he; omega, dvf_rise k (d + 1)⟩
    · rw [dvf_miss hd]; exact dvf_rise k (d + 1)
theorem dvs_ris {n : Nat} {pre : List Nat} {d : Nat} {post : List Nat} (h : pre ++ d :: post = dvs n) : Ris pre d ∧ 0 < d ∧ d ≤ n := by
  have hr : (pre ++ d :: post).Pairwise (· < ·) := by rw [h]; exact dvf_rise n 1
  have hd : d ∈ dvs n := by rw [← h]; simp
  have h1 := dvf_ge n 1 d hd
  have h2 := dvf_le n 1 d hd
  obtain ⟨n', rfl⟩ : ∃ n', n = n' + 1 := ⟨n - 1, by omega⟩
  have ho : dvs (n' + 1) = 1 :: dvf (n' + 1) n' 2 := dvf_hit (Nat.mod_one _)
  refine ⟨⟨(List.pairwise_append.1 hr).1, fun x hx => (List.pairwise_append.1 hr).2.2 x hx d (by simp), ?_⟩, by omega, by omega⟩
  cases pre with
  | nil => exact .inl rfl
  | cons a r => rw [ho] at h; simp at h; exact .inr ⟨r, by rw [h.1]⟩

/-- A block of parts of numbers: nobody writes to it again. -/
def U64 (W : World) (b : Nat) : Prop := ∃ c fz, W.heap[b]? = some (.cells c 89 fz)
/-- What the iterator may change. -/
def CL (s : Nat) (W : World) (b : Nat) : Prop := s ≤ b ∧ ¬U64 W b
theorem UN.chg {C : World → Nat → Prop} {W W' : World} {B n k : Nat} {v : Value} (h : UN W B v n k) (hb : Chg C W W') (hC : ∀ b, U64 W b → ¬C W b) : UN W' B v n k := by
  obtain ⟨ps, h1, h2⟩ := h
  refine ⟨ps, ⟨h1.1, ?_⟩, h2⟩
  rcases h1.2 with h3 | ⟨g, cap, cur, hv, hge, hh, rest⟩
  · exact .inl h3
  · exact .inr ⟨g, cap, cur, hv, hge, (hb.block g (Array.getElem?_eq_some_iff.1 hh).1 (hC g ⟨_, _, hh⟩)).trans hh, rest⟩
theorem chg_set {W : World} {s b : Nat} {t : TypeId} {u : Value} (h : Boxed W b t u) (ht : t ≠ 89) (hs : s ≤ b) (x : Value) : Chg (CL s) W (W.setCell ⟨b, 0, none⟩ x) := by
  refine ⟨rfl, rfl, rfl, by rw [size_set]; omega, fun k _ hn => Below.heap_setCell _ _ _ k (fun e => hn ?_)⟩
  simp only at e
  subst e
  refine ⟨hs, ?_⟩
  rintro ⟨c, fz, hc⟩
  rw [show W.heap[k]? = _ from h] at hc
  simp at hc
  exact ht hc.2.1

/-- A row of sizes and numbers. -/
def tcs (ts : List (Nat × Nat × Value)) : List Value := ts.flatMap fun t => [.int .i64 (t.1 : Int), t.2.2]
def Ah (W : World) (s : Nat) (v : Value) (ah : List (Nat × Nat)) : Prop :=
  ∃ ts : List (Nat × Nat × Value), ts.map (fun t => (t.1, t.2.1)) = ah ∧ W.ownsRow s 109 2 v ts.length (tcs ts) ∧ ∀ t ∈ ts, UN W s t.2.2 t.2.1 3000
theorem Ah.nil (W : World) (s : Nat) : Ah W s (.slice none 0 0) [] := ⟨[], rfl, World.ownsRow_nil _ _ _ _, by simp⟩
theorem own_keep {W W' : World} {B n z : Nat} {e : TypeId} {v : Value} {xs : List Value} (h : W.ownsRow B e z v n xs) (hb : ∀ b, B ≤ b → b < W.heap.size → (∃ c, W.heap[b]? = some (.cells c e (0, 0))) → W'.heap[b]? = W.heap[b]?) : W'.ownsRow B e z v n xs := by
  refine ⟨h.1, ?_⟩
  rcases h.2 with h2 | ⟨g, cap, cur, hv, hge, hh, rest⟩
  · exact .inl h2
  · exact .inr ⟨g, cap, cur, hv, hge, (hb g hge (Array.getElem?_eq_some_iff.1 hh).1 ⟨_, hh⟩).trans hh, rest⟩
theorem owns_ge2 {W : World} {B n z : Nat} {e : TypeId} {v : Value} {xs : List Value} (h : W.ownsRow B e z v n xs) : ∀ j, v.ownBlock = some j → B ≤ j ∧ ∃ c, W.heap[j]? = some (.cells c e (0, 0)) := by
  intro j hj
  rcases h.2 with ⟨rfl, _⟩ | ⟨g, cap, cur, rfl, hg, hh, _⟩
  · simp [Value.ownBlock] at hj
  · simp [Value.ownBlock] at hj; subst hj; exact ⟨hg, _, hh⟩
theorem UN.keep {W W' : World} {B n k : Nat} {v : Value} (h : UN W B v n k) (hb : ∀ b, B ≤ b → b < W.heap.size → (∃ c, W.heap[b]? = some (.cells c 89 (0, 0))) → W'.heap[b]? = W.heap[b]?) : UN W' B v n k := by
  obtain ⟨ps, h1, h2⟩ := h
  exact ⟨ps, own_keep h1 hb, h2⟩
theorem Ah.keep {W W' : World} {s : Nat} {v : Value} {ah : List (Nat × Nat)} (h : Ah W s v ah) (hb : ∀ b, s ≤ b → b < W.heap.size → (∃ c, W.heap[b]? = some (.cells c 109 (0, 0)) ∨ W.heap[b]? = some (.cells c 89 (0, 0))) → W'.heap[b]? = W.heap[b]?) : Ah W' s v ah := by
  obtain ⟨ts, h1, h2, h3⟩ := h
  exact ⟨ts, h1, own_keep h2 (fun b b1 b2 ⟨c, hc⟩ => hb b b1 b2 ⟨c, .inl hc⟩), fun t ht => UN.keep (h3 t ht) (fun b b1 b2 ⟨c, hc⟩ => hb b b1 b2 ⟨c, .inr hc⟩)⟩

theorem info109 : (Tryd.prog.info? 109).map (fun i => (i.zero, i.size, i.bytes)) = some (some (.agg #[.int .i64 0, .slice none 0 0]), 2, 32) := by kernel_rfl
theorem under104 : Tryd.prog.underlying 104 = some (.slice 109) := by kernel_rfl
theorem lyndons_ok (n k : Nat) (w : World) :
    Calls Tryd.prog 49 #[.int .i64 n, .int .i64 k] w fun e w' => e = .returned (.func (.func 73) #[] #[.pointer (some ⟨w.heap.size, 0, none⟩), .pointer (some ⟨w.heap.size + 1, 0, none⟩)]) ∧ w' = (w.alloc (.cells #[.int .i64 n] 3)).alloc (.cells #[.int .i64 k] 3) := by
  go_enter Tryd.func49, Tryd.ntmps49
  go_wp2
  go_ret
  exact ⟨rfl, rfl⟩

/-- What is told: how many Lyndon words. -/
def lyw (k : Nat) (pre : List Nat) : List Nat := (ahd k pre).map fun s => s.2 / s.1
theorem lyw_snoc (k : Nat) (pre : List Nat) (d : Nat) : lyw k (pre ++ [d]) = lyw k pre ++ [lef k d (ahd k pre) / d] := by simp [lyw, ahd_snoc]

/-- What stands within a round of the iterator. -/
structure LS (Jw : World → Prop) (s n l : Nat) (v : Value) (ah : List (Nat × Nat)) (Wb W : World) : Prop where
  j : Jw W
  y : Boxed W s 103 (.func (.yield l) #[] #[])
  vb : Boxed W (s + 1) 104 v
  a : Ah W (s + 5) v ah
  x : Boxed W (s + 2) 3 (.int .i64 n)
  big : s + 5 ≤ Wb.heap.size
  size : Wb.heap.size ≤ W.heap.size
  d3 : W.heap[s + 3]? = Wb.heap[s + 3]?
  d4 : W.heap[s + 4]? = Wb.heap[s + 4]?
  st : ∀ W1 W2, Jw W1 → Chg (CL s) W1 W2 → Jw W2
theorem LS.below {Jw : World → Prop} {s n l : Nat} {v : Value} {ah : List (Nat × Nat)} {Wb W W' : World} (h : LS Jw s n l v ah Wb W) (hb : Below W.heap.size W W') : LS Jw s n l v ah Wb W' := by
  have h1 := h.big
  have h2 := h.size
  exact ⟨h.st _ _ h.j (Chg.of_below hb), Boxed.below h.y hb, Boxed.below h.vb hb, h.a.keep (fun b _ b2 _ => hb.block b b2), Boxed.below h.x hb, h1, by have := hb.size; omega,
    (hb.block _ (by omega)).trans h.d3, (hb.block _ (by omega)).trans h.d4, h.st⟩
theorem LS.set {Jw : World → Prop} {s n l : Nat} {v : Value} {ah : List (Nat × Nat)} {Wb W : World} (h : LS Jw s n l v ah Wb W) {b : Nat} {t : TypeId} {u : Value} (hb : Boxed W b t u) (h9 : t ≠ 89) (h10 : t ≠ 109) (hs : s + 5 ≤ b) (x : Value) : LS Jw s n l v ah Wb (W.setCell ⟨b, 0, none⟩ x) := by
  have e : ∀ k, k ≠ b → (W.setCell ⟨b, 0, none⟩ x).heap[k]? = W.heap[k]? := fun k hk => Below.heap_setCell _ _ _ k hk
  refine ⟨h.st _ _ h.j (chg_set hb h9 (by omega) x), (e _ (by omega)).trans h.y, (e _ (by omega)).trans h.vb, h.a.keep (fun k _ _ ⟨c, hc⟩ => e k (fun h0 => ?_)), (e _ (by omega)).trans h.x, h.big, by rw [size_set]; exact h.size, (e _ (by omega)).trans h.d3, (e _ (by omega)).trans h.d4, h.st⟩
  rw [h0, show W.heap[b]? = _ from hb] at hc
  rcases hc with hc | hc
  · simp at hc; exact h10 hc.2
  · simp at hc; exact h9 hc.2

theorem tcs_get {ts : List (Nat × Nat × Value)} {j : Nat} (hj : j < ts.length) : (tcs ts)[j * 2]? = some (.int .i64 ((ts[j].1 : Nat) : Int)) ∧ (tcs ts)[j * 2 + 1]? = some ts[j].2.2 := by
  induction ts generalizing j with
  | nil => simp at hj
  | cons t r ih =>
    cases j with
    | zero => simp [tcs]
    | succ j =>
      have := ih (j := j) (by simpa using hj)
      simp only [tcs, List.flatMap_cons, List.getElem_cons_succ] at this ⊢
      rw [show (j + 1) * 2 = j * 2 + 1 + 1 by omega]
      simpa using this
/-- The thing at j. -/
theorem Ah.at {W : World} {s : Nat} {v : Value} {ah : List (Nat × Nat)} (h : Ah W s v ah) : ∃ g cap m, v = .slice (if 0 < ah.length then some ⟨g, 0, none⟩ else m) ah.length cap ∧
    ∀ (j : Nat) (hj : j < ah.length), ∃ u, W.cell? ⟨g, j * 2, none⟩ = some (.int .i64 ((ah[j].1 : Nat) : Int)) ∧ W.cell? ⟨g, j * 2 + 1, none⟩ = some u ∧ UN W s u ah[j].2 3000 := by
  obtain ⟨ts, rfl, h2, h3⟩ := h
  rcases id h2.2 with ⟨rfl, h0⟩ | ⟨g, cap, cur, rfl, _⟩
  · refine ⟨0, 0, none, by simp [h0], fun j hj => ?_⟩
    simp at hj; omega
  · by_cases h0 : 0 < ts.length
    · refine ⟨g, cap, none, by simp [h0], fun j hj => ?_⟩
      simp only [List.length_map] at hj
      have c1 := h2.cells (g := g) rfl (j * 2) _ (tcs_get hj).1
      have c2 := h2.cells (g := g) rfl (j * 2 + 1) _ (tcs_get hj).2
      rw [show ∀ k, (⟨g, 0, none⟩ : Addr).add k = ⟨g, k, none⟩ from fun k => by unfold Addr.add; split <;> simp_all] at c1 c2
      refine ⟨ts[j].2.2, by simpa using c1, c2, by simpa using h3 _ (List.getElem_mem hj)⟩
    · refine ⟨g, cap, some ⟨g, 0, none⟩, by simp [h0], fun j hj => ?_⟩
      simp only [List.length_map] at hj; omega

theorem lyw_more (k : Nat) (a b : List Nat) : ∃ rest, lyw k (a ++ b) = lyw k a ++ rest := by
  induction b using snoc_ind with
  | h0 => exact ⟨[], by simp⟩
  | h1 l x ih =>
    obtain ⟨r, hr⟩ := ih
    exact ⟨r ++ [lef k x (ahd k (a ++ l)) / x], by rw [← List.append_assoc, lyw_snoc, hr, List.append_assoc]⟩

set_option maxRecDepth 100000 in
set_option maxHeartbeats 8000000 in
theorem lyndons_it (bn bk n k : Nat) (hn : n ≤ 1000) (hk0 : 0 < k) (hk : k ≤ 1000) :
    ItLaw 73 #[.pointer (some ⟨bn, 0, none⟩), .pointer (some ⟨bk, 0, none⟩)] (lyw k (dvs n)) (fun _ x args W => ∃ v, args = #[.agg #[v]] ∧ UN W 0 v x 3000) (fun W => Boxed W bn 3 (.int .i64 n) ∧ Boxed W bk 3 (.int .i64 k)) CL (fun s b => s ≤ b) := by
  intro l J W hF hJ h0 hY
  obtain ⟨hbn, hbk⟩ := hF _ _ h0
  obtain ⟨s, hs⟩ : ∃ s, W.heap.size = s := ⟨_, rfl⟩
  rw [hs] at hJ hY
  refine (callsIn_wide (n := 9)).1 ?_
  refine callsIn_of_wp_marks Tryd.func73 rfl trivial ?_ rfl
  simp only [Tryd.ntmps73, List.size_toArray, List.length_cons, List.length_nil, Nat.reduceAdd, Nat.reduceSub, Array.replicate_succ, Array.replicate_zero, List.push_toArray, List.append_toArray, List.nil_append, List.cons_append]
  have hcn := hbn.cell
  have hlbn := hbn.lt
  have hlbk := hbk.lt
  have HS := hide hs
  clear hs
  gi_wp2_with fail
  refine ⟨trivial, ?_⟩
  refine (callsIn_wide.2 (divisors_ok _ _)).mono ?_
  rintro e w4 ⟨rfl, hw4⟩
  simp only [World.size_alloc] at hw4 ⊢
  rw [HS.out]
  have hY4 : Boxed w4 s 103 (.func (.yield l) #[] #[]) := by
    rw [hw4]
    have := Boxed.new W 103 (.func (.yield l) #[] #[])
    rw [HS.out] at this; exact (this.alloc _).alloc _
  have hV4 : Boxed w4 (s + 1) 104 (.slice none 0 0) := by
    rw [hw4]
    have := Boxed.new (W.alloc (.cells #[.func (.yield l) #[] #[]] 103)) 104 (.slice none 0 0)
    rw [World.size_alloc, HS.out] at this; exact this.alloc _
  have hX4 : Boxed w4 (s + 2) 3 (.int .i64 n) := by
    rw [hw4]
    have := Boxed.new ((W.alloc (.cells #[.func (.yield l) #[] #[]] 103)).alloc (.cells #[.slice none 0 0] 104)) 3 (.int .i64 n)
    rw [World.size_alloc, World.size_alloc, HS.out] at this; exact this
  have hB4 : Below W.heap.size W w4 := by rw [hw4]; exact (((Below.refl _ W).alloc (Nat.le_refl _) _).alloc (by simp) _).alloc (by simp; omega) _
  have hJ4 : J [] w4 := hJ _ _ _ h0 (Chg.of_below hB4)
  have hs4 : w4.heap.size = s + 3 := by rw [hw4]; simp [HS.out]
  have HS4 := hide hs4
  clear hw4 hs4 hcn
  gi_wp2_with fail
  refine range_it (div_it (s + 2) n (by omega))
    (fun pre W => J (lyw k pre) W ∧ Boxed W s 103 (.func (.yield l) #[] #[]) ∧ (∃ v, Boxed W (s + 1) 104 v ∧ Ah W (s + 5) v (ahd k pre)) ∧ Boxed W (s + 2) 3 (.int .i64 n) ∧ s + 3 ≤ W.heap.size)
    (fun _ _ _ h => h.elim) (fun _ _ h => h.elim) rfl (enters_of Tryd.func91 (by kernel_rfl) rfl) (by decide) (by rintro _ q _ _ rfl; rfl) ?hF ?hJ ?h0 ?body ?fin
  case hF =>
    rintro pre W ⟨_, _, _, h5, _⟩
    exact h5
  case hJ =>
    rintro pre W W' ⟨h1, h2, ⟨v, h3, h4⟩, h5, h6⟩ hsz hbt ⟨r, hr⟩
    have hs := HS4.out
    have e : ∀ b, b ≠ s + 4 → b < W.heap.size → W'.heap[b]? = W.heap[b]? := fun b hb hb2 => hbt.block b hb2 (by simp; omega)
    have ec : ∀ b c t, b < W.heap.size → W.heap[b]? = some (.cells c t (0, 0)) → W'.heap[b]? = W.heap[b]? := fun b c t hb hc => e b (fun h0 => by rw [h0, ← show w4.heap.size + 1 = s + 4 by omega, hr] at hc; cases hc) hb
    refine ⟨hJ _ _ _ h1 (hbt.mono ?_), (e _ (by omega) h2.lt).trans h2, ⟨v, (e _ (by omega) h3.lt).trans h3, h4.keep (fun b _ b2 ⟨c, hc⟩ => by rcases hc with hc | hc <;> exact ec b c _ b2 hc)⟩, (e _ (by omega) h5.lt).trans h5, by omega⟩
    rintro b (hb | hb)
    · refine ⟨by omega, ?_⟩
      rintro ⟨c, fz, hc⟩
      rw [hb, hr] at hc; cases hc
    · exact hb.elim
  case h0 =>
    intro W' hb
    have hs := HS4.out
    exact ⟨hJ _ _ _ hJ4 (Chg.of_below hb), Boxed.below hY4 hb, ⟨_, Boxed.below hV4 hb, Ah.nil _ _⟩, Boxed.below hX4 hb, by have := hb.size; omega⟩
  case body =>
    rintro pre d post W0 _ hpq hJJ rfl hsz
    gi_wp2
    refine ⟨Below.refl _ _, ?_⟩
    rintro Wb ⟨h1, h2, ⟨v, h3, h4⟩, h5, h6⟩ hszb _ _
    obtain ⟨hris, hd0, hdn⟩ := dvs_ris hpq
    have htot := tot_le hk0 pre d hris
    obtain ⟨_, hbk2⟩ := hF _ _ h1
    have hck := hbk2.cell
    have hLS : LS (J (lyw k pre)) s n l v (ahd k pre) Wb Wb := ⟨h1, h2, h3, h4, h5, by have := HS4.out; omega, Nat.le_refl _, rfl, rfl, fun W1 W2 a b => hJ _ _ _ a b⟩
    have HT := hide htot
    have HR := hide hris
    have HPQ := hide hpq
    clear h1 h2 h3 h4 h5 hbk2 htot hris hpq
    gi_wp2_with fail
    refine ⟨trivial, rfl, ?_⟩
    refine (CallsIn.inRound _ (callsIn_wide.2 (power_ok k d Wb hk (by omega)))).mono ?_
    rintro e w5 ⟨vl, rfl, hU5, hb5⟩
    have hLS5 := hLS.below hb5
    obtain ⟨al, ml, cl, rfl⟩ := UN.blk hU5
    have hLS6 := hLS5.below (balloc w5 (.cells #[.slice al ml cl] 60))
    have hX6 := Boxed.new w5 60 (.slice al ml cl)
    have hU6 := (hU5.below (balloc w5 (.cells #[.slice al ml cl] 60))).mono (B' := s + 5) (k' := 3000) (by have := hLS.big; omega) (by omega)
    have hsz6 : Wb.heap.size ≤ w5.heap.size := hb5.size
    obtain ⟨lb, hlb⟩ : ∃ lb, w5.heap.size = lb := ⟨_, rfl⟩
    have hlbs : s + 5 ≤ lb := by have := hLS.big; omega
    have hck6 := hLS6.vb.cell
    have hsz7 : s + 5 ≤ w5.heap.size := by omega
    obtain ⟨g, cap, m, hve, hat⟩ := hLS6.a.at
    clear hat
    generalize hP : (if 0 < (ahd k pre).length then some (⟨g, 0, none⟩ : Addr) else m) = ptr at hve
    subst hve
    have hlen : (ahd k pre).length ≤ 1000 := by
      have h8 := dvf_len (n := n) n 1
      have h9 : (pre ++ d :: post).length = (dvf n n 1).length := by rw [HPQ.out]; rfl
      rw [ahd_len]
      simp at h9; omega
    clear hLS5 hU5 hb5
    have hst0 : UN (w5.alloc (.cells #[.slice al ml cl] 60)) (s + 5) (.slice al ml cl) (lef k d ((ahd k pre).take 0)) 3000 := by simpa [lef] using hU6
    rw [hlb] at hX6
    gi_wp2
    gi_loopw [19] (fun i wr => ∃ (j : Nat) (vl : Value), i = .int .i64 j ∧ j ≤ (ahd k pre).length ∧ LS (J (lyw k pre)) s n l (.slice ptr (ahd k pre).length cap) (ahd k pre) Wb wr ∧ Boxed wr lb 60 vl ∧ UN wr (s + 5) vl (lef k d ((ahd k pre).take j)) 3000 ∧ lb < wr.heap.size)
      (fun i _ => (ahd k pre).length - (intOf i).toNat)
    case atStart => exact ⟨0, _, rfl, Nat.zero_le _, hLS6, hX6, hst0, by simp; omega⟩
    case round =>
      obtain ⟨j, vl, rfl, hj, hLSr, hXr, hUr, hlbr⟩ := hrel
      clear hX6 hst0 hU6 hLS6 hck6
      by_cases hlt : j < (ahd k pre).length
      · obtain ⟨g2, cap2, m2, hve2, hat2⟩ := hLSr.a.at
        rw [if_pos (by omega)] at hve2
        obtain ⟨u, c1, c2, hUu⟩ := hat2 j hlt
        injection hve2 with hp1 _ hp3
        subst hp1
        subst hp3
        clear hat2
        have hspl : ahd k pre = (ahd k pre).take j ++ (ahd k pre)[j] :: (ahd k pre).drop (j + 1) := by
          rw [← List.drop_eq_getElem_cons hlt, List.take_append_drop]
        have hroom : (ahd k pre)[j].2 ≤ lef k d ((ahd k pre).take j) := by
          refine lef_room (b := (ahd k pre).drop (j + 1)) ?_
          rw [← hspl]; exact HT.out
        have hnext : lef k d ((ahd k pre).take (j + 1)) = if d % (ahd k pre)[j].1 = 0 then lef k d ((ahd k pre).take j) - (ahd k pre)[j].2 else lef k d ((ahd k pre).take j) := by
          rw [List.take_succ_eq_append_getElem hlt, lef_snoc]
        have hem : (ahd k pre)[j].1 ∈ pre := by
          have h9 : (ahd k pre)[j].1 ∈ (ahd k pre).map (·.1) := List.mem_map_of_mem (List.getElem_mem hlt)
          rwa [ahd_fst] at h9
        have hel := HR.out.low _ hem
        have he0 : 0 < (ahd k pre)[j].1 := by
          have h9 : (ahd k pre)[j].1 ∈ dvf n n 1 := by rw [show dvf n n 1 = dvs n from rfl, ← HPQ.out]; exact List.mem_append_left _ hem
          exact dvf_ge n 1 _ h9
        clear hem hspl
        generalize (ahd k pre)[j].1 = e at *
        generalize (ahd k pre)[j].2 = x at *
        have hnz : ¬ (e : Int) = 0 := by omega
        have hnz2 : ¬ e = 0 := by omega
        have hrm := Int.tmod_eq_emod_of_nonneg (a := (d : Int)) (b := (e : Int)) (by omega)
        rw [← Int.natCast_emod] at hrm
        obtain ⟨r, hre⟩ : ∃ r, d % e = r := ⟨_, rfl⟩
        rw [hre] at hrm hnext
        have hrl : r < e := by rw [← hre]; exact Nat.mod_lt _ he0
        obtain ⟨au, mu, cu, rfl⟩ := UN.blk hUu
        obtain ⟨av, mv, cv, rfl⟩ := UN.blk hUr
        have hLSq := hLSr.below (balloc wr (.cells #[.int .i64 (e : Int), .slice au mu cu] 109))
        have hXq := Boxed.below hXr (balloc wr (.cells #[.int .i64 (e : Int), .slice au mu cu] 109))
        have hUq := hUr.below (balloc wr (.cells #[.int .i64 (e : Int), .slice au mu cu] 109))
        have hVq := hUu.below (balloc wr (.cells #[.int .i64 (e : Int), .slice au mu cu] 109))
        have hcq := hXq.cell
        by_cases hr0 : r = 0
        · subst hr0
          rw [if_pos rfl] at hnext
          have HN := hide hnext
          have HM := hide (minus_ok _ _ _ _ _ _ _ (hUq.mono (Nat.zero_le _) (Nat.le_refl _)) (hVq.mono (Nat.zero_le _) (Nat.le_refl _)) (by omega) hroom)
          clear hnext hre hroom hLSr hXr hUr hUu
          gi_wp2_with fail
          refine ⟨trivial, rfl, ?_⟩
          refine (CallsIn.inRound _ (callsIn_wide.2 HM.out)).mono ?_
          rintro e8 w8 ⟨v8, rfl, hU8, hb8⟩
          have hLS8 := hLSq.below hb8
          have hX8 := Boxed.below hXq hb8
          obtain ⟨a8, m8, c8, rfl⟩ := UN.blk hU8
          have hU9 := UN.set hU8 hX8 (by decide) (.slice a8 m8 c8)
          have hLS9 := hLS8.set hX8 (by decide) (by decide) hlbs (.slice a8 m8 c8)
          have hX9 := hX8.set (.slice a8 m8 c8)
          have hc8 := hX8.cell
          have hf8 := hX8.frozen
          have hU9' := hU9.mono (B' := s + 5) (k' := 3000) (by simp; omega) (Nat.le_refl _)
          rw [← HN.out] at hU9'
          have hlb8 : lb < w8.heap.size := hX8.lt
          clear hLSq hXq hUq hVq hcq HM hU8 hb8 hU9 c1 c2
          gi_wp2
          go_roundw
          case rel => exact ⟨j + 1, _, by go_num, by omega, hLS9, hX9, hU9', by simpa using hlb8⟩
          case measure => simp [intOf]; omega
        · have hrb : ((r : Int) == 0) = false := by simp; omega
          rw [if_neg hr0] at hnext
          rw [← hnext] at hUq
          clear hnext hre hroom hLSr hXr hUr hUu
          gi_wp2
          go_roundw
          case rel => exact ⟨j + 1, _, by go_num, by omega, hLSq, hXq, hUq, by simp; omega⟩
          case measure => simp [intOf]; omega
      · have hje : j = (ahd k pre).length := by omega
        rw [hje, List.take_length] at hUr
        obtain ⟨i9, hi9, hz9, hz8, hz7⟩ := info_parts info109
        obtain ⟨av, mv, cv, rfl⟩ := UN.blk hUr
        have hcv := hLSr.vb.cell
        have hcx := hXr.cell
        obtain ⟨ts, hts, how, hun⟩ := hLSr.a
        have htl : ts.length = (ahd k pre).length := by rw [← hts, List.length_map]
        rw [htl] at how
        generalize hvv : Value.slice ptr (ahd k pre).length cap = vv at *
        have hdd : (k : Int) = k := rfl
        clear hdd
        gi_wp2_with (first
          | (gi_at_builtin; refine wpListIn_append_own _ rfl _ _ 104 rfl (s + 5) 109 i9 (.agg #[.int .i64 0, .slice none 0 0]) 2 32 under104 hi9 hz9 hz8 hz7 rfl (by decide) _ _ _ rfl (how.alloc _) ⟨wr.heap.size, 0, none⟩ 1 1 [.int .i64 (d : Int), .slice av mv cv] rfl rfl ?c1 ?c2 ?c3 ?c4 ?c5 ?_))
        case c1 =>
          intro q u hq
          have hb : Blk (wr.alloc (.cells #[.int .i64 (d : Int), .slice av mv cv] 109)) wr.heap.size 109 [.int .i64 (d : Int), .slice av mv cv] := World.alloc_heap_new wr _
          rw [show (⟨wr.heap.size, 0, none⟩ : Addr).add q = ⟨wr.heap.size, q, none⟩ by unfold Addr.add; split <;> simp_all]
          rw [hb.cell q]; exact hq
        case c2 => intro u hu; simp at hu; rcases hu with rfl | rfl <;> rfl
        case c3 => unfold maxLen; omega
        case c4 => omega
        case c5 => have := hLSr.big; have := hLSr.size; simp; omega
        intro v' w7 hown' hgrow _
        obtain ⟨g', cap', rfl⟩ := ownsRow_succ hown'
        have hge := owns_ge2 how
        have hbig := hLSr.big
        have hszr := hLSr.size
        have hsz7' : wr.heap.size + 1 ≤ w7.heap.size := by have := hgrow.size; simpa using this
        -- blocks but the row's own
        have hkeep : ∀ b, b < wr.heap.size → (b < s + 5 ∨ ¬ ∃ c, wr.heap[b]? = some (.cells c 109 (0, 0))) → w7.heap[b]? = wr.heap[b]? := fun b hb hor => by
          refine (hgrow.block b (by simp; omega) (fun e => ?_)).trans (Below.heap_alloc _ _ _ hb)
          obtain ⟨h8, c8, h9⟩ := hge _ e.symm
          rcases hor with h | h
          · omega
          · exact h ⟨_, h9⟩
        have hChg : Chg (CL s) wr w7 := ⟨hgrow.os, hgrow.tape, hgrow.output, by omega, fun b hb hn => hkeep b hb (by
          by_cases h8 : b < s + 5
          · exact .inl h8
          · refine .inr ?_
            rintro ⟨c, hc⟩
            refine hn ⟨by omega, ?_⟩
            rintro ⟨c9, fz, hc9⟩
            rw [hc] at hc9; simp at hc9)⟩
        have hJ7 := hLSr.st _ _ hLSr.j hChg
        have hk89 : ∀ b, s + 5 ≤ b → b < wr.heap.size → (∃ c, wr.heap[b]? = some (.cells c 89 (0, 0))) → w7.heap[b]? = wr.heap[b]? := fun b _ hb ⟨c, hc⟩ => hkeep b hb (.inr (by rintro ⟨c9, hc9⟩; rw [hc] at hc9; simp at hc9))
        have hU7 := UN.keep hUr hk89
        have hX7 : Boxed w7 lb 60 (.slice av mv cv) := (hkeep lb hlbr (.inr (by rintro ⟨c9, hc9⟩; rw [show wr.heap[lb]? = _ from hXr] at hc9; simp at hc9))).trans hXr
        have hY7 : Boxed w7 s 103 (.func (.yield l) #[] #[]) := (hkeep s (by omega) (.inl (by omega))).trans hLSr.y
        have hV7 : Boxed w7 (s + 1) 104 vv := (hkeep (s + 1) (by omega) (.inl (by omega))).trans hLSr.vb
        have hN7 : Boxed w7 (s + 2) 3 (.int .i64 n) := (hkeep (s + 2) (by omega) (.inl (by omega))).trans hLSr.x
        have hA7 : Ah w7 (s + 5) (.slice (some ⟨g', 0, none⟩) ((ahd k pre).length + 1) cap') (ahd k (pre ++ [d])) := by
          refine ⟨ts ++ [(d, lef k d (ahd k pre), .slice av mv cv)], by rw [List.map_append, hts, ahd_snoc]; rfl, ?_, ?_⟩
          · rw [List.length_append, htl]
            have e : tcs (ts ++ [(d, lef k d (ahd k pre), .slice av mv cv)]) = tcs ts ++ [.int .i64 (d : Int), .slice av mv cv] := by simp [tcs]
            rw [e]; exact hown'
          · intro t ht
            rcases List.mem_append.1 ht with ht | ht
            · exact UN.keep (hun t ht) hk89
            · simp at ht; subst ht; exact hU7
        have h37 := (hkeep (s + 3) (by omega) (.inl (by omega))).trans hLSr.d3
        have h47 := (hkeep (s + 4) (by omega) (.inl (by omega))).trans hLSr.d4
        obtain ⟨v7, hv7⟩ : ∃ v7, v7 = Value.slice (some ⟨g', 0, none⟩) ((ahd k pre).length + 1) cap' := ⟨_, rfl⟩
        have hcv7 := hV7.cell
        have hfv7 := hV7.frozen
        -- and the box of the row
        have es : ∀ b, b ≠ s + 1 → (w7.setCell ⟨s + 1, 0, none⟩ v7).heap[b]? = w7.heap[b]? := fun b hb => Below.heap_setCell _ _ _ b hb
        have hJ8 := hLSr.st _ _ hJ7 (chg_set hV7 (by decide) (by omega) v7)
        have hLS8 : LS (J (lyw k pre)) s n l v7 (ahd k (pre ++ [d])) Wb (w7.setCell ⟨s + 1, 0, none⟩ v7) :=
          ⟨hJ8, (es _ (by omega)).trans hY7, hV7.set v7, by rw [hv7]; exact hA7.keep (fun b hb _ _ => by rw [← hv7]; exact es b (by omega)), (es _ (by omega)).trans hN7, hbig, by rw [size_set]; omega, (es _ (by omega)).trans h37, (es _ (by omega)).trans h47, hLSr.st⟩
        have hX8 : Boxed (w7.setCell ⟨s + 1, 0, none⟩ v7) lb 60 (.slice av mv cv) := (es _ (by omega)).trans hX7
        have hU8 := UN.set hU7 hV7 (by decide) v7
        rw [hv7] at hLS8 hX8 hU8
        clear hkeep hChg hJ7 hk89 hU7 hX7 hY7 hV7 hN7 hA7 h37 h47 es hJ8 hgrow hown' how hun hLSr hXr hUr hge hv7
        rw [← hvv] at hcv7
        have hcx8 := hX8.cell
        have hdw : IntKind.u64.wrap (d : Int) = (d : Int) := by rw [IntKind.wrap_u64]; omega
        have HD := hide (divq_ok _ _ _ d _ (hU8.mono (Nat.zero_le _) (Nat.le_refl _)) hd0 (by omega) (by omega))
        clear hcv hcx hU8
        gi_wp2_with fail
        refine ⟨trivial, rfl, ?_⟩
        refine (CallsIn.inRound _ (callsIn_wide.2 HD.out)).mono ?_
        rintro e9 w9 ⟨v9, rfl, hU9, hb9⟩
        obtain ⟨a9, m9, c9, rfl⟩ := UN.blk hU9
        have hLS9 := hLS8.below hb9
        have hLSa := hLS9.below (balloc w9 (.cells #[.slice a9 m9 c9] 60))
        have hUa := (hU9.below (balloc w9 (.cells #[.slice a9 m9 c9] 60))).mono (B' := 0) (k' := 3000) (Nat.zero_le _) (Nat.le_refl _)
        have hXa := Boxed.new w9 60 (.slice a9 m9 c9)
        have hcya := hLSa.y.cell
        have hsla : s < w9.heap.size := hLS9.y.lt
        have hcy9 := hLS9.y.cell
        clear hLS8 hX8 HD hU9 hb9 hcv7 hfv7 hcx8 hLS9
        have hlw : ∃ rest, lyw k (dvs n) = lyw k pre ++ (lef k d (ahd k pre) / d) :: rest := by
          obtain ⟨rest, hr⟩ := lyw_more k (pre ++ [d]) post
          refine ⟨rest, ?_⟩
          rw [← HPQ.out, show pre ++ d :: post = (pre ++ [d]) ++ post by simp, hr, lyw_snoc]; simp
        obtain ⟨rest, hlw⟩ := hlw
        obtain ⟨fn, tmps, assign, bodyc, hyy, hRR⟩ := yield_depth (m' := 0) (hY (lyw k pre) _ rest _ _ hlw.symm hLSa.j ⟨_, rfl, hUa⟩)
        have HLW := hide hlw
        clear hlw
        gi_wp2
        refine ⟨rfl, (show RoundIn (Fence.wide.inRound (w4.heap.size + 1)) 0 Tryd.prog l fn tmps assign bodyc _ _ from hRR).mono ?_⟩
        rintro e W3 ⟨rfl, hJ3, hsz3, hk3⟩
        gi_wp2
        have hs := HS4.out
        have hbig2 := hLSa.big
        have hsz2 := hLSa.size
        have hsa : (w9.alloc (.cells #[.slice a9 m9 c9] 60)).heap.size = w9.heap.size + 1 := by simp
        refine ⟨⟨by omega, ?_, ?_, fun _ h => h.elim⟩, by rw [lyw_snoc]; exact hJ3, (hk3 s (by omega) (by omega)).trans hLSa.y, ⟨_, (hk3 (s + 1) (by omega) (by omega)).trans hLSa.vb, hLSa.a.keep (fun b hb hb2 _ => hk3 b (by omega) hb2)⟩, (hk3 (s + 2) (by omega) (by omega)).trans hLSa.x, by omega⟩
        · rw [hs]; exact (hk3 (s + 3) (by omega) (by omega)).trans hLSa.d3
        · rw [hs]; exact (hk3 (s + 4) (by omega) (by omega)).trans hLSa.d4
  case fin =>
    rintro W2 ⟨h1, h2, h3, h5, h6⟩ hD hsz
    have hs := HS4.out
    have hfin : J (lyw k (dvs n)) (W2.putObj w4.heap.size (.deferred none)) := by
      refine hJ _ _ _ h1 ((But.put _ _ _).mono fun b hb => ⟨by omega, ?_⟩)
      rintro ⟨c, fz, hc⟩
      rw [hb, hD] at hc; cases hc
    gi_wp2
    refine ⟨by simp, .inl ⟨_, _, rfl, run_takeDeferred hD, ?_⟩⟩
    exact ⟨_, results_none rfl _ _ _, ⟨_, rfl⟩, hfin⟩

end Go.Proofs.YtojnjfkonaeegaaDoor
