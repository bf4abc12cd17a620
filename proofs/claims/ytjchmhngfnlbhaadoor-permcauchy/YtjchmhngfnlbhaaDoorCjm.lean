/- Plain mathematics: a way from one permutation to another, cycle by cycle: what it keeps, when there is none, and what it is at the end. No condition. -/
import Derived.Test.YtjchmhngfnlbhaaDoorShp
namespace Go.Proofs.YtjchmhngfnlbhaaDoor

/-- The lists of the length k. -/
def fk (k : Nat) (L : List (List Nat)) : List (List Nat) := L.filter fun c => c.length == k
theorem fk_hit (L : List (List Nat)) {k : Nat} {c : List Nat} (h : c.length = k) : fk k (L ++ [c]) = fk k L ++ [c] := by simp [fk, List.filter_append, h]
theorem fk_miss (L : List (List Nat)) {k : Nat} {c : List Nat} (h : ¬ c.length = k) : fk k (L ++ [c]) = fk k L := by simp [fk, List.filter_append, h]
theorem fk_mem {k : Nat} {L : List (List Nat)} {c : List Nat} : c ∈ fk k L ↔ c ∈ L ∧ c.length = k := by simp [fk, List.mem_filter]
theorem fk_nil (k : Nat) : fk k [] = [] := rfl
theorem fk_len (k : Nat) (L : List (List Nat)) : (fk k L).length ≤ L.length := List.length_filter_le _ _

/-- A list with numbers put where the points of a cycle are, k of them. -/
def putTo (cz : List Int) (C D : List Nat) : Nat → List Int
  | 0 => cz
  | k + 1 => (putTo cz C D k).set (C[k]?.getD 0) ((D[k]?.getD 0 : Nat) : Int)
theorem putTo_len (cz : List Int) (C D : List Nat) : ∀ k, (putTo cz C D k).length = cz.length
  | 0 => rfl
  | k + 1 => by rw [putTo, List.length_set, putTo_len cz C D k]
theorem putTo_other (cz : List Int) (C D : List Nat) {x : Nat} (hx : ¬ x ∈ C) : ∀ k, k ≤ C.length → (putTo cz C D k)[x]?.getD 0 = cz[x]?.getD 0
  | 0, _ => rfl
  | k + 1, hk => by
    rw [putTo, List.getElem?_set_ne (fun e => hx (by rw [← e]; exact getD_mem (by omega)))]
    exact putTo_other cz C D hx k (by omega)
theorem putTo_get (cz : List Int) (C D : List Nat) (hn : C.Nodup) (hb : ∀ x, x ∈ C → x < cz.length) {i : Nat} : ∀ k, k ≤ C.length → i < k → (putTo cz C D k)[C[i]?.getD 0]?.getD 0 = ((D[i]?.getD 0 : Nat) : Int)
  | 0, _, h => by omega
  | k + 1, hk, h => by
    by_cases e : i = k
    · subst e
      rw [putTo, List.getElem?_set_self (by rw [putTo_len]; exact hb _ (getD_mem (by omega)))]
      rfl
    · rw [putTo, List.getElem?_set_ne (fun e' => e (nodup_getD hn (by omega) (by omega) e'.symm))]
      exact putTo_get cz C D hn hb k (by omega) (by omega)

/-- What the walk keeps: to which cycle each has been moved, and which are left. -/
structure Way (ys : List Int) (n : Nat) (pre : List (List Nat)) (lf : Nat → List (List Nat)) (cz : List Int) (M : List (List Nat × List Nat)) : Prop where
  fst : M.map Prod.fst = pre
  like : ∀ q, q ∈ M → q.1.length = q.2.length ∧ ∀ i, i < q.1.length → cz[q.1[i]?.getD 0]?.getD 0 = ((q.2[i]?.getD 0 : Nat) : Int)
  left : ∀ k, fk k (M.map Prod.snd) ++ lf k = fk k (cyc ys)
  len : cz.length = n
theorem Way.new (ys : List Int) (n : Nat) : Way ys n [] (fun k => fk k (cyc ys)) (List.replicate n 0) [] :=
  ⟨rfl, fun q h => by simp at h, fun k => by simp [fk_nil], by simp⟩

theorem Way.step {zs ys : List Int} {pre post : List (List Nat)} {C D : List Nat} {rest : List (List Nat)} {lf : Nat → List (List Nat)} {cz : List Int} {M : List (List Nat × List Nat)} (hz : IsPerm zs)
    (h : Way ys zs.length pre lf cz M) (hc : pre ++ C :: post = cyc zs) (hl : lf C.length = D :: rest) :
    D.length = C.length ∧ Way ys zs.length (pre ++ [C]) (fun k => if k = C.length then rest else lf k) (putTo cz C D C.length) (M ++ [(C, D)]) := by
  obtain ⟨s1, s2, s3⟩ := cyc_spec hz
  have hC := s1 C (by rw [← hc]; simp)
  have hD : D ∈ fk C.length (cyc ys) := by rw [← h.left, hl]; simp
  have hDl := (fk_mem.1 hD).2
  refine ⟨hDl, by rw [List.map_append, h.fst]; rfl, fun q hq => ?_, fun k => ?_, by rw [putTo_len, h.len]⟩
  · rcases List.mem_append.1 hq with hq | hq
    · refine ⟨(h.like q hq).1, fun i hi => ?_⟩
      have hq1 : q.1 ∈ pre := by rw [← h.fst]; exact List.mem_map.2 ⟨q, hq, rfl⟩
      rw [← hc, List.pairwise_append] at s2
      rw [putTo_other _ _ _ (s2.2.2 q.1 hq1 C (by simp) _ (getD_mem hi)) _ (Nat.le_refl _)]
      exact (h.like q hq).2 i hi
    · obtain rfl := List.mem_singleton.1 hq
      exact ⟨hDl.symm, fun i hi => putTo_get _ _ _ hC.nodup (fun x hx => by rw [h.len]; exact hC.lt x hx) _ (Nat.le_refl _) hi⟩
  · rw [List.map_append]
    show fk k (M.map Prod.snd ++ [D]) ++ _ = _
    by_cases e : k = C.length
    · rw [fk_hit _ (by omega), if_pos e, List.append_assoc, ← h.left, e, hl]; rfl
    · rw [fk_miss _ (by omega), if_neg e, h.left]

theorem like_count (k : Nat) : ∀ (M : List (List Nat × List Nat)), (∀ q, q ∈ M → q.1.length = q.2.length) → ((M.map Prod.fst).map List.length).count k = (fk k (M.map Prod.snd)).length
  | [], _ => rfl
  | q :: M, h => by
    have ih := like_count k M (fun r hr => h r (by simp [hr]))
    have hq := h q (by simp)
    simp only [List.map_cons, List.count_cons, ih, fk, List.filter_cons]
    by_cases e : q.2.length = k
    · simp [hq, e]
    · simp [hq, e]

theorem Way.none {zs ys : List Int} {pre post : List (List Nat)} {C : List Nat} {lf : Nat → List (List Nat)} {cz : List Int} {M : List (List Nat × List Nat)}
    (h : Way ys zs.length pre lf cz M) (hc : pre ++ C :: post = cyc zs) (hl : lf C.length = []) : shape zs ≠ shape ys := by
  intro e
  have h1 : (lens zs).Perm (lens ys) := ((shL_perm (lens zs)).symm.trans (List.Perm.of_eq e)).trans (shL_perm (lens ys))
  have h2 := h1.count_eq C.length
  rw [lens_count ys] at h2
  have h3 : cnt ys C.length = (fk C.length (M.map Prod.snd)).length := by
    have := h.left C.length
    rw [hl, List.append_nil] at this
    rw [this]; rfl
  rw [h3, ← like_count _ M (fun q hq => (h.like q hq).1), h.fst, lens, ← hc, List.map_append, List.map_cons, List.count_append, List.count_cons_self] at h2
  omega

theorem share_eq {c d : List Nat} {y : Nat} : ∀ (L : List (List Nat)), L.Pairwise (fun c d => ∀ y, y ∈ c → ¬ y ∈ d) → c ∈ L → d ∈ L → y ∈ c → y ∈ d → c = d
  | [], _, h, _, _, _ => by simp at h
  | e :: L, hp, hc, hd, h1, h2 => by
    rw [List.pairwise_cons] at hp
    rcases List.mem_cons.1 hc with rfl | hc'
    · rcases List.mem_cons.1 hd with rfl | hd'
      · rfl
      · exact absurd h2 (hp.1 d hd' y h1)
    · rcases List.mem_cons.1 hd with rfl | hd'
      · exact absurd h1 (hp.1 c hc' y h2)
      · exact share_eq L hp.2 hc' hd' h1 h2
theorem map_nodup_inj {α β : Type} (f : α → β) : ∀ (M : List α), (M.map f).Nodup → ∀ q r, q ∈ M → r ∈ M → f q = f r → q = r
  | [], _, q, _, h, _, _ => by simp at h
  | s :: M, hn, q, r, hq, hr, e => by
    rw [List.map_cons, List.nodup_cons] at hn
    rcases List.mem_cons.1 hq with rfl | hq'
    · rcases List.mem_cons.1 hr with rfl | hr'
      · rfl
      · exact absurd (List.mem_map.2 ⟨r, hr', e.symm⟩) hn.1
    · rcases List.mem_cons.1 hr with rfl | hr'
      · exact absurd (List.mem_map.2 ⟨q, hq', e⟩) hn.1
      · exact map_nodup_inj f M hn.2 q r hq' hr' e
theorem nodup_of_fk : ∀ (L : List (List Nat)), (∀ k, (fk k L).Nodup) → L.Nodup
  | [], _ => List.nodup_nil
  | c :: L, h => by
    rw [List.nodup_cons]
    refine ⟨fun hc => ?_, nodup_of_fk L fun k => ?_⟩
    · have h1 := h c.length
      have h2 : fk c.length (c :: L) = c :: fk c.length L := by simp [fk]
      rw [h2, List.nodup_cons] at h1
      exact h1.1 (fk_mem.2 ⟨hc, rfl⟩)
    · exact (h k).sublist (by unfold fk; exact (List.sublist_cons_self c L).filter _)
theorem cyc_nodup {zs : List Int} (hz : IsPerm zs) : (cyc zs).Nodup := by
  obtain ⟨s1, s2, s3⟩ := cyc_spec hz
  refine List.Pairwise.imp_of_mem (fun {c d} hc hd h e => ?_) s2
  subst e
  have := (s1 c hc).ne
  obtain ⟨x, hx⟩ := List.exists_mem_of_ne_nil c this
  exact h x hx hx

/-- THE WAY AT ITS END. -/
theorem Way.done {zs ys : List Int} {lf : Nat → List (List Nat)} {cz : List Int} {M : List (List Nat × List Nat)} (hz : IsPerm zs) (hy : IsPerm ys) (hl : zs.length = ys.length)
    (h : Way ys zs.length (cyc zs) lf cz M) : IsPerm cz ∧ mulL cz ys = mulL zs cz ∧ shape zs = shape ys := by
  obtain ⟨s1, s2, s3⟩ := cyc_spec hz
  obtain ⟨t1, t2, t3⟩ := cyc_spec hy
  have hnd : (M.map Prod.snd).Nodup := nodup_of_fk _ fun k => by
    have h1 : (fk k (cyc ys)).Nodup := (cyc_nodup hy).sublist List.filter_sublist
    rw [← h.left k, List.nodup_append] at h1
    exact h1.1
  have hm2 : ∀ q, q ∈ M → q.2 ∈ cyc ys := fun q hq => by
    have : q.2 ∈ fk q.2.length (cyc ys) := by
      rw [← h.left]; exact List.mem_append_left _ (fk_mem.2 ⟨List.mem_map.2 ⟨q, hq, rfl⟩, rfl⟩)
    exact (fk_mem.1 this).1
  have hm1 : ∀ q, q ∈ M → q.1 ∈ cyc zs := fun q hq => by rw [← h.fst]; exact List.mem_map.2 ⟨q, hq, rfl⟩
  have hat : ∀ x, x < zs.length → ∃ q, q ∈ M ∧ ∃ i, i < q.1.length ∧ q.1[i]?.getD 0 = x ∧ cz[x]?.getD 0 = ((q.2[i]?.getD 0 : Nat) : Int) ∧ nx cz x = q.2[i]?.getD 0 := fun x hx => by
    obtain ⟨c, hc, hxc⟩ := s3 x hx
    rw [← h.fst] at hc
    obtain ⟨q, hq, rfl⟩ := List.mem_map.1 hc
    obtain ⟨i, hi, he⟩ := List.mem_iff_getElem.1 hxc
    have e1 : q.1[i]?.getD 0 = x := by rw [List.getElem?_eq_getElem hi]; exact he
    have e2 := (h.like q hq).2 i hi
    rw [e1] at e2
    exact ⟨q, hq, i, hi, e1, e2, by rw [nx, e2]; simp⟩
  have hlt : ∀ x, x < zs.length → nx cz x < zs.length := fun x hx => by
    obtain ⟨q, hq, i, hi, e1, e2, e3⟩ := hat x hx
    rw [e3, hl]
    exact (t1 _ (hm2 q hq)).lt _ (getD_mem (by rw [← (h.like q hq).1]; exact hi))
  have hinj : ∀ x y, x < zs.length → y < zs.length → nx cz x = nx cz y → x = y := fun x y hx hy' e => by
    obtain ⟨q, hq, i, hi, e1, e2, e3⟩ := hat x hx
    obtain ⟨r, hr, j, hj, f1, f2, f3⟩ := hat y hy'
    have hi2 : i < q.2.length := by rw [← (h.like q hq).1]; exact hi
    have hj2 : j < r.2.length := by rw [← (h.like r hr).1]; exact hj
    rw [e3, f3] at e
    have hqr : q.2 = r.2 := share_eq _ t2 (hm2 q hq) (hm2 r hr) (getD_mem hi2) (by rw [e]; exact getD_mem hj2)
    obtain rfl := map_nodup_inj Prod.snd M hnd q r hq hr hqr
    obtain rfl := nodup_getD (t1 _ (hm2 q hq)).nodup hi2 hj2 e
    exact e1.symm.trans f1
  have hcom : ∀ x, x < zs.length → nx cz (nx zs x) = nx ys (nx cz x) := fun x hx => by
    obtain ⟨q, hq, i, hi, e1, e2, e3⟩ := hat x hx
    have hql := (h.like q hq).1
    have hm := Nat.mod_lt (i + 1) (show 0 < q.1.length by omega)
    have n1 := (s1 _ (hm1 q hq)).next i hi
    have n2 := (t1 _ (hm2 q hq)).next i (by omega)
    rw [e1] at n1
    rw [e3, n2, n1, nx, (h.like q hq).2 _ hm, hql]
    simp
  have hcl := h.len
  have hval : ∀ x, x < zs.length → cz[x]?.getD 0 = ((nx cz x : Nat) : Int) := fun x hx => by
    obtain ⟨q, hq, i, hi, e1, e2, e3⟩ := hat x hx
    rw [e2, e3]
  refine ⟨⟨fun i hi => ?_, fun i j hij hj e => ?_⟩, ?_, ?_⟩
  · have h1 := hlt i (by omega)
    rw [hval i (by omega)]
    omega
  · rw [hval i (by omega), hval j (by omega)] at e
    have := hinj i j (by omega) (by omega) (by omega)
    omega
  · refine ext_getD (by rw [mulL_len, mulL_len, hcl]) fun x hx => ?_
    rw [mulL_len, hcl] at hx
    rw [mulL_get _ (by omega), mulL_get _ hx]
    have h1 := hcom x hx
    have h2 := hlt x hx
    show ys[nx cz x]?.getD 0 = cz[nx zs x]?.getD 0
    have h3 := hval (nx zs x) (nx_lt hz hx).1
    rw [h3, h1]
    have h4 := (nx_lt hy (show nx cz x < ys.length by omega)).2
    rw [h4]
  · have hp : (lens zs).Perm (lens ys) := lens_perm hz hy fun k hk => cnt_conj hz hy hl (f := nx cz) hlt hinj hcom hk
    exact shL_eq hp
end Go.Proofs.YtjchmhngfnlbhaaDoor
