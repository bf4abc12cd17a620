/- The sign of a permutation by its cycles is that by the pairs that change their order; signs multiply. No condition. -/
import Derived.Test.YtjchmhngfnlbhaaDoorSgn
import Derived.Test.YtjchmhngfnlbhaaDoorOrbit
namespace Go.Proofs.YtjchmhngfnlbhaaDoor
open Sgnm (invs Pm invs_comp Cy invs_congr sign_id)

/-- The sign that the cycles tell. -/
def sgOf (cs : List (List Nat)) : Int := cs.foldl (fun s c => if c.length % 2 = 0 then -s else s) 1
theorem sgOf_nil : sgOf [] = 1 := rfl
theorem sgOf_even (pre : List (List Nat)) {c : List Nat} (h : c.length % 2 = 0) : sgOf (pre ++ [c]) = - sgOf pre := by simp [sgOf, h]
theorem sgOf_odd (pre : List (List Nat)) {c : List Nat} (h : ¬ c.length % 2 = 0) : sgOf (pre ++ [c]) = sgOf pre := by simp [sgOf, h]
/-- What two numbers of pairs have in common: the sign. -/
def sgN (k : Nat) : Int := if k % 2 = 0 then 1 else -1
theorem sgN_add (a b : Nat) : sgN (a + b) = sgN a * sgN b := by
  unfold sgN
  rcases Nat.mod_two_eq_zero_or_one a with h | h <;> rcases Nat.mod_two_eq_zero_or_one b with k | k <;> simp [Nat.add_mod, h, k]
theorem sgN_mod {a b : Nat} (h : a % 2 = b % 2) : sgN a = sgN b := by unfold sgN; rw [h]
theorem sgN_one (k : Nat) : sgN k = 1 ∨ sgN k = -1 := by unfold sgN; split <;> simp

theorem pm_nx {zs : List Int} (hp : IsPerm zs) : Pm zs.length (nx zs) :=
  ⟨fun _ hx => (nx_lt hp hx).1, fun _ _ hx hy h => nx_inj hp hx hy h⟩
theorem nx_mul {xs ys : List Int} {x : Nat} (h : x < xs.length) : nx (mulL xs ys) x = nx ys (nx xs x) := by
  show ((mulL xs ys)[x]?.getD 0).toNat = _
  rw [mulL_get ys h]; rfl
theorem nx_id {n x : Nat} (h : x < n) : nx (idL n) x = x := by
  show ((idL n)[x]?.getD 0).toNat = x
  rw [idL_get h]; simp
theorem nx_blend {zs : List Int} (S : List Nat) {x : Nat} (hx : x < zs.length) : nx (blend zs S) x = if x ∈ S then nx zs x else x := by
  show ((blend zs S)[x]?.getD 0).toNat = _
  rw [blend_get S hx]
  split <;> simp [nx]
theorem cy_blend {zs : List Int} {c : List Nat} (hc : IsCyc zs c) : Cy zs.length c (nx (blend zs c)) := by
  refine ⟨List.length_pos_iff.2 hc.ne, hc.nodup, hc.lt, fun j hj => ?_, fun x hx hn => ?_⟩
  · rw [nx_blend c (hc.lt _ (getD_mem hj)), if_pos (getD_mem hj), hc.next j hj]
  · rw [nx_blend c hx, if_neg hn]
theorem invs_blend {zs : List Int} (hp : IsPerm zs) : ∀ (L : List (List Nat)) (S : List Nat), ClosedS zs S → (∀ c, c ∈ L → IsCyc zs c) → L.Pairwise (fun c d => ∀ y, y ∈ c → ¬ y ∈ d) → (∀ c, c ∈ L → ∀ y, y ∈ S → ¬ y ∈ c) →
    sgN (invs zs.length (nx (blend zs (S ++ L.flatten)))) = L.foldl (fun s c => if c.length % 2 = 0 then -s else s) (sgN (invs zs.length (nx (blend zs S))))
  | [], S, _, _, _, _ => by simp
  | c :: L, S, hS, hL, hpw, hd => by
    have hc := hL c (by simp)
    have hcl := closed_cyc hp hc
    rw [List.pairwise_cons] at hpw
    have ih := invs_blend hp L (S ++ c) (closed_app hS hcl) (fun d hd' => hL d (by simp [hd'])) hpw.2 (fun d hd' y hy => by
      rcases List.mem_append.1 hy with h | h
      · exact hd d (by simp [hd']) y h
      · exact hpw.1 d hd' y h)
    rw [List.flatten_cons, ← List.append_assoc, ih, List.foldl_cons]
    congr 1
    have hm := blend_mul hp hS (hd c (by simp))
    have hb1 := blend_perm hp hS
    have hb2 := blend_perm hp hcl
    have hP1 := pm_nx hb1
    have hP2 := pm_nx hb2
    rw [blend_len] at hP1 hP2
    have h1 : invs zs.length (nx (blend zs (S ++ c))) % 2 = (invs zs.length (nx (blend zs S)) + invs zs.length (nx (blend zs c))) % 2 := by
      rw [← invs_comp hP1 hP2, ← hm, invs_congr (fun x hx => nx_mul (by rw [blend_len]; exact hx))]
    rw [sgN_mod h1, sgN_add]
    have h2 : invs zs.length (nx (blend zs c)) % 2 = (c.length - 1) % 2 :=
      Cy.sign (c.length - 1) c _ (by have := List.length_pos_iff.2 hc.ne; omega) (cy_blend hc)
    rw [sgN_mod h2]
    have h3 := List.length_pos_iff.2 hc.ne
    unfold sgN
    by_cases he : c.length % 2 = 0
    · have h4 : ¬ (c.length - 1) % 2 = 0 := by omega
      rw [if_pos he, if_neg h4]; split <;> rfl
    · have h4 : (c.length - 1) % 2 = 0 := by omega
      rw [if_neg he, if_pos h4]; split <;> rfl
/-- THE SIGN BY CYCLES is that by pairs. -/
theorem sgOf_invs {zs : List Int} (hp : IsPerm zs) : sgOf (cyc zs) = sgN (invs zs.length (nx zs)) := by
  obtain ⟨h1, h2, h3⟩ := cyc_spec hp
  have h := invs_blend hp (cyc zs) [] (closed_nil zs) h1 h2 (fun _ _ y hy => by simp at hy)
  rw [List.nil_append, blend_all hp (fun x hx hn => by
    obtain ⟨c, hc, hxc⟩ := h3 x hx
    exact absurd (List.mem_flatten.2 ⟨c, hc, hxc⟩) hn), blend_nil] at h
  rw [h]
  have h0 : invs zs.length (nx (idL zs.length)) = 0 := by rw [invs_congr (g := fun x => x) (fun x hx => nx_id hx), sign_id]
  rw [h0]
  rfl
theorem sg_one (zs : List Int) : sgOf (cyc zs) = 1 ∨ sgOf (cyc zs) = -1 := by
  have : ∀ (cs : List (List Nat)) (s : Int), s = 1 ∨ s = -1 → cs.foldl (fun s c => if c.length % 2 = 0 then -s else s) s = 1 ∨ cs.foldl (fun s c => if c.length % 2 = 0 then -s else s) s = -1 := by
    intro cs
    induction cs with
    | nil => intro s hs; exact hs
    | cons c cs ih =>
      intro s hs
      rw [List.foldl_cons]
      apply ih
      split
      · rcases hs with rfl | rfl <;> simp
      · exact hs
  exact this _ 1 (.inl rfl)
/-- SIGNS MULTIPLY. -/
theorem sg_mul {xs ys : List Int} (hx : IsPerm xs) (hy : IsPerm ys) (hl : xs.length = ys.length) : sgOf (cyc (mulL xs ys)) = sgOf (cyc xs) * sgOf (cyc ys) := by
  have hP2 := pm_nx hy
  rw [← hl] at hP2
  rw [sgOf_invs (mulL_perm hx hy hl), sgOf_invs hx, sgOf_invs hy, mulL_len, ← hl, ← sgN_add]
  apply sgN_mod
  rw [← invs_comp (pm_nx hx) hP2, invs_congr (fun x h => nx_mul h)]
theorem sg_id (n : Nat) : sgOf (cyc (idL n)) = 1 := by
  rw [sgOf_invs (idL_perm n), idL_len, invs_congr (g := fun x => x) (fun x hx => nx_id hx), sign_id]; rfl
theorem sg_inv {xs : List Int} (hx : IsPerm xs) : sgOf (cyc (invL xs)) = sgOf (cyc xs) := by
  have h := sg_mul hx (invL_perm hx) (invL_len xs).symm
  rw [mul_inv hx, sg_id] at h
  rcases sg_one xs with a | a <;> rcases sg_one (invL xs) with b | b <;> rw [a, b] at h ⊢ <;> simp at h
end Go.Proofs.YtjchmhngfnlbhaaDoor
