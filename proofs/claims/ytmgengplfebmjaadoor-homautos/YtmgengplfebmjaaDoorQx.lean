/- What package quot's Simple and Abel answer; the subgroup of commutators, and the quotient by it. Condition: the library's table of places lies as its text lays it. -/
import Derived.Test.YtmgengplfebmjaaDoorQz
namespace Go.Proofs.YtmgengplfebmjaaDoor
open Go Go.RowKit

theorem one_lst : ∀ (n a : Nat), a < n → lst n (fun y => decide (y = a)) = [a]
  | 0, a, h => by omega
  | n + 1, a, h => by
    unfold lst
    rw [List.range_succ, List.filter_append]
    by_cases e : a = n
    · subst e
      have : (List.range a).filter (fun y => decide (y = a)) = [] := List.filter_eq_nil_iff.2 fun y hy => by
        have := List.mem_range.1 hy
        simp; omega
      rw [this]
      simp
    · have h9 := one_lst n a (by omega)
      unfold lst at h9
      rw [h9]
      have : ¬ n = a := fun e9 => e e9.symm
      simp [this]
theorem one_fault {n a : Nat} (h : a < n) : lfault n [(a : Int)] = (0, 0) := by
  have := lst_fault n (fun y => decide (y = a))
  rw [one_lst n a h] at this
  exact this
theorem lst_le (n : Nat) (p : Nat → Bool) : (lst n p).length ≤ n := by unfold lst; exact Nat.le_trans (List.length_filter_le _ _) (by simp)
/-- Has each thing but the one all, by a number? -/
def smq (n e : Nat) (L : Nat → Nat) : Bool := decide (1 < n) && (List.range n).all fun a => decide (a = e) || !decide (L a < n)
end Go.Proofs.YtmgengplfebmjaaDoor

namespace Go.Proofs.YtmgengplfebmjaaDoor
open Go Go.RowKit Go.Maps

theorem slF_blk {w : World} {g n B : Nat} {zs : List Int} (h : Blk w g 3 (zs.map (Value.int .i64))) (hn : n = zs.length) (hl : zs.length ≤ 1000000) (hB : B ≤ g) : SlF B w (.slice (some ⟨g, 0, none⟩) n n) zs := by
  subst hn
  exact ⟨some ⟨g, 0, none⟩, zs.length, g, 0, rfl, ⟨fun _ => rfl, fun j hj => by rw [Nat.zero_add]; exact h.int hj⟩, h.lt, Nat.le_refl _, by unfold maxLen; omega, hB⟩
theorem slF_row {w : World} {base B : Nat} {v : Value} {zs : List Int} (h : Row w base v zs) (hB : B ≤ base) (h0 : 0 < zs.length) : SlF B w v zs := by
  rcases h.2 with ⟨_, hz⟩ | ⟨g, cap, cur, rfl, hgb, hh, h1, h2, _⟩
  · omega
  · refine ⟨some ⟨g, 0, none⟩, cap, g, 0, rfl, ⟨fun _ => rfl, fun j hj => ?_⟩, (Array.getElem?_eq_some_iff.1 hh).1, h1, h2, by omega⟩
    have h3 := h.cells (g := g) rfl j (.int .i64 (zs[j]?.getD 0)) (by simp [hj])
    rw [show (⟨g, 0, none⟩ : Addr).add j = ⟨g, j, none⟩ by unfold Addr.add; split <;> simp_all] at h3
    rw [Nat.zero_add]; exact h3
theorem slF_keep {B : Nat} {w w' : World} {v : Value} {zs : List Int} (h : SlF B w v zs) (hs : w.heap.size ≤ w'.heap.size) (hk : ∀ g, B ≤ g → g < w.heap.size → w'.heap[g]? = w.heap[g]?) : Sl w' v zs := by
  obtain ⟨a, cap, pb, po, rfl, h1, h2, h3, h4, h5⟩ := h
  exact ⟨a, cap, pb, po, rfl, h1.of_eq (hk pb h5 h2), Nat.lt_of_lt_of_le h2 hs, h3, h4⟩
end Go.Proofs.YtmgengplfebmjaaDoor

namespace Go.Proofs.YtmgengplfebmjaaDoor
open Go Go.RowKit

theorem all_lst (n : Nat) : lst n (fun _ => true) = List.range n := by unfold lst; simp
theorem all_pset (n : Nat) : lst n (pset (li (List.range n))) = List.range n := by
  have := lst_pset n (fun _ => true)
  rwa [all_lst] at this
section
variable {n e : Nat} {zs : List Int} {p : Nat → Bool}
theorem der_sub (g : IsGrp n zs e) (hp : ∀ a, a < n → (p a = true ↔ Mkd n zs e (cmq n zs e (List.range n) (List.range n)) a)) : subT n zs e (pset (li (lst n p))) = true :=
  sg_test g (Fin.Gen.sg _) hp
theorem der_nrm (g : IsGrp n zs e) (hp : ∀ a, a < n → (p a = true ↔ Mkd n zs e (cmq n zs e (List.range n) (List.range n)) a)) : nrmq n zs e (pset (li (lst n p))) = true :=
  nm_test g (Fin.der_nm (grp_fg g) (grp_iv g)) (fun a ha => (hp a ha).trans (cms_iff a))
/-- The quotient by the commutators commutes. -/
theorem der_com (g : IsGrp n zs e) (hp : ∀ a, a < n → (p a = true ↔ Mkd n zs e (cmq n zs e (List.range n) (List.range n)) a)) :
    comB (fsts n (rgtq n zs (lst n (pset (li (lst n p))))) n).length (mkT (fsts n (rgtq n zs (lst n (pset (li (lst n p))))) n).length (quoF n zs (rgtq n zs (lst n (pset (li (lst n p))))))) = true := by
  have hs := der_sub g hp
  have hN := der_nrm g hp
  have PP := rgt_parts g hs
  rw [comB_iff]
  intro i j hi hj
  rw [tm_mk hi hj, tm_mk hj hi]
  have ha := fst_lt hi
  have hb := fst_lt hj
  have ea := prts_num_at PP hi
  have eb := prts_num_at PP hj
  generalize (fsts n (rgtq n zs (lst n (pset (li (lst n p))))) n)[i] = a at *
  generalize (fsts n (rgtq n zs (lst n (pset (li (lst n p))))) n)[j] = b at *
  rw [← ea, ← eb, quo_hom g hs hN ha hb, quo_hom g hs hN hb ha]
  have hab := tm_lt g.tab ha hb
  have hba := tm_lt g.tab hb ha
  have hc := List.mem_range.1 (Fin.cm_mem (grp_fg g) (grp_iv g) (List.mem_range.2 ha) (List.mem_range.2 hb))
  have hce := Fin.cm_eq (grp_fg g) (grp_iv g) (List.mem_range.2 ha) (List.mem_range.2 hb)
  have hcp : Fin.cm (tm n zs) (iv n zs e) a b ∈ lst n (pset (li (lst n p))) := by
    rw [lst_pset, mem_lst]
    refine ⟨hc, (hp _ hc).2 ((cms_iff _).2 (Fin.Gen.base (List.mem_range.2 hc) ⟨a, b, List.mem_range.2 ha, List.mem_range.2 hb, rfl⟩))⟩
  generalize Fin.cm (tm n zs) (iv n zs e) a b = c at *
  have h1 : rgtq n zs (lst n (pset (li (lst n p)))) e c = true := mem_rgt.2 ⟨c, hcp, g.right c hc⟩
  have h2 := rgt_both g hs hN hba g.elt hba hc (PP.refl _ hba) h1
  rw [g.right _ hba, hce] at h2
  exact ((prts_num_eq PP hba hab).2 h2).symm
end
end Go.Proofs.YtmgengplfebmjaaDoor
