/- What package sub's openedSet answers: at every table and every list. -/
import Derived.Test.YtmgengplfebmjaaDoorLf
namespace Go.Proofs.YtmgengplfebmjaaDoor
open Go Go.RowKit

theorem Sl.isSlice {w : World} {v : Value} {zs : List Int} (h : Sl w v zs) : ∃ a l c, v = .slice a l c := by
  obtain ⟨a, cap, _, _, rfl, _⟩ := h
  exact ⟨a, _, cap, rfl⟩
/-- What is wrong with a table and then with a list as its set. -/
def sfault (N : Int) (zs ls : List Int) : Int × Int := if (gfault N zs).1 ≠ 0 then gfault N zs else lfault N.toNat ls
theorem sfault_g {N : Int} {zs ls : List Int} (h : (gfault N zs).1 ≠ 0) : sfault N zs ls = gfault N zs := if_pos h
theorem sfault_l {n e : Nat} {zs ls : List Int} (g : IsGrp n zs e) : sfault n zs ls = lfault n ls := by
  unfold sfault
  rw [grp_fault g, if_neg (by simp), Int.toNat_natCast]
theorem sfault_zero {N : Int} {zs ls : List Int} (h : (sfault N zs ls).1 = 0) : ∃ n e : Nat, N = n ∧ IsGrp n zs e ∧ lfault n ls = (0, 0) ∧ sfault N zs ls = (0, 0) := by
  by_cases hg : (gfault N zs).1 = 0
  · obtain ⟨n, e, rfl, hgr, _⟩ := gfault_grp hg
    rw [sfault_l hgr] at h ⊢
    exact ⟨n, e, rfl, hgr, (lfault_zero h).1, (lfault_zero h).1⟩
  · rw [sfault_g hg] at h
    exact absurd h hg
theorem sfault_cases (N : Int) (zs ls : List Int) (h : (sfault N zs ls).1 ≠ 0) : ((gfault N zs).1 ≠ 0 ∧ sfault N zs ls = gfault N zs) ∨ ∃ n e : Nat, N = n ∧ IsGrp n zs e ∧ (lfault n ls).1 ≠ 0 ∧ sfault N zs ls = lfault n ls := by
  by_cases hg : (gfault N zs).1 = 0
  · obtain ⟨n, e, rfl, hgr, _⟩ := gfault_grp hg
    rw [sfault_l hgr] at h ⊢
    exact .inr ⟨n, e, rfl, hgr, h, rfl⟩
  · exact .inl ⟨hg, sfault_g hg⟩

end Go.Proofs.YtmgengplfebmjaaDoor
