/- What the moved cycles of a permutation are to it: one behind the other they make it. -/
import Derived.Test.YtpcfljkniodlbaaDoorMoved
import Derived.Test.YtpcfljkniodlbaaDoorOrbit
namespace Go.Proofs.YtpcfljkniodlbaaDoor

theorem flatten_succ (L : List (List Nat)) {i : Nat} (hi : i < L.length) : (L.take (i + 1)).flatten = (L.take i).flatten ++ L[i]?.getD [] := by
  rw [List.take_succ_eq_append_getElem hi, List.flatten_append, List.getElem?_eq_getElem hi]
  simp
theorem closed_flat {zs : List Int} (hp : IsPerm zs) : ∀ (L : List (List Nat)), (∀ c, c ∈ L → IsCyc zs c) → ClosedS zs L.flatten
  | [], _ => closed_nil zs
  | c :: L, h => by
    rw [List.flatten_cons]
    exact closed_app (closed_cyc hp (h c (by simp))) (closed_flat hp L (fun d hd => h d (by simp [hd])))
/-- The list of a permutation's moved cycles. -/
structure Parts (zs : List Int) (L : List (List Nat)) : Prop where
  cyc : ∀ i, i < L.length → IsCyc zs (L[i]?.getD [])
  closed : ∀ i, ClosedS zs (L.take i).flatten
  apart : ∀ i, i < L.length → ∀ y, y ∈ (L.take i).flatten → ¬ y ∈ L[i]?.getD []
  all : blend zs L.flatten = zs
  small : L.length ≤ zs.length
  len : ∀ i, i < L.length → (L[i]?.getD []).length ≤ zs.length
theorem parts_of {zs : List Int} (hp : IsPerm zs) : Parts zs (moved (cyc zs)) := by
  obtain ⟨h1, h2, h3⟩ := cyc_spec hp
  have hm : ∀ c, c ∈ moved (cyc zs) → IsCyc zs c := fun c hc => h1 c (List.mem_filter.1 hc).1
  have hpw : (moved (cyc zs)).Pairwise (fun c d => ∀ y, y ∈ c → ¬ y ∈ d) := h2.sublist List.filter_sublist
  refine ⟨fun i hi => ?_, fun i => closed_flat hp _ (fun c hc => hm c (List.mem_of_mem_take hc)), fun i hi y hy => ?_, ?_, Nat.le_trans (List.length_filter_le _ _) (cyc_len zs), fun i hi => ?_⟩
  · rw [List.getElem?_eq_getElem hi]
    exact hm _ (List.getElem_mem hi)
  · obtain ⟨d, hd, hyd⟩ := List.mem_flatten.1 hy
    obtain ⟨j, hj, rfl⟩ := List.getElem_of_mem hd
    simp at hj
    rw [List.getElem_take] at hyd
    rw [List.getElem?_eq_getElem hi]
    exact List.pairwise_iff_getElem.1 hpw j i (by omega) hi (by omega) y hyd
  · refine blend_all hp fun x hx hn => ?_
    obtain ⟨c, hc, hxc⟩ := h3 x hx
    have hl : ¬ 1 < c.length := fun hl => hn (List.mem_flatten.2 ⟨c, List.mem_filter.2 ⟨hc, by simpa using hl⟩, hxc⟩)
    have hc1 : c.length = 1 := by
      have := List.length_pos_iff.2 (h1 c hc).ne
      omega
    obtain ⟨y, rfl⟩ := List.length_eq_one_iff.1 hc1
    obtain rfl : x = y := by simpa using hxc
    simpa using (h1 _ hc).next 0 (by simp)
  · rw [List.getElem?_eq_getElem hi]
    exact (cyc_pts hp (List.mem_filter.1 (List.getElem_mem hi)).1).1
end Go.Proofs.YtpcfljkniodlbaaDoor
