/- What the document's RankOf answers at a permutation of at most 100 points; what perm.Rank answers there. Condition: the library's table of powers of ten as the program lays it. -/
import Derived.Test.YtjchmhngfnlbhaaDoorBz
import Derived.Test.YtjchmhngfnlbhaaDoorDcm
import Derived.Test.YtjchmhngfnlbhaaDoorRank
import Derived.Test.YtjchmhngfnlbhaaDoorOrd
import Derived.Test.YtjchmhngfnlbhaaDoorSgn
import Derived.Test.YtjchmhngfnlbhaaDoorSla
namespace Go.Proofs.YtjchmhngfnlbhaaDoor
open Go Go.RowKit

theorem Sgnm.map_nodup' {zs : List Int} (hp : IsPerm zs) (i : Nat) : (((zs.drop (i + 1)).filter fun x => decide (x < zs[i]?.getD 0)).map Int.toNat).Nodup := by
  have hn : zs.Nodup := by
    unfold List.Nodup
    rw [List.pairwise_iff_getElem]
    intro a b ha hb hab e
    exact hp.2 a b hab hb (by rw [List.getElem?_eq_getElem ha, List.getElem?_eq_getElem hb, e])
  have h1 : ((zs.drop (i + 1)).filter fun x => decide (x < zs[i]?.getD 0)).Nodup := ((List.drop_sublist _ _).nodup hn).filter _
  have hpos : ∀ z, z ∈ (zs.drop (i + 1)).filter (fun x => decide (x < zs[i]?.getD 0)) → 0 ≤ z := fun z hz => by
    have hz2 := List.mem_of_mem_drop (List.mem_filter.1 hz).1
    obtain ⟨j, hj⟩ := List.mem_iff_getElem?.1 hz2
    have hjl := (List.getElem?_eq_some_iff.1 hj).1
    have := (hp.1 j hjl).1
    rw [hj] at this
    exact this
  rw [List.nodup_iff_pairwise_ne, List.pairwise_map]
  exact List.Pairwise.imp_of_mem (fun ha hb h e => h (by have := hpos _ ha; have := hpos _ hb; omega)) h1
def fac : Nat → Nat
  | 0 => 1
  | k + 1 => (k + 1) * fac k
/-- The rank of the first places, each with its factorial. -/
def rof (zs : List Int) : Nat → Nat
  | 0 => 0
  | k + 1 => rof zs k + lb zs k * fac (zs.length - 1 - k)
theorem rk_rof (zs : List Int) : ∀ k, k ≤ zs.length → rk zs k * fac (zs.length - k) = rof zs k
  | 0, _ => by simp [rk, rof]
  | k + 1, hk => by
    have ih := rk_rof zs k (by omega)
    have e : zs.length - k = (zs.length - 1 - k) + 1 := by omega
    rw [rk, rof, ← ih, show zs.length - (k + 1) = zs.length - 1 - k by omega, e, fac, ← e, Nat.add_mul, Nat.mul_assoc]
theorem rk_end (zs : List Int) : rk zs zs.length = rof zs zs.length := by
  have := rk_rof zs zs.length (Nat.le_refl _)
  rw [Nat.sub_self, fac, Nat.mul_one] at this
  exact this
/-- How many numbers below x are not among the first i. -/
def lessTo (zs : List Int) (i x : Nat) : Nat := ((List.range x).filter fun (y : Nat) => !decide (((y : Nat) : Int) ∈ zs.take i)).length
theorem lessTo_hit {zs : List Int} {i x : Nat} (h : ¬ (x : Int) ∈ zs.take i) : lessTo zs i (x + 1) = lessTo zs i x + 1 := by
  unfold lessTo; rw [List.range_succ, List.filter_append, List.length_append]; simp [h]
theorem lessTo_miss {zs : List Int} {i x : Nat} (h : (x : Int) ∈ zs.take i) : lessTo zs i (x + 1) = lessTo zs i x := by
  unfold lessTo; rw [List.range_succ, List.filter_append, List.length_append]; simp [h]
theorem lessTo_le (zs : List Int) (i x : Nat) : lessTo zs i x ≤ x := Nat.le_trans (List.length_filter_le _ _) (by simp)
theorem lessTo_lb {zs : List Int} (hp : IsPerm zs) {i : Nat} (hi : i < zs.length) : lessTo zs i (nx zs i) = lb zs i := by
  have hv := nx_lt hp hi
  have hlb : lb zs i = (((zs.drop (i + 1)).filter fun x => decide (x < zs[i]?.getD 0)).map Int.toNat).length := by rw [List.length_map]; rfl
  rw [hlb]
  unfold lessTo
  refine List.Perm.length_eq ((List.perm_ext_iff_of_nodup (List.nodup_range.filter _) ?_).2 fun x => ?_)
  · refine Sgnm.map_nodup' hp i
  · rw [List.mem_filter, List.mem_range, List.mem_map]
    constructor
    · rintro ⟨hx, hm⟩
      have hm' : ¬ (x : Int) ∈ zs.take i := by simpa using hm
      obtain ⟨j, hj, hjx⟩ := Sgnm.meets (n := zs.length) (f := nx zs) (fun y hy => (nx_lt hp hy).1) (fun a b ha hb h => nx_inj hp ha hb h) (show x < zs.length by omega)
      have hzj := (nx_lt hp hj).2
      rw [hjx] at hzj
      have hji : i < j := by
        rcases Nat.lt_trichotomy j i with h | h | h
        · exact absurd ((mem_take (by omega) _).2 ⟨j, h, hzj⟩) hm'
        · subst h; omega
        · exact h
      refine ⟨(x : Int), ?_, by simp⟩
      rw [List.mem_filter]
      refine ⟨?_, by rw [hv.2]; simpa using hx⟩
      rw [List.mem_iff_getElem?]
      refine ⟨j - (i + 1), ?_⟩
      rw [List.getElem?_drop, show i + 1 + (j - (i + 1)) = j by omega]
      rw [List.getElem?_eq_getElem hj] at hzj ⊢
      simpa using hzj
    · rintro ⟨z, hz, rfl⟩
      rw [List.mem_filter] at hz
      obtain ⟨hz1, hz2⟩ := hz
      obtain ⟨j, hj⟩ := List.mem_iff_getElem?.1 hz1
      rw [List.getElem?_drop] at hj
      have hjl := (List.getElem?_eq_some_iff.1 hj).1
      have hzj : zs[i + 1 + j]?.getD 0 = z := by rw [hj]; rfl
      have hnn := nx_lt hp hjl
      rw [hzj] at hnn
      have hz2' : z < zs[i]?.getD 0 := by simpa using hz2
      rw [hv.2] at hz2'
      refine ⟨by omega, ?_⟩
      have : ¬ ((z.toNat : Nat) : Int) ∈ zs.take i := by
        rw [show ((z.toNat : Nat) : Int) = z by omega]
        intro hm
        obtain ⟨t, ht, hte⟩ := (mem_take (by omega) _).1 hm
        exact hp.2 t (i + 1 + j) (by omega) hjl (hte.trans hzj.symm)
      simpa using this
end Go.Proofs.YtjchmhngfnlbhaaDoor
