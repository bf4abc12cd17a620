/- The product of two things of a list, by their indices: what the closure in Perms of package table answers. No condition. -/
import Derived.Test.YtgphcfmiamiojaaMkc
namespace Go.Proofs.Ytgphcfmiamiojaa
open Go Go.RowKit
open Pm

theorem mul_id {xs : List Int} (hx : IsPerm xs) : mulL xs (idL xs.length) = xs := by
  apply Pm.list_ext (by simp [mulL_len])
  intro i hi
  rw [mulL_len] at hi
  rw [mulL_get _ hi, (nx_lt hx hi).2, Int.toNat_natCast, idL_get (nx_lt hx hi).1]
/-- Products stay. -/
theorem Gd.prod {l : List (List Int)} {n : Nat} (hl : Prms l n) {p q : List Int} (hp : Gd l n p) (hq : Gd l n q) : Gd l n (mulL p q) := by
  induction hq with
  | one =>
    have h := mul_id (hp.prm hl).1
    rw [(hp.prm hl).2] at h
    rw [h]; exact hp
  | @mul a b ha hb ih =>
    have h1 := hp.prm hl
    have h2 := ha.prm hl
    rw [← mulL_assoc h1.1 (by rw [h1.2, h2.2])]
    exact .mul ih hb
/-- The index of a product. -/
def pf (T : List (List Int)) (a b : Nat) : Nat := T.idxOf (mulL (T[a]?.getD []) (T[b]?.getD []))
theorem idx_at {T : List (List Int)} {p : List Int} {i : Nat} (hT : RiseL T) (hi : AtL T p i) (hp : p ∈ T) : T.idxOf p = i := by
  obtain ⟨h1, h2⟩ := (hi.found hT).1 hp
  have h3 : T.idxOf p < T.length := List.idxOf_lt_length_iff.2 hp
  have h4 : T[T.idxOf p] = p := List.getElem_idxOf h3
  rw [List.getElem?_eq_getElem h1] at h2
  simp only [Option.getD_some] at h2
  exact (List.getElem_inj hT.nodup).1 (h4.trans h2.symm)
theorem AllP.at_ {l T : List (List Int)} {n : Nat} (h : AllP l n T) {a : Nat} (ha : a < T.length) : Gd l n (T[a]?.getD []) := by
  rw [List.getElem?_eq_getElem ha]; exact (h.2 _).1 (List.getElem_mem _)
theorem AllP.prod {l T : List (List Int)} {n : Nat} (hl : Prms l n) (h : AllP l n T) {a b : Nat} (ha : a < T.length) (hb : b < T.length) : mulL (T[a]?.getD []) (T[b]?.getD []) ∈ T :=
  (h.2 _).2 (Gd.prod hl (h.at_ ha) (h.at_ hb))
theorem call20 (a b : Int) (x : Value) (W : World) : Sem.run Try.prog (callFunc 20 (#[.int .i64 a, .int .i64 b] ++ #[x])) W = .ok (.enter 20 (#[.int .i64 a, .int .i64 b] ++ #[x])) W := by kernel_rfl

set_option maxRecDepth 100000 in
set_option maxHeartbeats 8000000 in
theorem perms1_ok (l T : List (List Int)) (n tb a b : Nat) (tv : Value) (w : World) (hl : Prms l n) (hn : n ≤ 1000) (hA : AllP l n T) (h60 : T.length ≤ 60) (hx : Boxed w tb 22 tv) (hv : SlL w tv T) (ha : a < T.length) (hb : b < T.length) :
    Calls Try.prog 20 (#[.int .i64 a, .int .i64 b] ++ #[.pointer (some ⟨tb, 0, none⟩)]) w fun e w' => e = .returned (.int .i64 (pf T a b)) ∧ Below w.heap.size w w' := by
  have hvl := hv
  have hpa := (hA.at_ ha).prm hl
  have hpb := (hA.at_ hb).prm hl
  have hprod := hA.prod hl ha hb
  have hrl : ∀ q, q ∈ T → q.length ≤ 1000000 := fun q hq => by have := (((hA.2 q).1 hq).prm hl).2; omega
  obtain ⟨av, cap, pb, po, rfl, h0, hc, hpl, hc1, hc2⟩ := hv
  obtain rfl := h0 (by omega)
  obtain ⟨x, hxc, hxs⟩ := hc a ha
  obtain ⟨y, hyc, hys⟩ := hc b hb
  have hix : T.idxOf (mulL (T[a]?.getD []) (T[b]?.getD [])) = pf T a b := rfl
  generalize T[a]?.getD [] = p at hxs hpa hprod hix
  generalize T[b]?.getD [] = q at hys hpb hprod hix
  have HMV := hide (fun (V : World) (h : Below w.heap.size w V) => moved_ok x y p q V (hxs.below h) (hys.below h) hpa.1 hpb.1 (by rw [hpa.2, hpb.2]) (by rw [hpa.2]; exact hn))
  have hml : (mulL p q).length = p.length := mulL_len p q
  have HPL := hide (fun (V : World) (g : Nat) (h : Below w.heap.size w V) (hk : Blk V g 3 ((mulL p q).map (Value.int .i64))) => place_ok _ (.slice (some ⟨g, 0, none⟩) p.length p.length) T (mulL p q) V (hvl.below h) ((RowF.of_blk hk hml.symm (by rw [hml, hpa.2]; omega)).sl (by have := hk.lt; omega)) hA.1 (by omega) (by rw [hml, hpa.2]; omega) hrl)
  have hbx := hx.cell
  have hai : (a : Int) < (T.length : Int) := by omega
  have hbi : (b : Int) < (T.length : Int) := by omega
  have hS : ∀ W, Below w.heap.size w W → (Below w.heap.size w W ∧ W.cell? ⟨tb, 0, none⟩ = some (.slice (some ⟨pb, po, none⟩) T.length cap) ∧ W.cell? ⟨pb, po + a, none⟩ = some x ∧ W.cell? ⟨pb, po + b, none⟩ = some y) := fun W h => ⟨h, below_cell h hbx, below_cell h hxc, below_cell h hyc⟩
  have hS0 := hS _ (bdrew (Below.refl _ w))
  have HR := hide (fun i (hi : AtL T (mulL p q) i) => (idx_at hA.1 hi hprod).symm.trans hix)
  clear hx hvl hpa hpb hprod hrl h0 hc hxs hys hix hA hl
  go_enter Try.func20, Try.ntmps20
  go_wp2_with fail
  go_region_held3 (fun W => Below w.heap.size w W ∧ W.cell? ⟨tb, 0, none⟩ = some (.slice (some ⟨pb, po, none⟩) T.length cap) ∧ W.cell? ⟨pb, po + a, none⟩ = some x ∧ W.cell? ⟨pb, po + b, none⟩ = some y)
    (first | exact hS0 | assumption | exact hS _ (bcat2 (And.left ‹_ ∧ _›) hl1))
    (first
      | (go_at_call 22; refine (HMV.out _ (And.left ‹_ ∧ _›)).mono ?_; rintro e W1 ⟨g, rfl, hk1, hg1, hl1⟩)
      | (go_at_call 21; refine (HPL.out _ g (And.left ‹_ ∧ _›) (by first | exact hk1 | exact hk1.of_eq rfl)).mono ?_; rintro e W2 ⟨⟨i, hi, rfl⟩, rfl⟩))
  obtain ⟨hB, _⟩ := ‹Below w.heap.size w W2 ∧ _›
  have HE := hide (HR.out i hi)
  clear hS hS0 hk1 hl1 hi
  go_wp2
  go_ret
  exact ⟨retI (by rw [HE.out]), hB⟩
end Go.Proofs.Ytgphcfmiamiojaa
