/- What the closure in of the document's Generated answers. No condition. -/
import Derived.Test.YtgphcfmiamiojaaLes
namespace Go.Proofs.Ytgphcfmiamiojaa
open Go Go.RowKit
open Pm

theorem call25 (x : Value) (b : Value) (W : World) : Sem.run Try.prog (callFunc 25 #[x, b]) W = .ok (.enter 25 #[x, b]) W := by kernel_rfl

set_option maxRecDepth 100000 in
set_option maxHeartbeats 4000000 in
theorem in_ok (b : Nat) (ov pv : Value) (L : List (List Int)) (p : List Int) (w : World) (hb : Boxed w b 22 ov) (hL : SlL w ov L) (hp : Sl w pv p) :
    Calls Try.prog 25 #[pv, .pointer (some ⟨b, 0, none⟩)] w fun e w' => e = .returned (.bool (decide (p ∈ L))) ∧ Below w.heap.size w w' := by
  obtain ⟨a, cap, pb, po, rfl, h0, hc, hpl, hc1, hc2⟩ := hL
  have HA := hide (And.intro h0 hc)
  have HB := hide hb
  have hcm : cap ≤ 9223372036854775807 := by unfold maxLen at hc2; omega
  clear h0 hc hc2
  go_enter Try.func25, Try.ntmps25
  go_wp2
  go_loopw [4] (fun i wr => ∃ k : Nat, k ≤ L.length ∧ i = .int .i64 k ∧ (∀ j, j < k → L[j]?.getD [] ≠ p) ∧ Below w.heap.size w wr) (fun i _ => L.length - (intOf i).toNat)
  case atStart => exact ⟨0, Nat.zero_le _, rfl, fun j hj => by omega, Below.refl _ _⟩
  case round =>
    obtain ⟨k, hk, rfl, hno, hB⟩ := hrel
    have HN := hide hno
    have HB9 := hide hB
    have bx := (Boxed.below HB.out hB).cell
    clear hno
    by_cases hlt : k < L.length
    · obtain rfl := HA.out.1 (by omega)
      obtain ⟨x, hxc, hxs⟩ := HA.out.2 k hlt
      obtain ⟨q, hq⟩ : ∃ q, L[k]?.getD [] = q := ⟨_, rfl⟩
      rw [hq] at hxs
      have cx := below_cell hB hxc
      have HIN := hide (ints_any x pv q p wr (hxs.below hB) (hp.below hB))
      have hki : (k : Int) < (L.length : Int) := by omega
      have HQ := hide hq
      clear hxs hq hxc hB
      by_cases hpq : q = p
      · rw [show decide (q = p) = true from decide_eq_true hpq] at HIN
        have HD := hide (show decide (p ∈ L) = true from decide_eq_true (by
          rw [← hpq, ← HQ.out, List.getElem?_eq_getElem hlt]; exact List.getElem_mem _))
        clear hpq
        go_wp2_with fail
        refine HIN.out.mono ?_
        rintro e1 w1 ⟨rfl, hb1⟩
        clear bx cx
        go_wp2
        go_ret
        exact ⟨retB HD.out.symm, bcat2 HB9.out hb1⟩
      · rw [show decide (q = p) = false from decide_eq_false hpq] at HIN
        have HE := hide hpq
        clear hpq
        go_wp2_with fail
        refine HIN.out.mono ?_
        rintro e1 w1 ⟨rfl, hb1⟩
        clear bx cx
        go_wp2
        go_roundw
        case rel => exact ⟨k + 1, by omega, by go_num, fun j hj => by
          by_cases e : j = k
          · rw [e, HQ.out]; exact HE.out
          · exact HN.out j (by omega), bcat2 HB9.out hb1⟩
        case measure => simp [intOf]; omega
    · have hkk : k = L.length := by omega
      have HD := hide (show decide (p ∈ L) = false from decide_eq_false (fun e => by
        obtain ⟨j, hj, e2⟩ := List.mem_iff_getElem.1 e
        exact HN.out j (by omega) (by rw [List.getElem?_eq_getElem hj]; exact e2)))
      have hki : ¬ (k : Int) < (L.length : Int) := by omega
      clear hB
      go_wp2
      go_ret
      exact ⟨retB HD.out.symm, HB9.out⟩

/-- What the document's Generated holds on its way: things by makers, none twice. -/
structure Grw (l L : List (List Int)) (n i : Nat) : Prop where
  nd : L.Nodup
  gd : ∀ p, p ∈ L → Gd l n p
  one : idL n ∈ L
  done : ∀ j, j < i → ∀ q, q ∈ l → mulL (L[j]?.getD []) q ∈ L
theorem getD_append {L : List (List Int)} {p : List Int} {j : Nat} (hj : j < L.length) : (L ++ [p])[j]?.getD [] = L[j]?.getD [] := by
  rw [List.getElem?_append_left hj]
theorem Grw.start (l : List (List Int)) (n : Nat) : Grw l [idL n] n 0 := ⟨by simp, fun p hp => by rw [List.mem_singleton.1 hp]; exact .one, by simp, fun j hj => by omega⟩
theorem Grw.push {l L : List (List Int)} {n i k : Nat} (h : Grw l L n i) (hi : i < L.length) (hk : k < l.length) (hnew : ¬ mulL (L[i]?.getD []) (l[k]?.getD []) ∈ L) : Grw l (L ++ [mulL (L[i]?.getD []) (l[k]?.getD [])]) n i := by
  have hg : Gd l n (L[i]?.getD []) := h.gd _ (by rw [List.getElem?_eq_getElem hi]; exact List.getElem_mem _)
  have hm : l[k]?.getD [] ∈ l := by rw [List.getElem?_eq_getElem hk]; exact List.getElem_mem _
  refine ⟨?_, fun p hp => ?_, List.mem_append_left _ h.one, fun j hj q hq => ?_⟩
  · rw [List.nodup_append]
    exact ⟨h.nd, by simp, fun a ha b hb e => hnew (by rw [List.mem_singleton.1 hb] at e; rw [← e]; exact ha)⟩
  · rcases List.mem_append.1 hp with hp | hp
    · exact h.gd p hp
    · rw [List.mem_singleton.1 hp]; exact .mul hg hm
  · rw [getD_append (by omega)]; exact List.mem_append_left _ (h.done j hj q hq)
theorem Grw.next {l L : List (List Int)} {n i : Nat} (h : Grw l L n i) (hk : ∀ t, t < l.length → mulL (L[i]?.getD []) (l[t]?.getD []) ∈ L) : Grw l L n (i + 1) :=
  ⟨h.nd, h.gd, h.one, fun j hj q hq => by
    by_cases e : j = i
    · subst e
      obtain ⟨t, ht, e2⟩ := List.mem_iff_getElem.1 hq
      have := hk t ht
      rw [List.getElem?_eq_getElem ht] at this
      rw [← e2]; exact this
    · exact h.done j (by omega) q hq⟩
theorem Grw.all {l L : List (List Int)} {n : Nat} (h : Grw l L n L.length) : ∀ p, p ∈ L ↔ Gd l n p := fun p => ⟨h.gd p, fun hp => by
  induction hp with
  | one => exact h.one
  | mul _ hq ih =>
    obtain ⟨j, hj, e⟩ := List.mem_iff_getElem.1 ih
    have := h.done j hj _ hq
    rw [List.getElem?_eq_getElem hj] at this
    rw [← e]; exact this⟩
end Go.Proofs.Ytgphcfmiamiojaa
