/- What the numbers are that perm.Next has laid: the least greater permutation's. Plain mathematics; no condition. -/
import Derived.Test.YtjchmhngfnlbhaaDoorNx4
namespace Go.Proofs.YtjchmhngfnlbhaaDoor

theorem swap_get {zs : List Int} {q o : Nat} (hq : q < zs.length) (ho : o < zs.length) (t : Nat) :
    ((zs.set q (zs[o]?.getD 0)).set o (zs[q]?.getD 0))[t]?.getD 0 = if t = o then zs[q]?.getD 0 else if t = q then zs[o]?.getD 0 else zs[t]?.getD 0 := by
  by_cases h1 : t = o
  · subst h1
    rw [if_pos rfl, List.getElem?_set_self (by simpa using ho)]; rfl
  · rw [if_neg h1, List.getElem?_set_ne (fun e => h1 e.symm)]
    by_cases h2 : t = q
    · subst h2
      rw [if_pos rfl, List.getElem?_set_self hq]; rfl
    · rw [if_neg h2, List.getElem?_set_ne (fun e => h2 e.symm)]
theorem Nxt.falls {zs M : List Int} {s o : Nat} (h : Nxt zs M s o) (i : Nat) (hi : s ≤ i) : ∀ j, i < j → j < zs.length → zs[j]?.getD 0 < zs[i]?.getD 0
  | 0, h1, _ => by omega
  | j + 1, h1, h2 => by
    have hf := h.fall (j + 1) (by omega) h2
    rw [Nat.add_sub_cancel] at hf
    by_cases e : i = j
    · subst e; exact hf
    · have := Nxt.falls h i hi j (by omega) (by omega)
      omega
/-- From which place each number comes. -/
def nxp (n s o t : Nat) : Nat := if t < s then (if t = s - 1 then o else t) else if s + (n - 1 - t) = o then s - 1 else s + (n - 1 - t)
theorem Nxt.at {zs M : List Int} {s o : Nat} (h : Nxt zs M s o) {t : Nat} (ht : t < zs.length) : M[t]?.getD 0 = zs[nxp zs.length s o t]?.getD 0 := by
  have h0 := h.s0
  have h1 := h.so
  have h2 := h.on
  unfold nxp
  by_cases hs : t < s
  · rw [if_pos hs, h.low t hs, swap_get (by omega) h2, if_neg (by omega)]
    split <;> rfl
  · obtain ⟨r, rfl⟩ : ∃ r, t = s + r := ⟨t - s, by omega⟩
    rw [if_neg hs, h.high r (by omega), swap_get (by omega) h2, show s + (zs.length - s - 1 - r) = s + (zs.length - 1 - (s + r)) by omega]
    by_cases e : s + (zs.length - 1 - (s + r)) = o
    · rw [if_pos e, if_pos e]
    · rw [if_neg e, if_neg e, if_neg (by omega)]
theorem nxp_lt {n s o t : Nat} (h0 : 0 < s) (h2 : o < n) (ht : t < n) : nxp n s o t < n := by
  unfold nxp; split <;> split <;> omega
theorem nxp_inj {n s o t r : Nat} (h0 : 0 < s) (h1 : s ≤ o) (ht : t < n) (hr : r < n) (h : nxp n s o t = nxp n s o r) : t = r := by
  unfold nxp at h
  split at h <;> split at h <;> split at h <;> split at h <;> omega
theorem Nxt.perm {zs M : List Int} {s o : Nat} (h : Nxt zs M s o) (hp : IsPerm zs) : IsPerm M := by
  have hl := h.len
  refine ⟨fun i hi => ?_, fun i j hij hj e => ?_⟩
  · rw [h.at (by omega), hl]
    exact hp.1 _ (nxp_lt h.s0 h.on (by omega))
  · rw [h.at (by omega), h.at (by omega)] at e
    have a1 := nxp_lt h.s0 h.on (show i < zs.length by omega)
    have a2 := nxp_lt h.s0 h.on (show j < zs.length by omega)
    rcases Nat.lt_trichotomy (nxp zs.length s o i) (nxp zs.length s o j) with k | k | k
    · exact hp.2 _ _ k a2 e
    · have := nxp_inj h.s0 h.so (by omega) (by omega) k
      omega
    · exact hp.2 _ _ k a1 e.symm
/-- WHAT THE LAW ASKS of the next one. -/
theorem Nxt.spec {zs M : List Int} {s o : Nat} (h : Nxt zs M s o) : (∀ t, t < s - 1 → M[t]?.getD 0 = zs[t]?.getD 0) ∧ zs[s - 1]?.getD 0 < M[s - 1]?.getD 0 ∧
    (∀ i, s ≤ i → i < zs.length → ¬ (zs[s - 1]?.getD 0 < zs[i]?.getD 0 ∧ zs[i]?.getD 0 < M[s - 1]?.getD 0)) ∧ (∀ i, s < i → i < zs.length → M[i - 1]?.getD 0 < M[i]?.getD 0 ∧ zs[i]?.getD 0 < zs[i - 1]?.getD 0) := by
  have h0 := h.s0
  have h1 := h.so
  have h2 := h.on
  have hq : M[s - 1]?.getD 0 = zs[o]?.getD 0 := by
    rw [h.at (by omega)]; unfold nxp; rw [if_pos (by omega), if_pos rfl]
  refine ⟨fun t ht => ?_, by rw [hq]; exact h.big, fun i hi hil hc => ?_, fun i hi hil => ⟨?_, h.fall i hi hil⟩⟩
  · rw [h.at (by omega)]; unfold nxp; rw [if_pos (by omega), if_neg (by omega)]
  · rw [hq] at hc
    rcases Nat.lt_trichotomy i o with k | k | k
    · have := h.falls i hi o k h2; omega
    · subst k; omega
    · have := h.small i k hil; omega
  · rw [h.at (by omega), h.at hil]
    obtain ⟨a, ha⟩ : ∃ a, s + (zs.length - 1 - i) = a := ⟨_, rfl⟩
    have k1 : nxp zs.length s o (i - 1) = if a + 1 = o then s - 1 else a + 1 := by
      unfold nxp; rw [if_neg (by omega), show s + (zs.length - 1 - (i - 1)) = a + 1 by omega]
    have k2 : nxp zs.length s o i = if a = o then s - 1 else a := by
      unfold nxp; rw [if_neg (by omega), ha]
    rw [k1, k2]
    by_cases e1 : a + 1 = o
    · rw [if_pos e1, if_neg (by omega)]
      have := h.falls a (by omega) o (by omega) h2
      have := h.big
      omega
    · rw [if_neg e1]
      by_cases e2 : a = o
      · rw [if_pos e2]
        exact h.small (a + 1) (by omega) (by omega)
      · rw [if_neg e2]
        exact h.falls a (by omega) (a + 1) (by omega) (by omega)
end Go.Proofs.YtjchmhngfnlbhaaDoor
