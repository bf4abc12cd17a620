/- Powers of a permutation add up, and which of them change nothing. Plain mathematics; no condition. -/
import Derived.Test.YtjchmhngfnlbhaaDoorShm
namespace Go.Proofs.YtjchmhngfnlbhaaDoor

theorem cyc_at {zs : List Int} (hp : IsPerm zs) {x : Nat} (hx : x < zs.length) : ∃ c, c ∈ cyc zs ∧ IsCyc zs c ∧ ∃ i, i < c.length ∧ c[i]?.getD 0 = x := by
  obtain ⟨h1, _, h3⟩ := cyc_spec hp
  obtain ⟨c, hc, hxc⟩ := h3 x hx
  obtain ⟨i, hi, e⟩ := Sgnm.mem_get hxc
  exact ⟨c, hc, h1 c hc, i, hi, e⟩
theorem emod_nat (a : Int) {n : Nat} (hn : 0 < n) : ∃ s : Nat, (s : Int) = a % (n : Int) ∧ s < n := by
  have h1 := Int.emod_nonneg a (show (n : Int) ≠ 0 by omega)
  have h2 := Int.emod_lt_of_pos a (show (0 : Int) < (n : Int) by omega)
  exact ⟨(a % (n : Int)).toNat, by omega, by omega⟩
theorem powZ_add {zs : List Int} (hp : IsPerm zs) (a b : Int) : mulL (powZ zs a) (powZ zs b) = powZ zs (a + b) := by
  apply list_ext (by rw [mulL_len, powZ_len, powZ_len])
  intro x hx
  rw [mulL_len, powZ_len] at hx
  obtain ⟨c, _, hc, i, hi, e⟩ := cyc_at hp hx
  have h0 : 0 < c.length := by omega
  obtain ⟨s, hs, _⟩ := emod_nat a h0
  obtain ⟨t, ht, _⟩ := emod_nat b h0
  obtain ⟨r, hr, hrl⟩ := emod_nat (a + b) h0
  have hrst : r = (s + t) % c.length := by
    have : (r : Int) = ((s + t : Nat) : Int) % (c.length : Int) := by
      rw [hr, Int.add_emod, ← hs, ← ht]; simp
    omega
  rw [mulL_get _ (by rw [powZ_len]; exact hx), ← e, powZ_cyc hp hc a s hs hi, Int.toNat_natCast, powZ_cyc hp hc b t ht (Nat.mod_lt _ h0), powZ_cyc hp hc (a + b) r hr hi, hrst, Nat.mod_add_mod, Nat.add_mod_mod, Nat.add_assoc]
theorem powZ_still {zs : List Int} (hp : IsPerm zs) (a : Int) : powZ zs a = idL zs.length ↔ ((lcmL (lens zs) : Nat) : Int) ∣ a := by
  obtain ⟨h1, _, _⟩ := cyc_spec hp
  rw [Int.ofNat_dvd_left, lcmL_dvd]
  constructor
  · intro h k hk
    obtain ⟨c, hc, rfl⟩ := List.mem_map.1 hk
    have hcc := h1 c hc
    have h0 : 0 < c.length := List.length_pos_iff.2 hcc.ne
    obtain ⟨s, hs, hsl⟩ := emod_nat a h0
    have e := powZ_cyc hp hcc a s hs h0
    rw [h, idL_get (hcc.lt _ (getD_mem h0)), Nat.zero_add, Nat.mod_eq_of_lt hsl] at e
    have e2 : (0 : Nat) = s := nodup_getD hcc.nodup h0 hsl (by omega)
    subst e2
    rw [← Int.ofNat_dvd_left]
    exact Int.dvd_of_emod_eq_zero (by omega)
  · intro h
    apply list_ext (by rw [powZ_len, idL_len])
    intro x hx
    rw [powZ_len] at hx
    obtain ⟨c, hcm, hc, i, hi, e⟩ := cyc_at hp hx
    have h0 : 0 < c.length := by omega
    have hd := h c.length (List.mem_map.2 ⟨c, hcm, rfl⟩)
    rw [← Int.ofNat_dvd_left] at hd
    rw [← e, powZ_cyc hp hc a 0 (by have := Int.emod_eq_zero_of_dvd hd; omega) hi, Nat.add_zero, Nat.mod_eq_of_lt hi, idL_get (hc.lt _ (getD_mem hi))]
end Go.Proofs.YtjchmhngfnlbhaaDoor
