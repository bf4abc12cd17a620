/- Powers of permutations as lists. -/
import Derived.Test.YtjchmhngfnlbhaaDoorOrbit
namespace Go.Proofs.YtjchmhngfnlbhaaDoor

def itN (f : Nat → Nat) : Nat → Nat → Nat
  | 0, x => x
  | k + 1, x => itN f k (f x)
theorem itN_add (f : Nat → Nat) : ∀ (a b x : Nat), itN f (a + b) x = itN f b (itN f a x)
  | 0, b, x => by simp [itN]
  | a + 1, b, x => by rw [show a + 1 + b = (a + b) + 1 by omega, itN, itN_add f a b, itN]
theorem itN_succ (f : Nat → Nat) (k x : Nat) : itN f (k + 1) x = f (itN f k x) := by rw [itN_add]; rfl
theorem itN_lt {zs : List Int} (hp : IsPerm zs) : ∀ (k : Nat) {x : Nat}, x < zs.length → itN (nx zs) k x < zs.length
  | 0, _, hx => hx
  | k + 1, _, hx => itN_lt hp k (nx_lt hp hx).1
theorem itN_inj {zs : List Int} (hp : IsPerm zs) : ∀ (k : Nat) {x y : Nat}, x < zs.length → y < zs.length → itN (nx zs) k x = itN (nx zs) k y → x = y
  | 0, _, _, _, _, h => h
  | k + 1, _, _, hx, hy, h => nx_inj hp hx hy (itN_inj hp k (nx_lt hp hx).1 (nx_lt hp hy).1 h)

def powN (zs : List Int) (n : Nat) : List Int := (List.range zs.length).map fun x => ((itN (nx zs) n x : Nat) : Int)
theorem powN_len (zs : List Int) (n : Nat) : (powN zs n).length = zs.length := by simp [powN]
theorem powN_get {zs : List Int} (n : Nat) {x : Nat} (hx : x < zs.length) : (powN zs n)[x]?.getD 0 = ((itN (nx zs) n x : Nat) : Int) := by simp [powN, hx]
theorem powN_perm {zs : List Int} (hp : IsPerm zs) (n : Nat) : IsPerm (powN zs n) := by
  refine ⟨fun i hi => ?_, fun i j hij hj => ?_⟩
  · rw [powN_len] at hi ⊢
    rw [powN_get n hi]
    have := itN_lt hp n hi
    omega
  · rw [powN_len] at hj
    rw [powN_get n (by omega), powN_get n hj]
    intro e
    have := itN_inj hp n (by omega) hj (by omega : itN (nx zs) n i = itN (nx zs) n j)
    omega
theorem powN_nx {zs : List Int} (n : Nat) {x : Nat} (hx : x < zs.length) : nx (powN zs n) x = itN (nx zs) n x := by
  unfold nx
  rw [powN_get n hx]; rfl
theorem powN_zero (zs : List Int) : powN zs 0 = idL zs.length := rfl
theorem powN_one {zs : List Int} (hp : IsPerm zs) : powN zs 1 = zs := by
  apply list_ext (powN_len _ _)
  intro i hi
  rw [powN_len] at hi
  rw [powN_get 1 hi, (nx_lt hp hi).2]; rfl
theorem powN_add {zs : List Int} (hp : IsPerm zs) (a b : Nat) : mulL (powN zs a) (powN zs b) = powN zs (a + b) := by
  apply list_ext (by rw [mulL_len, powN_len, powN_len])
  intro i hi
  rw [mulL_len, powN_len] at hi
  rw [mulL_get _ (by rw [powN_len]; exact hi), powN_get a hi, powN_get (a + b) hi, Int.toNat_natCast, powN_get b (itN_lt hp a hi), itN_add]
theorem nx_inv {zs : List Int} (hp : IsPerm zs) {x : Nat} (hx : x < zs.length) : nx (invL zs) (nx zs x) = x := by
  show ((invL zs)[nx zs x]?.getD 0).toNat = x
  rw [invL_get hp hx]; rfl
theorem itN_inv {zs : List Int} (hp : IsPerm zs) : ∀ (k : Nat) {x : Nat}, x < zs.length → itN (nx (invL zs)) k (itN (nx zs) k x) = x
  | 0, _, _ => rfl
  | k + 1, x, hx => by
    rw [itN_succ (nx zs), itN, nx_inv hp (itN_lt hp k hx)]
    exact itN_inv hp k hx
theorem inv_pow {zs : List Int} (hp : IsPerm zs) (m : Nat) : invL (powN zs m) = powN (invL zs) m := by
  have hp' := powN_perm hp m
  apply list_ext (by rw [invL_len, powN_len, powN_len, invL_len])
  intro y hy
  rw [invL_len] at hy
  obtain ⟨i, hi, rfl⟩ := perm_hits hp' hy
  rw [invL_get hp' hi]
  rw [powN_len] at hi
  rw [powN_nx m hi, powN_get m (by rw [invL_len]; exact itN_lt hp m hi), itN_inv hp m hi]
def powZ (zs : List Int) (n : Int) : List Int := if n < 0 then powN (invL zs) (-n).toNat else powN zs n.toNat
theorem powZ_len (zs : List Int) (n : Int) : (powZ zs n).length = zs.length := by
  unfold powZ; split
  · rw [powN_len, invL_len]
  · rw [powN_len]
theorem powZ_perm {zs : List Int} (hp : IsPerm zs) (n : Int) : IsPerm (powZ zs n) := by
  unfold powZ; split
  · exact powN_perm (invL_perm hp) _
  · exact powN_perm hp _
theorem powZ_nat (zs : List Int) (n : Nat) : powZ zs n = powN zs n := by
  unfold powZ; rw [if_neg (by omega)]; rfl
theorem powZ_neg {zs : List Int} (hp : IsPerm zs) (m : Nat) : mulL (invL zs) (invL (powN zs m)) = powZ zs (-((m : Int) + 1)) := by
  unfold powZ
  rw [if_pos (by omega), inv_pow hp, show (-(-((m : Int) + 1))).toNat = 1 + m by omega, ← powN_add (invL_perm hp), powN_one (invL_perm hp)]

/-- Along a cycle. -/
theorem itN_cyc {zs : List Int} {c : List Nat} (hc : IsCyc zs c) : ∀ (k i : Nat), i < c.length → itN (nx zs) k (c[i]?.getD 0) = c[(i + k) % c.length]?.getD 0
  | 0, i, hi => by rw [itN, Nat.add_zero, Nat.mod_eq_of_lt hi]
  | k + 1, i, hi => by
    have h0 : 0 < c.length := by omega
    rw [itN, hc.next i hi, itN_cyc hc k ((i + 1) % c.length) (Nat.mod_lt _ h0), Nat.mod_add_mod, show i + 1 + k = i + (k + 1) by omega]
theorem powZ_cyc {zs : List Int} (hp : IsPerm zs) {c : List Nat} (hc : IsCyc zs c) (n : Int) (s : Nat) (hs : (s : Int) = n % (c.length : Int)) {i : Nat} (hi : i < c.length) :
    (powZ zs n)[c[i]?.getD 0]?.getD 0 = ((c[(i + s) % c.length]?.getD 0 : Nat) : Int) := by
  have h0 : 0 < c.length := by omega
  have hm : ∀ j, j < c.length → c[j]?.getD 0 < zs.length := fun j hj => hc.lt _ (getD_mem hj)
  unfold powZ
  split
  · rename_i hn
    obtain ⟨m, rfl⟩ : ∃ m : Nat, n = -(m : Int) := ⟨(-n).toNat, by omega⟩
    rw [show (- -(m : Int)).toNat = m by omega, powN_get m (by rw [invL_len]; exact hm i hi)]
    have hz := hm ((i + s) % c.length) (Nat.mod_lt _ h0)
    have h1 := itN_cyc hc m ((i + s) % c.length) (Nat.mod_lt _ h0)
    have hsm : (s + m) % c.length = 0 := by
      have h2 : (((s + m : Nat) : Int)) % (c.length : Int) = 0 := by
        rw [show ((s + m : Nat) : Int) = (s : Int) + (m : Int) by omega, hs, Int.emod_add_emod, Int.add_left_neg, Int.zero_emod]
      omega
    rw [Nat.mod_add_mod, show i + s + m = i + (s + m) by omega, Nat.add_mod i (s + m), hsm, Nat.add_zero, Nat.mod_mod, Nat.mod_eq_of_lt hi] at h1
    rw [← h1, itN_inv hp m hz]
  · rename_i hn
    obtain ⟨m, rfl⟩ : ∃ m : Nat, n = (m : Int) := ⟨n.toNat, by omega⟩
    rw [Int.toNat_natCast, powN_get m (hm i hi), itN_cyc hc m i hi]
    have : s = m % c.length := by
      have h2 : ((m % c.length : Nat) : Int) = (m : Int) % (c.length : Int) := Int.natCast_emod _ _
      omega
    rw [this, Nat.add_mod_mod]

/-- A list of which the places in S are filled, the others 0. -/
def fillS (L : List Int) (S : List Nat) : List Int := (List.range L.length).map fun x => if x ∈ S then L[x]?.getD 0 else 0
theorem fillS_len (L : List Int) (S : List Nat) : (fillS L S).length = L.length := by simp [fillS]
theorem fillS_get {L : List Int} (S : List Nat) {x : Nat} (hx : x < L.length) : (fillS L S)[x]?.getD 0 = if x ∈ S then L[x]?.getD 0 else 0 := by simp [fillS, hx]
theorem fillS_nil (L : List Int) : fillS L [] = List.replicate L.length 0 := by
  apply list_ext (by rw [fillS_len]; simp)
  intro i hi
  rw [fillS_len] at hi
  rw [fillS_get _ hi]; simp [hi]
theorem fillS_set (L : List Int) (S : List Nat) (x : Nat) : (fillS L S).set x (L[x]?.getD 0) = fillS L (S ++ [x]) := by
  apply list_ext (by rw [List.length_set, fillS_len, fillS_len])
  intro i hi
  rw [List.length_set, fillS_len] at hi
  rw [List.getElem?_set, fillS_get _ hi]
  by_cases e : x = i
  · subst e
    rw [if_pos rfl, fillS_len, if_pos hi, if_pos (by simp)]; rfl
  · rw [if_neg e, fillS_get _ hi]
    simp [show ¬ i = x from fun h => e h.symm]
theorem fillS_all {L : List Int} {S : List Nat} (h : ∀ x, x < L.length → x ∈ S) : fillS L S = L := by
  apply list_ext (fillS_len _ _)
  intro i hi
  rw [fillS_len] at hi
  rw [fillS_get _ hi, if_pos (h i hi)]
end Go.Proofs.YtjchmhngfnlbhaaDoor
