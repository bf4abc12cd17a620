/- Mathematics of the law BeadsTurns: the least of a list and of its turns; one piece alone. No condition. -/
import Derived.Test.YtojnjfkonaeegaaDoorLfm
namespace Go.Proofs.YtojnjfkonaeegaaDoor

theorem bst_some (zs : List Int) : ∀ k, 1 ≤ k → ∃ b, Bst zs k b
  | 0, h => by omega
  | 1, _ => ⟨0, Bst.one zs⟩
  | k + 2, _ => by
    obtain ⟨b, hb⟩ := bst_some zs (k + 1) (by omega)
    by_cases h : LT (Xp zs) (k + 1) b
    · exact ⟨_, hb.move h⟩
    · exact ⟨_, hb.stay h⟩
theorem wd_trn {zs : List Int} {m : Nat} (hm : m < zs.length) (h : Wd zs) : Wd (trn zs m) := by
  have hl := trn_len zs m (by omega)
  refine ⟨by rw [hl]; exact h.pos, by rw [hl]; exact h.len, fun x hx => h.lt x ?_⟩
  unfold trn at hx
  rcases List.mem_append.1 hx with h1 | h1
  · exact List.mem_of_mem_drop h1
  · exact List.mem_of_mem_take h1
theorem xp_trn {zs : List Int} {m : Nat} (hm : m < zs.length) (t : Nat) : Xp (trn zs m) t = Xp zs (m + t) := by
  have hl := trn_len zs m (by omega)
  have h0 : t % zs.length < zs.length := Nat.mod_lt _ (by omega)
  have e : Xp (trn zs m) t = (trn zs m)[t % zs.length]?.getD 0 := by unfold Xp; rw [hl]
  rw [e, trn_get zs hm h0]
  unfold Xp
  rw [Nat.add_mod_mod]
theorem turn_same {zs : List Int} {m b1 b2 : Nat} (hm : m < zs.length) (h1 : Bst zs zs.length b1) (h2 : Bst (trn zs m) (trn zs m).length b2) : trn zs b1 = trn (trn zs m) b2 := by
  have hl := trn_len zs m (by omega)
  have hb1 := h1.lt
  have hb2 := h2.lt
  rw [hl] at hb2
  have e : ∀ t, Xp zs (b1 + t) = Xp zs (m + b2 + t) := by
    rcases LT.tri (Xp zs) b1 (m + b2) with h | h | h
    · exfalso
      refine h2.all (b1 + m * zs.length - m) ?_
      have hle : m ≤ m * zs.length := Nat.le_mul_of_pos_right _ (by omega)
      obtain ⟨j, g1, g2⟩ := h
      refine ⟨j, fun t ht => ?_, ?_⟩
      · rw [xp_trn hm, xp_trn hm]
        have := g1 t ht
        rw [show m + (b1 + m * zs.length - m + t) = b1 + t + m * zs.length by omega, xp_mul, this]; congr 1; omega
      · rw [xp_trn hm, xp_trn hm]
        rw [show m + (b1 + m * zs.length - m + j) = b1 + j + m * zs.length by omega, xp_mul, ← Nat.add_assoc]
        exact g2
    · exact (h1.all _ h).elim
    · exact h
  have l1 := trn_len zs b1 (by omega)
  have l2 := trn_len (trn zs m) b2 (by omega)
  refine List.ext_getElem (by omega) fun t ht1 ht2 => ?_
  have a1 := trn_get zs (i := b1) (t := t) hb1 (by omega)
  have a2 := trn_get (trn zs m) (i := b2) (t := t) (by omega) (by omega)
  rw [List.getElem?_eq_getElem ht1] at a1
  rw [List.getElem?_eq_getElem ht2] at a2
  simp only [Option.getD_some] at a1 a2
  rw [a1, a2, xp_trn hm, e, Nat.add_assoc]
theorem one_iff {xs : List Int} (h0 : 0 < xs.length) : (fls (X xs) xs.length xs.length 0).length = 1 ↔ Lyd xs := by
  have hF := falls_list xs
  have hc : fls (X xs) xs.length xs.length 0 = fls (Xp xs) xs.length xs.length 0 := fls_congr (fun t ht => by unfold X Xp; rw [Nat.mod_eq_of_lt ht]) _ _
  constructor
  · intro h
    generalize fls (X xs) xs.length xs.length 0 = L at *
    match L, h with
    | [q], _ =>
      obtain ⟨h1, h2, h3, h4, h5⟩ := hF
      have h6 : 0 + q.2 = xs.length := h5
      have := lyn_lyd (zs := xs) (b := 0) (l := q.2) (by omega) h2
      have e : pce xs 0 q.2 = xs := by unfold pce; rw [List.drop_zero, List.take_of_length_le (by omega)]
      rwa [e] at this
  · intro hy
    have hG : Falls (Xp xs) xs.length 0 (fls (Xp xs) xs.length xs.length 0) := fls_spec _ 0 (by omega) (by omega)
    have hp := falls_pos h0
    rw [hc] at hp ⊢
    generalize fls (Xp xs) xs.length xs.length 0 = L at *
    match L, hp with
    | [q], _ => rfl
    | q :: s :: r, _ =>
      exfalso
      obtain ⟨i, i0, i1, i2⟩ := turn_of_more (xp_per xs) (by simp) hG
      have := hy.2 i i0 i1
      rw [← trn_zero xs] at this
      simp only [trn_zero] at this
      have h3 := (lss_iff xs (i := 0) (b := i) h0 i1).1 (by rw [trn_zero]; exact this)
      exact i2 h3

end Go.Proofs.YtojnjfkonaeegaaDoor
