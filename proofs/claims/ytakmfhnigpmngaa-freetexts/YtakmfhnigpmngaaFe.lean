/- What inverse and the document's Turned make of a word. -/
import Derived.Test.YtakmfhnigpmngaaFd
namespace Go.Proofs.Ytakmfhnigpmngaa
open Go Go.RowKit

theorem Row.of_blk {W : World} {B g n : Nat} {zs : List Int} (h : Blk W g 3 (zs.map (Value.int .i64))) (hb : B ≤ g) (hn : n = zs.length) (hm : zs.length ≤ 1000000) : Row W B (.slice (some ⟨g, 0, none⟩) n n) zs := by
  subst hn
  exact ⟨by simp, .inr ⟨g, zs.length, (zs.map (Value.int .i64)).toArray, rfl, hb, h, Nat.le_refl _, by unfold maxLen; omega, by simp, by rw [Nat.mul_one]; exact List.take_of_length_le (by simp)⟩⟩
/-- The inverse while it is written, its last letters first. -/
def ivU (zs : List Int) (k : Nat) : List Int := List.replicate (zs.length - k) 0 ++ wi (zs.take k)
theorem ivU_zero (zs : List Int) : ivU zs 0 = List.replicate zs.length 0 := by simp [ivU, wi_nil]
theorem ivU_len {zs : List Int} {k : Nat} (hk : k ≤ zs.length) : (ivU zs k).length = zs.length := by
  simp [ivU, wi_length]; omega
theorem ivU_full (zs : List Int) : ivU zs zs.length = wi zs := by simp [ivU]
theorem ivU_next {zs : List Int} {k : Nat} (hk : k < zs.length) : (ivU zs k).set (zs.length - 1 - k) (-(zs[k]?.getD 0)) = ivU zs (k + 1) := by
  unfold ivU
  rw [take_snoc' hk, wi_append, show wi [zs[k]?.getD 0] = [-(zs[k]?.getD 0)] by rw [wi_cons]; rfl]
  rw [show zs.length - k = (zs.length - (k + 1)) + 1 by omega, List.replicate_succ', List.append_assoc]
  rw [List.set_append_right _ _ (by simp; omega)]
  simp
  rw [show zs.length - 1 - k - (zs.length - (k + 1)) = 0 by omega]
  rfl

set_option maxRecDepth 100000 in
set_option maxHeartbeats 2000000 in
theorem inverse_ok (v : Value) (zs : List Int) (w : World) (hv : Sl w v zs) (hlt : Lt zs) (hsm : zs.length ≤ 1000000) :
    Calls Try.prog 38 #[v] w fun e w' => ∃ r, e = .returned r ∧ Row w' w.heap.size r (wi zs) ∧ Below w.heap.size w w' := by
  obtain ⟨i0, hi, hz0, hz1, hz2⟩ := info_parts info3b
  obtain ⟨a, cap, pb, po, rfl, hr, hp, hcap, hcm⟩ := hv
  unfold maxLen at hcm
  have HLT := hide hlt
  clear hlt
  go_enter Try.func38, Try.ntmps38
  go_wp2_with (first
    | (at_make; refine wpList_make_full _ rfl _ _ 22 rfl w.heap.size 3 i0 (.int .i64 0) 1 under22b hi hz0 hz1 _ _ _ _ zs.length rfl rfl rfl rfl (by rw [hz2]; omega) (by unfold maxLen; omega) (Nat.le_refl _) ?_))
  intro w1 hown hgr
  have hM : Blk w1 w.heap.size 3 ((ivU zs 0).map (Value.int .i64)) := by
    have := Blk.of_owns hown
    rw [made_rep] at this
    rw [ivU_zero, List.map_replicate]; simpa using this
  have hB1 : Below w.heap.size w w1 := (Below.refl _ w).grown hgr (Nat.le_refl _) (by simp)
  clear hown hgr
  go_wp2
  go_loopw [11] (fun i wr => ∃ k : Nat, k ≤ zs.length ∧ i = .int .i64 k ∧ Blk wr w.heap.size 3 ((ivU zs k).map (Value.int .i64)) ∧ Below w.heap.size w wr) (fun i _ => zs.length - (intOf i).toNat)
  case atStart => exact ⟨0, Nat.zero_le _, rfl, hM, hB1⟩
  case round =>
    clear hM hB1
    obtain ⟨k, hk, rfl, hM, hB⟩ := hrel
    by_cases hlt : k < zs.length
    · obtain rfl := hr.at_ (by omega)
      have hx := (hr.below hB hp).cell k hlt
      obtain ⟨hx1, hx2⟩ := lt_neg (HLT.out.at hlt)
      have HN := hide (ivU_next hlt)
      obtain ⟨x, hxe⟩ : ∃ x, zs[k]?.getD 0 = x := ⟨_, rfl⟩
      rw [hxe] at hx hx1 hx2 HN
      clear hxe
      have hkl : (k : Int) < (zs.length : Int) := by omega
      obtain ⟨q, hq⟩ : ∃ q : Nat, q = zs.length - 1 - k := ⟨_, rfl⟩
      rw [← hq] at HN
      have hq1 : ((zs.length : Int) - 1) - (k : Int) = (q : Int) := by omega
      have HQ := hide hq
      have hql : (q : Int) < (zs.length : Int) := by omega
      have hcellq := hM.int (y := q) (by rw [ivU_len (by omega)]; omega)
      have hfrq := hM.frozen q
      have hM2 := hM.setInt q (-x)
      rw [HN.out] at hM2
      have hB2 := hB.setCell (p := ⟨w.heap.size, q, none⟩) (Nat.le_refl _) (.int .i64 (-x))
      clear hq hM
      go_wp2
      go_roundw
      case rel => exact ⟨k + 1, by omega, by go_num, hM2, hB2⟩
      case measure => simp [intOf]; omega
    · have hkk : k = zs.length := by omega
      subst hkk
      rw [ivU_full] at hM
      have hrow : Row wr w.heap.size (.slice (some ⟨w.heap.size, 0, none⟩) zs.length zs.length) (wi zs) := Row.of_blk hM (Nat.le_refl _) (wi_length zs).symm (by rw [wi_length]; exact hsm)
      go_wp2
      go_ret
      exact ⟨_, rfl, hrow, hB⟩

theorem wi_drop {zs : List Int} {k : Nat} (hk : k < zs.length) : wi (zs.drop k) = wi (zs.drop (k + 1)) ++ [-(zs[k]?.getD 0)] := by
  rw [List.drop_eq_getElem_cons hk, wi_cons]; simp [hk]

set_option maxRecDepth 100000 in
set_option maxHeartbeats 2000000 in
theorem turned_ok (v : Value) (zs : List Int) (w : World) (hv : Sl w v zs) (hlt : Lt zs) (hsm : zs.length ≤ 1000000) :
    Calls Try.prog 27 #[v] w fun e w' => ∃ r, e = .returned r ∧ Row w' w.heap.size r (wi zs) ∧ Below w.heap.size w w' := by
  obtain ⟨i0, hi, hz0, hz1, hz2⟩ := info_parts info3b
  obtain ⟨a, cap, pb, po, rfl, hr, hp, hcap, hcm⟩ := hv
  unfold maxLen at hcm
  have HLT := hide hlt
  clear hlt
  go_enter Try.func27, Try.ntmps27
  go_wp2
  go_loopw [3, 4] (fun o i wr => ∃ k : Nat, k ≤ zs.length ∧ i = .int .i64 k ∧ Row wr w.heap.size o (wi (zs.drop k)) ∧ Below w.heap.size w wr) (fun _ i _ => (intOf i).toNat)
  case atStart => exact ⟨zs.length, Nat.le_refl _, rfl, by rw [List.drop_length]; exact nil_row _ _, Below.refl _ _⟩
  case round =>
    obtain ⟨k, hk, rfl, hrow, hB⟩ := hrel
    have hBs := hB.size
    by_cases hk0 : k = 0
    · subst hk0
      rw [List.drop_zero] at hrow
      go_wp2
      go_ret
      exact ⟨_, rfl, hrow, hB⟩
    · obtain ⟨q, rfl⟩ : ∃ q, k = q + 1 := ⟨k - 1, by omega⟩
      obtain rfl := hr.at_ (by omega)
      have hx := (hr.below hB hp).cell q (by omega)
      obtain ⟨hx1, hx2⟩ := lt_neg (HLT.out.at (show q < zs.length by omega))
      have HN := hide (wi_drop (show q < zs.length by omega))
      obtain ⟨x, hxe⟩ : ∃ x, zs[q]?.getD 0 = x := ⟨_, rfl⟩
      rw [hxe] at hx hx1 hx2 HN
      clear hxe
      have HL := hide (show (wi (zs.drop (q + 1))).length ≤ 1000000 by rw [wi_length, List.length_drop]; omega)
      have hown : wr.ownsRow w.heap.size 3 1 u3 (wi (zs.drop (q + 1))).length ((wi (zs.drop (q + 1))).map (Value.int .i64)) := hrow
      clear hrow
      generalize wi (zs.drop (q + 1)) = xs at *
      have hql : (q : Int) < (zs.length : Int) := by omega
      go_wp2_with (first
        | (at_builtin; refine wpList_append_own _ rfl _ _ 22 rfl w.heap.size 3 i0 (.int .i64 0) 1 8 under22b hi hz0 hz1 hz2 rfl (by decide) _ _ _ rfl (World.ownsRow.alloc hown _) ⟨wr.heap.size, 0, none⟩ 1 1 [.int .i64 (-x)] rfl rfl ?c1 ?c2 ?c3 ?c4 ?c5 ?_))
      case c1 => exact cell_one_new _ _ _
      case c2 => simp [Value.oneCell']
      case c3 => unfold maxLen; have := HL.out; omega
      case c4 => have := HL.out; omega
      case c5 => simp; omega
      intro v' w2 hown' hgrow _
      obtain ⟨g', cap', rfl⟩ := ownsRow_succ hown'
      have hB2 : Below w.heap.size w w2 := (hB.alloc hBs _).grown hgrow (by simp; omega) (fun t e => owns_ge hown t e)
      have hrow2 : Row w2 w.heap.size (.slice (some ⟨g', 0, none⟩) (xs.length + 1) cap') (wi (zs.drop q)) := by
        unfold Row
        rw [HN.out]
        simpa using hown'
      clear hown' hgrow hown
      go_wp2
      go_roundw
      case rel => exact ⟨q, by omega, by go_num, hrow2, hB2⟩
      case measure => simp [intOf]

end Go.Proofs.Ytakmfhnigpmngaa
