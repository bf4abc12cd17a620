/- What the document's Then and Inverse give at permutations. -/
import Derived.Test.YtjchmhngfnlbhaaDoorStay
namespace Go.Proofs.YtjchmhngfnlbhaaDoor
open Go Go.RowKit

set_option maxRecDepth 100000 in
set_option maxHeartbeats 2000000 in
theorem then_ok (u v : Value) (xs ys : List Int) (w : World) (hu : Sl w u xs) (hv : Sl w v ys) (hx : IsPerm xs) (hl : xs.length = ys.length) (h1000 : xs.length ≤ 1000) :
    Calls Tryd.prog 28 #[u, v] w fun e w' => ∃ r, e = .returned r ∧ Row w' w.heap.size r (mulL xs ys) ∧ Below w.heap.size w w' := by
  obtain ⟨i0, hi, hz0, hz1, hz2⟩ := info_parts info3b
  obtain ⟨a, cap, pb, po, rfl, hr, hp, hq3, hq4⟩ := hu
  obtain ⟨b, cap', qb, qo, rfl, hs, hq, hq7, hq8⟩ := hv
  have hle1 : xs.length ≤ ys.length := by omega
  have hle2 : ys.length ≤ xs.length := by omega
  have HX := hide hx
  have hml := mulL_len xs ys
  have hmg : ∀ k, k < xs.length → (mulL xs ys)[k]?.getD 0 = ys[nx xs k]?.getD 0 := fun k hk => mulL_get ys hk
  generalize mulL xs ys = M at hml hmg
  have HML := hide hml
  have HMG := hide hmg
  clear hl hx hml hmg
  go_enter Tryd.func28, Tryd.ntmps28
  go_wp2
  go_loopw [5, 6] (fun v i wr => ∃ k : Nat, k ≤ xs.length ∧ i = .int .i64 k ∧ Row wr w.heap.size v (M.take k) ∧ Below w.heap.size w wr)
    (fun _ i _ => xs.length - (intOf i).toNat)
  case atStart => exact ⟨0, Nat.zero_le _, rfl, World.ownsRow_nil _ _ _ _, Below.refl _ _⟩
  case round =>
    obtain ⟨k, hk, rfl, hown, hB⟩ := hrel
    obtain ⟨v, rfl⟩ : ∃ v, v = u5 := ⟨_, rfl⟩
    have hBs := hB.size
    by_cases hlt : k < xs.length
    · have hil : (M.take k).length = k := by rw [List.length_take, HML.out]; omega
      have hn := nx_lt HX.out hlt
      have hcx := (hr.below hB hp).cell k hlt
      have hcy := (hs.below hB hq).cell (nx xs k) (by omega)
      rw [hn.2] at hcx
      obtain rfl := hr.at_ (by omega)
      obtain rfl := hs.at_ (by omega)
      have hsn : M.take (k + 1) = M.take k ++ [ys[nx xs k]?.getD 0] := by rw [take_snoc (zs := M) (by rw [HML.out]; omega), HMG.out k hlt]
      have HIL := hide hil
      have HSN := hide hsn
      obtain ⟨hn1, _⟩ := hn
      clear hil hsn
      generalize nx xs k = x at hcx hcy hn1 HSN
      generalize ys[x]?.getD 0 = y at hcy HSN
      have hx1 : (x : Int) < (ys.length : Int) := by omega
      go_wp2_with (first
        | (at_builtin; refine wpList_append_own _ rfl _ _ 22 rfl w.heap.size 3 i0 (.int .i64 0) 1 8 under22b hi hz0 hz1 hz2 rfl (by decide) _ _ _ rfl (World.ownsRow.alloc hown _) ⟨wr.heap.size, 0, none⟩ 1 1 [.int .i64 y] rfl rfl ?c1 ?c2 ?c3 ?c4 ?c5 ?_))
      case c1 => exact cell_one_new _ _ _
      case c2 => simp [Value.oneCell']
      case c3 => unfold maxLen; have := HIL.out; omega
      case c4 => have := HIL.out; omega
      case c5 => simp; omega
      intro v' w2 hown' hgrow _
      obtain ⟨g', cap', rfl⟩ := ownsRow_succ hown'
      have hB2 : Below w.heap.size w w2 := (hB.alloc hBs _).grown hgrow (by simp; omega) (fun j e => owns_ge hown j e)
      have hown5 : Row w2 w.heap.size (.slice (some ⟨g', 0, none⟩) ((M.take k).length + 1) cap') (M.take (k + 1)) := by
        unfold Row
        rw [HSN.out]; simpa using hown'
      clear hown' hgrow hown
      go_wp2
      go_roundw
      case rel => exact ⟨k + 1, by omega, by go_num, (by rw [List.length_take] at hown5; exact hown5), hB2⟩
      case measure => simp [intOf]; omega
    · have hkk : k = xs.length := by omega
      subst hkk
      rw [← HML.out, List.take_length] at hown
      go_wp2
      go_ret
      exact ⟨_, rfl, hown, hB⟩

end Go.Proofs.YtjchmhngfnlbhaaDoor
