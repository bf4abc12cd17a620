/- The example that every law of this chapter begins with: the square's group and its centre. Condition: the library's table of places lies as its text lays it. -/
import Derived.Test.YtmgengplfebmjaaDoorCen
import Derived.Test.YtmgengplfebmjaaDoorRef1
namespace Go.Proofs.YtmgengplfebmjaaDoor
open Go Go.RowKit

def sqk (a b : Nat) : Nat := if 3 < a then 4 - b % 4 else b % 4
def sq (a b : Nat) : Nat := (a % 4 + sqk a b) % 4 + (a / 4 + b / 4) % 2 * 4
/-- The square's table. -/
def sqT : List Int := (List.range 64).map fun i => (sq (i / 8) (i % 8) : Int)
theorem sqT_len : sqT.length = 64 := by simp [sqT]
theorem sqT_get {a b : Nat} (ha : a < 8) (hb : b < 8) : sqT[a * 8 + b]?.getD 0 = (sq a b : Int) := by
  have h1 : a * 8 + b < 64 := by omega
  have h2 : (a * 8 + b) / 8 = a := by omega
  have h3 : (a * 8 + b) % 8 = b := by omega
  simp [sqT, h1, h2, h3]
theorem sqT_fault : gfault 8 sqT = (0, 0) := by decide +kernel
theorem sqT_grp : IsGrp 8 sqT 0 := by
  obtain ⟨n, e, hn, hg, _⟩ := gfault_grp (N := 8) (zs := sqT) (by rw [sqT_fault])
  have h1 : n = 8 := by omega
  subst h1
  have h2 := hg.one
  rw [show one 8 sqT = 0 by decide +kernel] at h2
  have h3 : e = 0 := by omega
  subst h3
  exact hg
theorem sqT_cen : lst 8 (cenq 8 sqT (fun _ => true)) = [0, 2] := by decide +kernel

theorem tmod_nat {x : Int} {y : Nat} (m : Nat) (h : x = (y : Int)) : x.tmod (m : Int) = ((y % m : Nat) : Int) := by
  subst h
  rw [Int.tmod_eq_emod_of_nonneg (by omega), Int.natCast_emod]
theorem tdiv_nat {x : Int} {y : Nat} (m : Nat) (h : x = (y : Int)) : x.tdiv (m : Int) = ((y / m : Nat) : Int) := by
  subst h
  rw [Int.tdiv_eq_ediv_of_nonneg (by omega), Int.natCast_ediv]

set_option maxRecDepth 100000 in
set_option maxHeartbeats 4000000 in
theorem square_ok (w : World) :
    Calls Tryd.prog 61 #[] w fun x w' => ∃ r, x = .returned (.agg #[.int .i64 8, r]) ∧ Row w' w.heap.size r sqT ∧ Below w.heap.size w w' := by
  obtain ⟨i0, hi, hz0, hz1, hz2⟩ := info_parts info3b
  obtain ⟨T, hT⟩ : ∃ T, T = sqT := ⟨_, rfl⟩
  have HTL := hide (show T.length = 64 by rw [hT]; exact sqT_len)
  have HTG := hide (fun a b (ha : a < 8) (hb : b < 8) => show T[a * 8 + b]?.getD 0 = (sq a b : Int) by rw [hT]; exact sqT_get ha hb)
  rw [← hT]
  clear hT
  have hB0 : Below w.heap.size w ((w.alloc (.cells #[.int .i64 0, .slice none 0 0] 24)).alloc (.cells #[.int .i64 8, .slice none 0 0] 24)) := (balloc w _).alloc (by simp) _
  have hR0 : Blk ((w.alloc (.cells #[.int .i64 0, .slice none 0 0] 24)).alloc (.cells #[.int .i64 8, .slice none 0 0] 24)) w.heap.size 24 [.int .i64 0, .slice none 0 0] := (blk0 _ _).alloc _
  have hX0 : Blk ((w.alloc (.cells #[.int .i64 0, .slice none 0 0] 24)).alloc (.cells #[.int .i64 8, .slice none 0 0] 24)) (w.heap.size + 1) 24 [.int .i64 8, .slice none 0 0] := by
    have := blk0 (w := w.alloc (.cells #[.int .i64 0, .slice none 0 0] 24)) (T := 24) (.int .i64 8) (.slice none 0 0)
    rwa [World.size_alloc] at this
  go_enter Tryd.func61, Tryd.ntmps61
  go_wp2
  go_loopw [2] (fun i wr => ∃ (a : Nat) (r : Value), a ≤ 8 ∧ i = .int .i64 a ∧ Row wr (w.heap.size + 1 + 1) r (T.take (a * 8)) ∧ Blk wr w.heap.size 24 [.int .i64 0, .slice none 0 0] ∧ Blk wr (w.heap.size + 1) 24 [.int .i64 8, r] ∧ Below w.heap.size w wr) (fun i _ => 8 - (intOf i).toNat)
  case atStart => exact ⟨0, .slice none 0 0, by omega, rfl, nil_row _ _, hR0, hX0, hB0⟩
  case round =>
    obtain ⟨a, r, ha, rfl, hrow, hR, hX, hB⟩ := hrel
    clear hR0 hX0 hB0
    by_cases hlta : a < 8
    · have hai : (a : Int) < 8 := by omega
      go_wp2
      go_loopw [3] (fun i wr => ∃ (b : Nat) (r : Value), b ≤ 8 ∧ i = .int .i64 b ∧ Row wr (w.heap.size + 1 + 1) r (T.take (a * 8 + b)) ∧ Blk wr w.heap.size 24 [.int .i64 0, .slice none 0 0] ∧ Blk wr (w.heap.size + 1) 24 [.int .i64 8, r] ∧ Below w.heap.size w wr) (fun i _ => 8 - (intOf i).toNat)
      case atStart => exact ⟨0, r, by omega, rfl, hrow, hR, hX, hB⟩
      case round =>
        obtain ⟨b, r', hb, rfl, hrow', hR', hX', hB'⟩ := hrel
        clear hrow hR hX hB
        by_cases hltb : b < 8
        · have HV := hide (HTG.out a b hlta hltb)
          have hlen : (T.take (a * 8 + b)).length = a * 8 + b := by rw [List.length_take, HTL.out]; omega
          have hsn : T.take (a * 8 + b + 1) = T.take (a * 8 + b) ++ [(sq a b : Int)] := by
            rw [take_snoc' (by rw [HTL.out]; omega), HV.out]
          have HSN := hide hsn
          have HLL := hide hlen
          have hown : wr.ownsRow (w.heap.size + 1 + 1) 3 1 r' (T.take (a * 8 + b)).length ((T.take (a * 8 + b)).map (Value.int .i64)) := hrow'
          clear hsn hlen hrow' HV
          generalize T.take (a * 8 + b) = xs at *
          obtain ⟨rx, rcap, rfl⟩ := own_slice hown
          obtain ⟨x0, x1, fx0, fx1⟩ := hX'.two
          have hs2 := hX'.lt
          by_cases h3 : 3 < a
          · have h3i : (3 : Int) < (a : Int) := by omega
            have hE : ((a : Int) + (4 - (b : Int) % 4)) % 4 + ((a : Int) / 4 + (b : Int) / 4) % 2 * 4 = (sq a b : Int) := by unfold sq sqk; rw [if_pos h3]; omega
            generalize sq a b = S at *
            go_wp2_with (first
              | (at_builtin; refine wpList_append_own _ rfl _ _ 22 rfl (w.heap.size + 1 + 1) 3 i0 (.int .i64 0) 1 8 under22b hi hz0 hz1 hz2 rfl (by decide) _ _ _ rfl (World.ownsRow.alloc hown _) ⟨wr.heap.size, 0, none⟩ 1 1 [.int .i64 S] rfl rfl ?c1 ?c2 ?c3 ?c4 ?c5 ?_))
            case c1 => exact cell_one_new _ _ _
            case c2 => simp [Value.oneCell']
            case c3 => unfold maxLen; have := HLL.out; omega
            case c4 => have := HLL.out; omega
            case c5 => simp; omega
            intro v9 w2 hown' hgrow _
            obtain ⟨g', cap', rfl⟩ := ownsRow_succ hown'
            have hk2 : ∀ k, k < w.heap.size + 1 + 1 → w2.heap[k]? = wr.heap[k]? := fun k hk => (hgrow.block k (by simp; omega) (fun e9 => by have := owns_ge hown k e9.symm; omega)).trans (Below.heap_alloc _ _ k (by omega))
            have hB2 : Below w.heap.size w w2 := (hB'.alloc hB'.size _).grown hgrow (by simp; omega) (fun t e9 => by have := owns_ge hown t e9; omega)
            have hR2 : Blk w2 w.heap.size 24 [.int .i64 0, .slice none 0 0] := hR'.of_eq (hk2 _ (by omega))
            have hX2 : Blk w2 (w.heap.size + 1) 24 [.int .i64 8, .slice rx xs.length rcap] := hX'.of_eq (hk2 _ (by omega))
            have hrow2 : Row w2 (w.heap.size + 1 + 1) (.slice (some ⟨g', 0, none⟩) (xs.length + 1) cap') (T.take (a * 8 + b + 1)) := by
              unfold Row
              rw [HSN.out]
              simpa using hown'
            obtain ⟨x0, x1, fx0, fx1⟩ := hX2.two
            have hX3 := hX2.set 1 (.slice (some ⟨g', 0, none⟩) (xs.length + 1) cap')
            have hR3 := hR2.other (p := ⟨w.heap.size + 1, 1, none⟩) (by simp) (.slice (some ⟨g', 0, none⟩) (xs.length + 1) cap')
            have hB3 := hB2.setCell (p := ⟨w.heap.size + 1, 1, none⟩) (by simp) (.slice (some ⟨g', 0, none⟩) (xs.length + 1) cap')
            have hrow3 := row_keep (W' := w2.setCell ⟨w.heap.size + 1, 1, none⟩ (.slice (some ⟨g', 0, none⟩) (xs.length + 1) cap')) hrow2 (fun g h1 _ => Below.heap_setCell _ _ _ g (by simp; omega))
            clear hown' hgrow hown hrow2 hk2 hE h3i hs2
            go_wp2
            go_roundw
            case rel => exact ⟨b + 1, _, by omega, by go_num, hrow3, hR3, hX3, hB3⟩
            case measure => simp [intOf]; omega
          · have h3i : ¬ (3 : Int) < (a : Int) := by omega
            have hE : ((a : Int) + (b : Int)) % 4 + ((a : Int) / 4 + (b : Int) / 4) % 2 * 4 = (sq a b : Int) := by unfold sq sqk; rw [if_neg h3]; omega
            generalize sq a b = S at *
            go_wp2_with (first
              | (at_builtin; refine wpList_append_own _ rfl _ _ 22 rfl (w.heap.size + 1 + 1) 3 i0 (.int .i64 0) 1 8 under22b hi hz0 hz1 hz2 rfl (by decide) _ _ _ rfl (World.ownsRow.alloc hown _) ⟨wr.heap.size, 0, none⟩ 1 1 [.int .i64 S] rfl rfl ?d1 ?d2 ?d3 ?d4 ?d5 ?_))
            case d2 => simp [Value.oneCell']
            case d3 => unfold maxLen; have := HLL.out; omega
            case d4 => have := HLL.out; omega
            case d5 => first | omega | (simp; omega)
            intro v9 w2 hown' hgrow _
            obtain ⟨g', cap', rfl⟩ := ownsRow_succ hown'
            have hk2 : ∀ k, k < w.heap.size + 1 + 1 → w2.heap[k]? = wr.heap[k]? := fun k hk => (hgrow.block k (by simp; omega) (fun e9 => by have := owns_ge hown k e9.symm; omega)).trans (Below.heap_alloc _ _ k (by omega))
            have hB2 : Below w.heap.size w w2 := (hB'.alloc hB'.size _).grown hgrow (by simp; omega) (fun t e9 => by have := owns_ge hown t e9; omega)
            have hR2 : Blk w2 w.heap.size 24 [.int .i64 0, .slice none 0 0] := hR'.of_eq (hk2 _ (by omega))
            have hX2 : Blk w2 (w.heap.size + 1) 24 [.int .i64 8, .slice rx xs.length rcap] := hX'.of_eq (hk2 _ (by omega))
            have hrow2 : Row w2 (w.heap.size + 1 + 1) (.slice (some ⟨g', 0, none⟩) (xs.length + 1) cap') (T.take (a * 8 + b + 1)) := by
              unfold Row
              rw [HSN.out]
              simpa using hown'
            obtain ⟨x0, x1, fx0, fx1⟩ := hX2.two
            have hX3 := hX2.set 1 (.slice (some ⟨g', 0, none⟩) (xs.length + 1) cap')
            have hR3 := hR2.other (p := ⟨w.heap.size + 1, 1, none⟩) (by simp) (.slice (some ⟨g', 0, none⟩) (xs.length + 1) cap')
            have hB3 := hB2.setCell (p := ⟨w.heap.size + 1, 1, none⟩) (by simp) (.slice (some ⟨g', 0, none⟩) (xs.length + 1) cap')
            have hrow3 := row_keep (W' := w2.setCell ⟨w.heap.size + 1, 1, none⟩ (.slice (some ⟨g', 0, none⟩) (xs.length + 1) cap')) hrow2 (fun g h1 _ => Below.heap_setCell _ _ _ g (by simp; omega))
            clear hown' hgrow hown hrow2 hk2 hE h3i hs2
            go_wp2
            go_roundw
            case rel => exact ⟨b + 1, _, by omega, by go_num, hrow3, hR3, hX3, hB3⟩
            case measure => simp [intOf]; omega
        · have hbn : b = 8 := by omega
          subst hbn
          have hrow8 : Row wr (w.heap.size + 1 + 1) r' (T.take ((a + 1) * 8)) := by rw [show (a + 1) * 8 = a * 8 + 8 by omega]; exact hrow'
          go_wp2
          go_roundw
          case rel => exact ⟨a + 1, r', by omega, by go_num, hrow8, hR', hX', hB'⟩
          case measure => simp [intOf]; omega
    · have han : a = 8 := by omega
      subst han
      have hTT : T.take (8 * 8) = T := List.take_of_length_le (by rw [HTL.out]; omega)
      rw [hTT] at hrow
      clear hTT
      have hown : wr.ownsRow (w.heap.size + 1 + 1) 3 1 r T.length (T.map (Value.int .i64)) := hrow
      obtain ⟨rx, rcap, rfl⟩ := own_slice hown
      obtain ⟨x0, x1, fx0, fx1⟩ := hX.two
      obtain ⟨r0, r1, fr0, fr1⟩ := hR.two
      have hR8 : Blk ((wr.setCell ⟨w.heap.size, 0, none⟩ (.int .i64 8)).setCell ⟨w.heap.size, 1, none⟩ (.slice rx T.length rcap)) w.heap.size 24 [.int .i64 8, .slice rx T.length rcap] := (hR.set 0 _).set 1 _
      have hB8 := (hB.setCell (p := ⟨w.heap.size, 0, none⟩) (by simp) (.int .i64 8)).setCell (p := ⟨w.heap.size, 1, none⟩) (by simp) (.slice rx T.length rcap)
      have hrow8 := owns_mono (row_keep (W' := (wr.setCell ⟨w.heap.size, 0, none⟩ (.int .i64 8)).setCell ⟨w.heap.size, 1, none⟩ (.slice rx T.length rcap)) hrow (fun g h1 _ => by rw [Below.heap_setCell _ _ _ g (by simp; omega), Below.heap_setCell _ _ _ g (by simp; omega)])) (show w.heap.size ≤ w.heap.size + 1 + 1 by omega)
      clear hown hrow
      go_wp2
      generalize (wr.setCell ⟨w.heap.size, 0, none⟩ (.int .i64 8)).setCell ⟨w.heap.size, 1, none⟩ (.slice rx T.length rcap) = W at hR8 hB8 hrow8 ⊢
      obtain ⟨z0, z1, _, _⟩ := hR8.two
      exact bodyPost_ret (v := .agg #[.int .i64 8, .slice rx T.length rcap]) (by simp [results, Tryd.results61, go_sem, z0, z1]) rfl ⟨_, rfl, hrow8, hB8⟩

end Go.Proofs.YtmgengplfebmjaaDoor
