/- What Parse answers. -/
import Derived.Test.YtakmfhnigpmngaaFy2
namespace Go.Proofs.Ytakmfhnigpmngaa
open Go Go.RowKit

/-- The byte at a place. -/
def bat (s : ByteArray) (k : Nat) : Nat := (s.toList[k]?.getD 0).toNat
theorem bat_eq (s : ByteArray) (k : Nat) (h : k < s.size) : (s[k]).toNat = bat s k := by
  unfold bat
  rw [ByteArray.toList_eq, List.getElem?_eq_getElem (by simpa using h)]
  rfl
theorem bat_lt (s : ByteArray) (k : Nat) : bat s k < 256 := by
  unfold bat
  exact UInt8.toNat_lt _
theorem toList_len (s : ByteArray) : s.toList.length = s.size := by rw [ByteArray.toList_eq]; simp
/-- The letters of a text. -/
def pls (s : ByteArray) : List Int := s.toList.map (fun b => ltr (b.toNat : Int))
theorem pls_len (s : ByteArray) : (pls s).length = s.size := by unfold pls; rw [List.length_map, toList_len]
theorem pls_get (s : ByteArray) {k : Nat} (h : k < s.size) : (pls s)[k]?.getD 0 = ltr (bat s k : Int) := by
  unfold pls bat
  rw [List.getElem?_map, List.getElem?_eq_getElem (by rw [toList_len]; exact h)]
  rfl
/-- The list while it is written. -/
def plc (s : ByteArray) (k : Nat) : List Int := (pls s).take k ++ List.replicate (s.size - k) 0
theorem plc_zero (s : ByteArray) : plc s 0 = List.replicate s.size 0 := by simp [plc]
theorem plc_len {s : ByteArray} {k : Nat} (hk : k ≤ s.size) : (plc s k).length = s.size := by simp [plc, pls_len]; omega
theorem plc_full (s : ByteArray) : plc s s.size = pls s := by simp [plc]; rw [List.take_of_length_le (by rw [pls_len]; omega)]
theorem plc_next {s : ByteArray} {k : Nat} (hk : k < s.size) : (plc s k).set k (ltr (bat s k : Int)) = plc s (k + 1) := by
  unfold plc
  rw [take_snoc' (by rw [pls_len]; exact hk), pls_get s hk, show s.size - k = (s.size - (k + 1)) + 1 by omega, List.replicate_succ]
  rw [List.set_append_right _ _ (by simp [pls_len]; omega)]
  simp [pls_len, Nat.min_eq_left (Nat.le_of_lt hk)]

set_option maxRecDepth 100000 in
set_option maxHeartbeats 2000000 in
theorem parse_big (s : ByteArray) (w : World) (h : 2000 < s.size) (hm : s.size ≤ 4611686018427387904) :
    Calls Try.prog 35 #[.string s] w fun e w' => e = .returned (.tuple #[.slice none 0 0, .agg #[.int .i64 2, .int .i64 0]]) ∧ Below w.heap.size w w' := by
  have h1 : (2000 : Int) < (s.size : Int) := by omega
  have hB := balloc w (.cells #[.int .i64 2, .int .i64 0] 26)
  go_enter Try.func35, Try.ntmps35
  go_wp2
  exact bodyPost_ret (v := .tuple #[.slice none 0 0, .agg #[.int .i64 2, .int .i64 0]]) (by simp [results, Try.results35, go_sem]) rfl ⟨rfl, hB⟩
set_option maxRecDepth 100000 in
set_option maxHeartbeats 2000000 in
theorem parse_one (w : World) :
    Calls Try.prog 35 #[.string ⟨#[49]⟩] w fun e w' => e = .returned (.tuple #[.slice none 0 0, .agg #[.int .i64 0, .int .i64 0]]) ∧ Below w.heap.size w w' := by
  have hB := balloc w (.cells #[.int .i64 0, .int .i64 0] 26)
  go_enter Try.func35, Try.ntmps35
  go_wp2
  exact bodyPost_ret (v := .tuple #[.slice none 0 0, .agg #[.int .i64 0, .int .i64 0]]) (by simp [results, Try.results35, go_sem]) rfl ⟨rfl, hB⟩
set_option maxRecDepth 100000 in
set_option maxHeartbeats 2000000 in
theorem parse_none (w : World) :
    Calls Try.prog 35 #[.string ⟨#[]⟩] w fun e w' => e = .returned (.tuple #[.slice none 0 0, .agg #[.int .i64 1, .int .i64 0]]) ∧ Below w.heap.size w w' := by
  have hB := balloc w (.cells #[.int .i64 1, .int .i64 0] 26)
  go_enter Try.func35, Try.ntmps35
  go_wp2
  exact bodyPost_ret (v := .tuple #[.slice none 0 0, .agg #[.int .i64 1, .int .i64 0]]) (by simp [results, Try.results35, go_sem]) rfl ⟨rfl, hB⟩

set_option maxRecDepth 100000 in
set_option maxHeartbeats 4000000 in
theorem parse_some (s : ByteArray) (w : World) (h : s.size ≤ 2000) (h0 : 0 < s.size) (h1 : s.toList ≠ [49]) :
    Calls Try.prog 35 #[.string s] w fun e w' =>
      (∃ k, k < s.size ∧ isl (bat s k : Int) = false ∧ (∀ j, j < k → isl (bat s j : Int) = true) ∧ e = .returned (.tuple #[.slice none 0 0, .agg #[.int .i64 1, .int .i64 k]]) ∧ Below w.heap.size w w') ∨
      ((∀ j, j < s.size → isl (bat s j : Int) = true) ∧ ∃ r, e = .returned (.tuple #[r, .agg #[.int .i64 0, .int .i64 0]]) ∧ Row w' w.heap.size r (pls s) ∧ Below w.heap.size w w') := by
  obtain ⟨i0, hi, hz0, hz1, hz2⟩ := info_parts info3b
  have hq1 : (s.toList == [49]) = false := by simpa using h1
  have hq2 : (s.toList == []) = false := by
    simp only [beq_eq_false_iff_ne]
    intro e
    have := toList_len s
    rw [e] at this
    simp at this
    omega
  have hq3 : s.toList ≠ [] := by simpa using hq2
  have hsz : ¬ ((2000 : Int) < (s.size : Int)) := by omega
  have hB0 := balloc w (.cells #[.int .i64 0, .int .i64 0] 26)
  have hR0 := new26 w
  have HBE := hide (bat_eq s)
  have hsl : (w.alloc (.cells #[.int .i64 0, .int .i64 0] 26)).heap.size = w.heap.size + 1 := World.size_alloc _ _
  have HSL := hide hsl
  clear hsl
  go_enter Try.func35, Try.ntmps35
  go_wp2_with (first
    | (at_make; refine wpList_make_full _ rfl _ _ 22 rfl w.heap.size 3 i0 (.int .i64 0) 1 under22b hi hz0 hz1 _ _ _ _ s.size rfl rfl rfl rfl (by rw [hz2]; omega) (by unfold maxLen; omega) hB0.size ?_))
  intro w3 hown hgr
  have hM : Blk w3 (w.heap.size + 1) 3 ((plc s 0).map (Value.int .i64)) := by
    have := Blk.of_owns hown
    rw [made_rep] at this
    rw [plc_zero, List.map_replicate]; simpa using this
  have hR3 : Blk w3 w.heap.size 26 [.int .i64 0, .int .i64 0] := hR0.grown hgr (by simp)
  have hB3 : Below w.heap.size w w3 := hB0.grown hgr hB0.size (by simp)
  clear hown hgr hB0 hR0
  go_wp2
  go_loopw [23] (fun i wr => ∃ k : Nat, k ≤ s.size ∧ i = .int .i64 k ∧ Blk wr (w.heap.size + 1) 3 ((plc s k).map (Value.int .i64)) ∧ Blk wr w.heap.size 26 [.int .i64 0, .int .i64 0] ∧ Below w.heap.size w wr ∧ (∀ j, j < k → isl (bat s j : Int) = true)) (fun i _ => s.size - (intOf i).toNat)
  case atStart => exact ⟨0, Nat.zero_le _, rfl, hM, hR3, hB3, fun j hj => by omega⟩
  case round =>
    clear hM hR3 hB3
    obtain ⟨k, hk, rfl, hM, hR, hB, hall⟩ := hrel
    have HA := hide hall
    clear hall
    by_cases hlt : k < s.size
    · have hbk := HBE.out k hlt
      have hki : (k : Int) < (s.size : Int) := by omega
      have hbl := bat_lt s k
      have HN := hide (plc_next hlt)
      have hcellq := hM.int (y := k) (by rw [plc_len (by omega)]; exact hlt)
      have hfrq := hM.frozen k
      have hne : ¬ w.heap.size = w.heap.size + 1 := by omega
      obtain ⟨b, hbe⟩ : ∃ b, bat s k = b := ⟨_, rfl⟩
      rw [hbe] at hbk hbl HN
      have HBB := hide hbe
      have HLO := hide (letterOf_ok b wr hbl)
      have hM2 := hM.setInt k (ltr (b : Int))
      rw [HN.out] at hM2
      have hR2 := hR.other (p := ⟨w.heap.size + 1, k, none⟩) hne (.int .i64 (ltr (b : Int)))
      have hB2 := hB.setCell (p := ⟨w.heap.size + 1, k, none⟩) (Nat.le_succ _) (.int .i64 (ltr (b : Int)))
      obtain ⟨x0, x1, f0, f1⟩ := hR.two
      by_cases hil : isl (b : Int) = true
      · rw [hil] at HLO
        have HIL := hide hil
        generalize ltr (b : Int) = l at *
        clear hM hbe hil
        go_wp2_with fail
        refine HLO.out.mono ?_
        rintro x9 w9 ⟨rfl, rfl⟩
        go_wp2
        go_roundw
        case rel => exact ⟨k + 1, by omega, by go_num, hM2, hR2, hB2, fun j hj => by
          by_cases e : j = k
          · rw [e, HBB.out]; exact HIL.out
          · exact HA.out j (by omega)⟩
        case measure => simp [intOf]; omega
      · have hil : isl (b : Int) = false := by simpa using hil
        rw [hil] at HLO
        have HIL := hide hil
        generalize ltr (b : Int) = l at *
        have hR9 : Blk ((wr.setCell ⟨w.heap.size, 0, none⟩ (.int .i64 1)).setCell ⟨w.heap.size, 1, none⟩ (.int .i64 k)) w.heap.size 26 [.int .i64 1, .int .i64 k] := (hR.set 0 _).set 1 _
        have hB9 := (hB.setCell (p := ⟨w.heap.size, 0, none⟩) (Nat.le_refl _) (.int .i64 1)).setCell (p := ⟨w.heap.size, 1, none⟩) (Nat.le_refl _) (.int .i64 k)
        obtain ⟨z0, z1, _, _⟩ := hR9.two
        clear hM hM2 hR2 hB2 hbe hil
        go_wp2_with fail
        refine HLO.out.mono ?_
        rintro x9 w9 ⟨rfl, rfl⟩
        go_wp2
        exact bodyPost_ret (v := .tuple #[.slice none 0 0, .agg #[.int .i64 1, .int .i64 k]]) (by simp [results, Try.results35, go_sem, z0, z1]) rfl (.inl ⟨k, hlt, by rw [HBB.out]; exact HIL.out, HA.out, rfl, hB9⟩)
    · have hkk : k = s.size := by omega
      subst hkk
      rw [plc_full] at hM
      have hrow : Row wr w.heap.size (.slice (some ⟨w.heap.size + 1, 0, none⟩) s.size s.size) (pls s) := Row.of_blk hM (Nat.le_succ _) (pls_len s).symm (by rw [pls_len]; omega)
      obtain ⟨_, y0, y1, fy0, fy1, s0, s1⟩ := Two.mk' hR
      clear hM
      go_wp2
      exact bodyPost_ret (v := .tuple #[.slice (some ⟨w.heap.size + 1, 0, none⟩) s.size s.size, .agg #[.int .i64 0, .int .i64 0]]) (by simp [results, Try.results35, go_sem, y0, y1]) rfl (.inr ⟨HA.out, _, rfl, hrow, hB⟩)

end Go.Proofs.Ytakmfhnigpmngaa
