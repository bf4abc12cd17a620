/- The law FreeTexts. -/
import Derived.Test.YtakmfhnigpmngaaFzA
import Derived.Test.YtakmfhnigpmngaaFzB
import Derived.Test.YtakmfhnigpmngaaFzC
namespace Go.Proofs.Ytakmfhnigpmngaa
open Go Go.RowKit

set_option maxRecDepth 100000 in
set_option maxHeartbeats 4000000 in
theorem tx_long1 (v : Value) (zs : List Int) (w : World) (hv : SlA w v zs) (s : ByteArray) (hl : 5000 < zs.length) (hb : zs.length ≤ 17592186044416) :
    Calls Try.prog 7 #[v, .string s] w fun e w' => e = .returned (.bool true) ∧ Below w.heap.size w w' := by
  have hl1 : (5000 : Int) < (zs.length : Int) := by omega
  obtain ⟨va, vc, hve⟩ := hv.shape
  subst hve
  have HV := hide hv
  clear hv
  go_enter Try.func7, Try.ntmps7
  go_wp2_with fail
  refine (freeBegun_any w).mono ?_
  rintro x w1 ⟨rfl, hB, h01⟩
  have hge := hB.size
  have hsv := HV.out.up hB h01
  clear HV
  go_wp2
  go_ret
  exact ⟨rfl, hB⟩

set_option maxRecDepth 100000 in
set_option maxHeartbeats 4000000 in
theorem tx_long2 (v : Value) (zs : List Int) (w : World) (hv : SlA w v zs) (s : ByteArray) (h0 : zs.length ≤ 5000) (hl : 5000 < s.size) :
    Calls Try.prog 7 #[v, .string s] w fun e w' => e = .returned (.bool true) ∧ Below w.heap.size w w' := by
  have hl0 : ¬ ((5000 : Int) < (zs.length : Int)) := by omega
  have hl1 : (5000 : Int) < (s.size : Int) := by omega
  obtain ⟨va, vc, hve⟩ := hv.shape
  subst hve
  have HV := hide hv
  clear hv
  go_enter Try.func7, Try.ntmps7
  go_wp2_with fail
  refine (freeBegun_any w).mono ?_
  rintro x w1 ⟨rfl, hB, h01⟩
  have hge := hB.size
  have hsv := HV.out.up hB h01
  clear HV
  go_wp2
  go_ret
  exact ⟨rfl, hB⟩

theorem ba_eq {s : ByteArray} {l : List UInt8} (h : s.toList = l) : s = ⟨l.toArray⟩ := by
  apply ByteArray.ext
  apply Array.toList_inj.1
  rw [← h, ByteArray.toList_eq]
theorem texts_law (v : Value) (zs : List Int) (s : ByteArray) (w : World) (hv : SlA w v zs) (hb : zs.length ≤ 17592186044416) :
    Calls Try.prog 7 #[v, .string s] w fun e w' => e = .returned (.bool true) ∧ Below w.heap.size w w' := by
  by_cases hl : zs.length ≤ 5000
  · by_cases h5 : s.size ≤ 5000
    · by_cases h2 : 2000 < s.size
      · by_cases h : wsc [zs] = 0
        · by_cases hz : zs = []
          · subst hz; exact tx_B1 v w hv s h2 h5
          · exact tx_C1 v zs w hv hl h hz s h2 h5
        · exact tx_A1 v zs w hv hl h s h2 h5
      · by_cases h6 : s.toList = [49]
        · have e := ba_eq h6
          subst e
          by_cases h : wsc [zs] = 0
          · by_cases hz : zs = []
            · subst hz; exact tx_B2 v w hv
            · exact tx_C2 v zs w hv hl h hz
          · exact tx_A2 v zs w hv hl h
        · by_cases h7 : s.size = 0
          · have e : s = ⟨([] : List UInt8).toArray⟩ := ba_eq (List.length_eq_zero_iff.1 (by rw [toList_len]; exact h7))
            subst e
            by_cases h : wsc [zs] = 0
            · by_cases hz : zs = []
              · subst hz; exact tx_B3 v w hv
              · exact tx_C3 v zs w hv hl h hz
            · exact tx_A3 v zs w hv hl h
          · by_cases h : wsc [zs] = 0
            · by_cases hz : zs = []
              · subst hz; exact tx_B4 v w hv s (by omega) (by omega) h6
              · exact tx_C4 v zs w hv hl h hz s (by omega) (by omega) h6
            · exact tx_A4 v zs w hv hl h s (by omega) (by omega) h6
    · exact tx_long2 v zs w hv s hl (by omega)
  · exact tx_long1 v zs w hv s (by omega) hb

end Go.Proofs.Ytakmfhnigpmngaa
