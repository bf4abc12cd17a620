/- What beads.checkWord and the document's LineFault tell of every list that can be read. No condition. -/
import Derived.Test.YtojnjfkonaeegaaDoorFb
namespace Go.Proofs.YtojnjfkonaeegaaDoor
open Go Go.RowKit

def bad (x : Int) : Bool := decide (x < 0) || decide (1000 < x)
def Lt (w : List Int) : Prop := ∀ x, x ∈ w → bad x = false
/-- As many numbers as no word has. -/
def Many (w : List Int) : Prop := w.length < 1 ∨ 2000 < w.length
instance (w : List Int) : Decidable (Many w) := by unfold Many; infer_instance
/-- What is told of a word: a code, and a place. -/
def wfc (w : List Int) : Int := if Many w then 2 else if w.findIdx bad < w.length then 3 else 0
def wfa (w : List Int) : Int := if Many w then 0 else if w.findIdx bad < w.length then (w.findIdx bad : Nat) else 0
theorem wf_many {w : List Int} (h : Many w) : wfc w = 2 ∧ wfa w = 0 := ⟨if_pos h, if_pos h⟩
theorem wf_at {w : List Int} (h : ¬ Many w) {k : Nat} (hk : k < w.length) (hb : bad (w[k]?.getD 0) = true) (hall : ∀ t, t < k → bad (w[t]?.getD 0) = false) : wfc w = 3 ∧ wfa w = k := by
  have e : w.findIdx bad = k := by
    rw [List.findIdx_eq hk]
    refine ⟨?_, fun j hj => ?_⟩
    · rw [List.getElem?_eq_getElem hk] at hb; exact hb
    · have := hall j hj
      rw [List.getElem?_eq_getElem (by omega)] at this; exact this
  unfold wfc wfa
  rw [if_neg h, if_neg h, e, if_pos hk, if_pos hk]
  exact ⟨rfl, rfl⟩
theorem wf_ok {w : List Int} (h : ¬ Many w) (hall : Lt w) : wfc w = 0 ∧ wfa w = 0 := by
  have e : ¬ w.findIdx bad < w.length := by
    intro hlt
    have h1 := List.findIdx_getElem (w := hlt)
    rw [hall _ (List.getElem_mem hlt)] at h1
    cases h1
  unfold wfc wfa
  rw [if_neg h, if_neg h, if_neg e, if_neg e]
  exact ⟨rfl, rfl⟩
theorem lt_of_at {w : List Int} (h : ∀ t, t < w.length → bad (w[t]?.getD 0) = false) : Lt w := fun x hx => by
  obtain ⟨k, hk, rfl⟩ := List.getElem_of_mem hx
  have := h k hk
  rw [List.getElem?_eq_getElem hk] at this; exact this
theorem Lt.at {w : List Int} (h : Lt w) {k : Nat} (hk : k < w.length) : bad (w[k]?.getD 0) = false := by
  rw [List.getElem?_eq_getElem hk]
  exact h _ (List.getElem_mem hk)
/-- A word of which nothing is wrong. -/
structure Wd (w : List Int) : Prop where
  pos : 0 < w.length
  len : w.length ≤ 2000
  lt : Lt w
theorem wd_of_code {w : List Int} (h : wfc w = 0) : Wd w := by
  unfold wfc at h
  by_cases h1 : Many w
  · rw [if_pos h1] at h; cases h
  · rw [if_neg h1] at h
    unfold Many at h1
    by_cases h2 : w.findIdx bad < w.length
    · rw [if_pos h2] at h; cases h
    · refine ⟨by omega, by omega, fun x hx => ?_⟩
      rcases hb : bad x with _ | _
      · rfl
      · exact absurd (List.findIdx_lt_length_of_exists ⟨x, hx, hb⟩) h2
theorem Wd.code {w : List Int} (h : Wd w) : wfc w = 0 ∧ wfa w = 0 := wf_ok (by unfold Many; have := h.pos; have := h.len; omega) h.lt
theorem code_cases (w : List Int) : Wd w ∨ wfc w ≠ 0 := by
  by_cases h : wfc w = 0
  · exact .inl (wd_of_code h)
  · exact .inr h
theorem wfc_small (w : List Int) : wfc w = 0 ∨ wfc w = 2 ∨ wfc w = 3 := by
  unfold wfc; split
  · simp
  · split <;> simp

theorem bad_parts {x : Int} (h : bad x = false) : ¬ x < 0 ∧ ¬ 1000 < x := by
  unfold bad at h
  simp at h
  omega
theorem bad_cases {x : Int} (h : bad x = true) : x < 0 ∨ (¬ x < 0 ∧ 1000 < x) := by
  unfold bad at h
  simp at h
  omega
theorem many_cases {w : List Int} (h : Many w) : ((w.length : Int) < 1 ∧ w.length < 1) ∨ (¬ (w.length : Int) < 1 ∧ ¬ w.length < 1 ∧ (2000 : Int) < (w.length : Int) ∧ 2000 < w.length) := by
  unfold Many at h; omega
theorem many_not {w : List Int} (h : ¬ Many w) : ¬ (w.length : Int) < 1 ∧ ¬ w.length < 1 ∧ ¬ (2000 : Int) < (w.length : Int) ∧ ¬ 2000 < w.length ∧ (w.length : Int) ≤ 2000 := by
  unfold Many at h; omega

set_option maxRecDepth 100000 in
set_option maxHeartbeats 2000000 in
theorem check_any (v : Value) (zs : List Int) (w : World) (hv : Sl w v zs) :
    Calls Tryd.prog 29 #[v] w fun e w' => e = .returned (.agg #[.int .i64 (wfc zs), .int .i64 (wfa zs)]) ∧ Below w.heap.size w w' := by
  obtain ⟨a, cap, pb, po, rfl, hr, hp, hcap, hcm⟩ := hv
  unfold maxLen at hcm
  have hB0 : Below w.heap.size w (w.alloc (.cells #[.int .i64 0, .int .i64 0] 25)) := (Below.refl _ w).alloc (Nat.le_refl _) _
  have hfin : ∀ w1, Below (w.alloc (.cells #[.int .i64 0, .int .i64 0] 25)).heap.size (w.alloc (.cells #[.int .i64 0, .int .i64 0] 25)) w1 → Blk w1 w.heap.size 25 [.int .i64 0, .int .i64 0] := fun w1 h => (new26 w).of_eq (h.block _ (new26 w).lt)
  have HFI := hide hfin
  clear hfin
  by_cases hbig : Many zs
  · obtain ⟨hf1, hf2⟩ := wf_many hbig
    have HF1 := hide hf1
    have HF2 := hide hf2
    clear hf1 hf2
    rcases many_cases hbig with ⟨h1, h2⟩ | ⟨h1, h2, h3, h4⟩
    all_goals
      clear hbig
      go_enter Tryd.func29, Tryd.ntmps29
      go_wp2
      refine bodyPost_ret (v := .agg #[.int .i64 2, .int .i64 0]) (by simp [results, Tryd.results29, go_sem]) rfl ⟨by rw [HF1.out, HF2.out], ?_⟩
      exact (Below.refl _ w).alloc (Nat.le_refl _) _
  · obtain ⟨q1, q2, q3, q4, q5⟩ := many_not hbig
    have HB := hide hbig
    clear hbig
    go_enter Tryd.func29, Tryd.ntmps29
    go_wp2_with fail
    have hR0 := new26 w
    go_loopw [16] (fun i wr => ∃ k : Nat, k ≤ zs.length ∧ i = .int .i64 k ∧ wr = w.alloc (.cells #[.int .i64 0, .int .i64 0] 25) ∧ (∀ t, t < k → bad (zs[t]?.getD 0) = false))
      (fun i _ => zs.length - (intOf i).toNat)
    case atStart => exact ⟨0, Nat.zero_le _, rfl, rfl, fun t ht => by omega⟩
    case round =>
      obtain ⟨k, hk, rfl, rfl, hall⟩ := hrel
      have HA := hide hall
      clear hall
      by_cases hlt : k < zs.length
      · obtain rfl := hr.at_ (by omega)
        have hx := (hr.below hB0 hp).cell k hlt
        obtain ⟨x, hxe⟩ : ∃ x, zs[k]?.getD 0 = x := ⟨_, rfl⟩
        rw [hxe] at hx
        have HX := hide hxe
        clear hxe
        by_cases hb : bad x = true
        · obtain ⟨hf1, hf2⟩ := wf_at HB.out hlt (by rw [HX.out]; exact hb) HA.out
          have HF1 := hide hf1
          have HF2 := hide hf2
          clear hf1 hf2
          rcases bad_cases hb with h1 | ⟨h1, h2⟩
          all_goals
            clear hb
            go_wp2
            refine bodyPost_ret (v := .agg #[.int .i64 3, .int .i64 k]) (by simp [results, Tryd.results29, go_sem]) rfl ⟨by rw [HF1.out, HF2.out], ?_⟩
            exact (Below.refl _ w).alloc (Nat.le_refl _) _
        · have hb : bad x = false := by simpa using hb
          have HBX := hide hb
          obtain ⟨h1, h2⟩ := bad_parts hb
          clear hb
          go_wp2
          go_roundw
          case rel => exact ⟨k + 1, by omega, by go_num, by trivial, fun t ht => by
            by_cases e : t = k
            · rw [e, HX.out]; exact HBX.out
            · exact HA.out t (by omega)⟩
          case measure => simp [intOf]; omega
      · obtain ⟨hf1, hf2⟩ := wf_ok HB.out (lt_of_at (fun t ht => HA.out t (by omega)))
        have HF1 := hide hf1
        have HF2 := hide hf2
        clear hf1 hf2
        go_wp2
        refine bodyPost_ret (v := .agg #[.int .i64 0, .int .i64 0]) (by simp [results, Tryd.results29, go_sem]) rfl ⟨by rw [HF1.out, HF2.out], ?_⟩
        exact (Below.refl _ w).alloc (Nat.le_refl _) _

set_option maxRecDepth 100000 in
set_option maxHeartbeats 2000000 in
theorem lfault_any (v : Value) (zs : List Int) (w : World) (hv : Sl w v zs) :
    Calls Tryd.prog 11 #[v] w fun e w' => e = .returned (.agg #[.int .i64 (wfc zs), .int .i64 (wfa zs)]) ∧ Below w.heap.size w w' := by
  obtain ⟨a, cap, pb, po, rfl, hr, hp, hcap, hcm⟩ := hv
  unfold maxLen at hcm
  have hB0 : Below w.heap.size w (w.alloc (.cells #[.int .i64 0, .int .i64 0] 25)) := (Below.refl _ w).alloc (Nat.le_refl _) _
  have hfin : ∀ w1, Below (w.alloc (.cells #[.int .i64 0, .int .i64 0] 25)).heap.size (w.alloc (.cells #[.int .i64 0, .int .i64 0] 25)) w1 → Blk w1 w.heap.size 25 [.int .i64 0, .int .i64 0] := fun w1 h => (new26 w).of_eq (h.block _ (new26 w).lt)
  have HFI := hide hfin
  clear hfin
  by_cases hbig : Many zs
  · obtain ⟨hf1, hf2⟩ := wf_many hbig
    have HF1 := hide hf1
    have HF2 := hide hf2
    clear hf1 hf2
    rcases many_cases hbig with ⟨h1, h2⟩ | ⟨h1, h2, h3, h4⟩
    all_goals
      clear hbig
      go_enter Tryd.func11, Tryd.ntmps11
      go_wp2_with fail
      refine (f_any 2 0 _).mono ?_
      rintro e w1 ⟨rfl, hl1⟩
      have hR := HFI.out w1 hl1
      obtain ⟨hd0, hd1, hg0, hg1⟩ := hR.two
      go_wp2
      refine bodyPost_ret (v := .agg #[.int .i64 2, .int .i64 0]) (by simp [results, Tryd.results11, go_sem, hd0, hd1]) rfl ⟨by rw [HF1.out, HF2.out], ?_⟩
      exact ((bcat hB0 hl1 hB0.size).setCell (p := ⟨w.heap.size, 0, none⟩) (Nat.le_refl _) _).setCell (p := ⟨w.heap.size, 1, none⟩) (Nat.le_refl _) _
  · obtain ⟨q1, q2, q3, q4, q5⟩ := many_not hbig
    have HB := hide hbig
    clear hbig
    go_enter Tryd.func11, Tryd.ntmps11
    go_wp2_with fail
    have hR0 := new26 w
    go_loopw [3] (fun i wr => ∃ k : Nat, k ≤ zs.length ∧ i = .int .i64 k ∧ wr = w.alloc (.cells #[.int .i64 0, .int .i64 0] 25) ∧ (∀ t, t < k → bad (zs[t]?.getD 0) = false))
      (fun i _ => zs.length - (intOf i).toNat)
    case atStart => exact ⟨0, Nat.zero_le _, rfl, rfl, fun t ht => by omega⟩
    case round =>
      obtain ⟨k, hk, rfl, rfl, hall⟩ := hrel
      have HA := hide hall
      clear hall
      by_cases hlt : k < zs.length
      · obtain rfl := hr.at_ (by omega)
        have hx := (hr.below hB0 hp).cell k hlt
        obtain ⟨x, hxe⟩ : ∃ x, zs[k]?.getD 0 = x := ⟨_, rfl⟩
        rw [hxe] at hx
        have HX := hide hxe
        clear hxe
        by_cases hb : bad x = true
        · obtain ⟨hf1, hf2⟩ := wf_at HB.out hlt (by rw [HX.out]; exact hb) HA.out
          have HF1 := hide hf1
          have HF2 := hide hf2
          clear hf1 hf2
          rcases bad_cases hb with h1 | ⟨h1, h2⟩
          all_goals
            clear hb
            go_wp2_with fail
            refine (f_any 3 (k : Int) _).mono ?_
            rintro e w1 ⟨rfl, hl1⟩
            have hR := HFI.out w1 hl1
            obtain ⟨hd0, hd1, hg0, hg1⟩ := hR.two
            go_wp2
            refine bodyPost_ret (v := .agg #[.int .i64 3, .int .i64 (k : Int)]) (by simp [results, Tryd.results11, go_sem, hd0, hd1]) rfl ⟨by rw [HF1.out, HF2.out], ?_⟩
            exact ((bcat hB0 hl1 hB0.size).setCell (p := ⟨w.heap.size, 0, none⟩) (Nat.le_refl _) _).setCell (p := ⟨w.heap.size, 1, none⟩) (Nat.le_refl _) _
        · have hb : bad x = false := by simpa using hb
          have HBX := hide hb
          obtain ⟨h1, h2⟩ := bad_parts hb
          clear hb
          go_wp2
          go_roundw
          case rel => exact ⟨k + 1, by omega, by go_num, by trivial, fun t ht => by
            by_cases e : t = k
            · rw [e, HX.out]; exact HBX.out
            · exact HA.out t (by omega)⟩
          case measure => simp [intOf]; omega
      · obtain ⟨hf1, hf2⟩ := wf_ok HB.out (lt_of_at (fun t ht => HA.out t (by omega)))
        have HF1 := hide hf1
        have HF2 := hide hf2
        clear hf1 hf2
        go_wp2
        refine bodyPost_ret (v := .agg #[.int .i64 0, .int .i64 0]) (by simp [results, Tryd.results11, go_sem]) rfl ⟨by rw [HF1.out, HF2.out], ?_⟩
        exact (Below.refl _ w).alloc (Nat.le_refl _) _

end Go.Proofs.YtojnjfkonaeegaaDoor
