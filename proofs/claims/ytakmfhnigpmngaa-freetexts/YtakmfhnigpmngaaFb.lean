/- What Check and the document's F, WordFault and WordsFault tell of every list that can be read. -/
import Derived.Test.YtakmfhnigpmngaaFa
namespace Go.Proofs.Ytakmfhnigpmngaa
open Go Go.RowKit

/-- A row of the call's own that reads as zs. -/
def Row (w : World) (base : Nat) (v : Value) (zs : List Int) : Prop := w.ownsRow base 3 1 v zs.length (zs.map (Value.int .i64))
theorem nil_row (W : World) (B : Nat) : Row W B (.slice none 0 0) [] := World.ownsRow_nil _ _ _ _
theorem Row.sl {W : World} {B : Nat} {v : Value} {zs : List Int} (h : Row W B v zs) (h0 : 0 < W.heap.size) : Sl W v zs := Sl.of_own h h0
theorem take_snoc' {zs : List Int} {k : Nat} (hk : k < zs.length) : zs.take (k + 1) = zs.take k ++ [zs[k]?.getD 0] := by
  rw [List.take_succ_eq_append_getElem hk]; simp [hk]
theorem own_cut {W : World} {B n g cap : Nat} {e : TypeId} {xs : List Value} (h : W.ownsRow B e 1 (.slice (some ⟨g, 0, none⟩) n cap) n xs) {k : Nat} (hk : k ≤ n) : W.ownsRow B e 1 (.slice (some ⟨g, 0, none⟩) k cap) k (xs.take k) := by
  refine ⟨by rw [List.length_take, h.1]; omega, ?_⟩
  rcases h.2 with ⟨h0, _⟩ | ⟨g', cap', cur, hv, h1, h2, h3, h4, h5, h6⟩
  · cases h0
  · injection hv with e1 _ e2
    injection e1 with e1
    injection e1 with e1
    subst e1 e2
    refine .inr ⟨g, cap, cur, rfl, h1, h2, by omega, h4, h5, ?_⟩
    rw [← h6, List.take_take]
    congr 1
    omega
theorem Sl.pos {w : World} {v : Value} {zs : List Int} (h : Sl w v zs) : 0 < w.heap.size := by
  obtain ⟨_, _, _, _, _, _, hp, _, _⟩ := h
  omega
/-- The result's box. -/
theorem new26 (w : World) : Blk (w.alloc (.cells #[.int .i64 0, .int .i64 0] 26)) w.heap.size 26 [.int .i64 0, .int .i64 0] := World.alloc_heap_new w _

set_option maxRecDepth 100000 in
set_option maxHeartbeats 1000000 in
theorem f_any (c i : Int) (w : World) : Calls Try.prog 31 #[.int .i64 c, .int .i64 i] w fun e w' => e = .returned (.agg #[.int .i64 c, .int .i64 i]) ∧ Below w.heap.size w w' := by
  go_enter Try.func31, Try.ntmps31
  go_wp2
  exact bodyPost_ret (v := .agg #[.int .i64 c, .int .i64 i]) (by simp [results, Try.results31, go_sem]) rfl ⟨rfl, (Below.refl _ _).alloc (Nat.le_refl _) _⟩

theorem bad_parts {x : Int} (h : bad x = false) : (x == 0) = false ∧ ¬ x < -26 ∧ ¬ 26 < x := by
  unfold bad at h
  simp at h
  refine ⟨by simpa using h.1.1, by omega, by omega⟩
theorem bad_cases {x : Int} (h : bad x = true) : (x == 0) = true ∨ ((x == 0) = false ∧ x < -26) ∨ ((x == 0) = false ∧ ¬ x < -26 ∧ 26 < x) := by
  unfold bad at h
  simp at h
  by_cases h0 : x = 0
  · exact .inl (by simpa using h0)
  · have h1 : (x == 0) = false := by simpa using h0
    by_cases h2 : x < -26
    · exact .inr (.inl ⟨h1, h2⟩)
    · exact .inr (.inr ⟨h1, h2, by omega⟩)

set_option maxRecDepth 100000 in
set_option maxHeartbeats 2000000 in
theorem check_any (v : Value) (zs : List Int) (w : World) (hv : Sl w v zs) :
    Calls Try.prog 13 #[v] w fun e w' => e = .returned (.agg #[.int .i64 (wfc zs), .int .i64 (wfa zs)]) ∧ Below w.heap.size w w' := by
  obtain ⟨a, cap, pb, po, rfl, hr, hp, hcap, hcm⟩ := hv
  unfold maxLen at hcm
  have hB0 : Below w.heap.size w (w.alloc (.cells #[.int .i64 0, .int .i64 0] 26)) := (Below.refl _ w).alloc (Nat.le_refl _) _
  by_cases hbig : 2000 < zs.length
  · have hb1 : (2000 : Int) < (zs.length : Int) := by omega
    obtain ⟨hf1, hf2⟩ := wf_many hbig
    have HF1 := hide hf1
    have HF2 := hide hf2
    clear hf1 hf2
    go_enter Try.func13, Try.ntmps13
    go_wp2
    refine bodyPost_ret (v := .agg #[.int .i64 2, .int .i64 0]) (by simp [results, Try.results13, go_sem]) rfl ⟨by rw [HF1.out, HF2.out], ?_⟩
    exact (Below.refl _ w).alloc (Nat.le_refl _) _
  · have hb1 : (zs.length : Int) ≤ 2000 := by omega
    have HB := hide hbig
    go_enter Try.func13, Try.ntmps13
    go_wp2_with fail
    have hR0 := new26 w
    go_loopw [11] (fun i wr => ∃ k : Nat, k ≤ zs.length ∧ i = .int .i64 k ∧ wr = w.alloc (.cells #[.int .i64 0, .int .i64 0] 26) ∧ (∀ t, t < k → bad (zs[t]?.getD 0) = false))
      (fun i _ => zs.length - (intOf i).toNat)
    case atStart => exact ⟨0, Nat.zero_le _, rfl, rfl, fun t ht => by omega⟩
    case round =>
      obtain ⟨k, hk, rfl, rfl, hall⟩ := hrel
      have HA := hide hall
      clear hall
      by_cases hlt : k < zs.length
      · obtain rfl := hr.at_ (by omega)
        have hx := (hr.below hB0 hp).cell k hlt
        obtain ⟨x, hxe⟩ : ∃ x, zs[k]?.getD 0 = x := ⟨_, rfl⟩
        rw [hxe] at hx
        have HX := hide hxe
        clear hxe
        by_cases hb : bad x = true
        · obtain ⟨hf1, hf2⟩ := wf_at HB.out hlt (by rw [HX.out]; exact hb) HA.out
          have HF1 := hide hf1
          have HF2 := hide hf2
          clear hf1 hf2
          rcases bad_cases hb with h1 | ⟨h1, h2⟩ | ⟨h1, h2, h3⟩
          all_goals
            clear hb
            go_wp2
            refine bodyPost_ret (v := .agg #[.int .i64 3, .int .i64 k]) (by simp [results, Try.results13, go_sem]) rfl ⟨by rw [HF1.out, HF2.out], ?_⟩
            exact (Below.refl _ w).alloc (Nat.le_refl _) _
        · have hb : bad x = false := by simpa using hb
          have HBX := hide hb
          obtain ⟨h1, h2, h3⟩ := bad_parts hb
          clear hb
          go_wp2
          go_roundw
          case rel => exact ⟨k + 1, by omega, by go_num, by trivial, fun t ht => by
            by_cases e : t = k
            · rw [e, HX.out]; exact HBX.out
            · exact HA.out t (by omega)⟩
          case measure => simp [intOf]; omega
      · obtain ⟨hf1, hf2⟩ := wf_ok HB.out (lt_of_at (fun t ht => HA.out t (by omega)))
        have HF1 := hide hf1
        have HF2 := hide hf2
        clear hf1 hf2
        go_wp2
        refine bodyPost_ret (v := .agg #[.int .i64 0, .int .i64 0]) (by simp [results, Try.results13, go_sem]) rfl ⟨by rw [HF1.out, HF2.out], ?_⟩
        exact (Below.refl _ w).alloc (Nat.le_refl _) _

theorem bad_cases' {x : Int} (h : bad x = true) : (x == 0) = true ∨ ((x == 0) = false ∧ 26 < x) ∨ ((x == 0) = false ∧ ¬ 26 < x ∧ x < -26) := by
  rcases bad_cases h with h | ⟨h1, h2⟩ | ⟨h1, h2, h3⟩
  · exact .inl h
  · exact .inr (.inr ⟨h1, by omega, h2⟩)
  · exact .inr (.inl ⟨h1, h3⟩)

set_option maxRecDepth 100000 in
set_option maxHeartbeats 2000000 in
theorem wfault_any (v : Value) (zs : List Int) (w : World) (hv : Sl w v zs) :
    Calls Try.prog 18 #[v] w fun e w' => e = .returned (.agg #[.int .i64 (wfc zs), .int .i64 (wfa zs)]) ∧ Below w.heap.size w w' := by
  obtain ⟨a, cap, pb, po, rfl, hr, hp, hcap, hcm⟩ := hv
  unfold maxLen at hcm
  have hB0 : Below w.heap.size w (w.alloc (.cells #[.int .i64 0, .int .i64 0] 26)) := (Below.refl _ w).alloc (Nat.le_refl _) _
  have hfin : ∀ w1, Below (w.alloc (.cells #[.int .i64 0, .int .i64 0] 26)).heap.size (w.alloc (.cells #[.int .i64 0, .int .i64 0] 26)) w1 → Blk w1 w.heap.size 26 [.int .i64 0, .int .i64 0] := fun w1 h => (new26 w).of_eq (h.block _ (new26 w).lt)
  have HFI := hide hfin
  clear hfin
  by_cases hbig : 2000 < zs.length
  · have hb1 : (2000 : Int) < (zs.length : Int) := by omega
    obtain ⟨hf1, hf2⟩ := wf_many hbig
    have HF1 := hide hf1
    have HF2 := hide hf2
    clear hf1 hf2
    go_enter Try.func18, Try.ntmps18
    go_wp2_with fail
    refine (f_any 2 0 _).mono ?_
    rintro e w1 ⟨rfl, hl1⟩
    have hR := HFI.out w1 hl1
    obtain ⟨hd0, hd1, hg0, hg1⟩ := hR.two
    go_wp2
    refine bodyPost_ret (v := .agg #[.int .i64 2, .int .i64 0]) (by simp [results, Try.results18, go_sem, hd0, hd1]) rfl ⟨by rw [HF1.out, HF2.out], ?_⟩
    exact ((bcat hB0 hl1 hB0.size).setCell (p := ⟨w.heap.size, 0, none⟩) (Nat.le_refl _) _).setCell (p := ⟨w.heap.size, 1, none⟩) (Nat.le_refl _) _
  · have hb1 : (zs.length : Int) ≤ 2000 := by omega
    have HB := hide hbig
    go_enter Try.func18, Try.ntmps18
    go_wp2_with fail
    go_loopw [3] (fun i wr => ∃ k : Nat, k ≤ zs.length ∧ i = .int .i64 k ∧ wr = w.alloc (.cells #[.int .i64 0, .int .i64 0] 26) ∧ (∀ t, t < k → bad (zs[t]?.getD 0) = false))
      (fun i _ => zs.length - (intOf i).toNat)
    case atStart => exact ⟨0, Nat.zero_le _, rfl, rfl, fun t ht => by omega⟩
    case round =>
      obtain ⟨k, hk, rfl, rfl, hall⟩ := hrel
      have HA := hide hall
      clear hall
      by_cases hlt : k < zs.length
      · obtain rfl := hr.at_ (by omega)
        have hx := (hr.below hB0 hp).cell k hlt
        obtain ⟨x, hxe⟩ : ∃ x, zs[k]?.getD 0 = x := ⟨_, rfl⟩
        rw [hxe] at hx
        have HX := hide hxe
        clear hxe
        by_cases hb : bad x = true
        · obtain ⟨hf1, hf2⟩ := wf_at HB.out hlt (by rw [HX.out]; exact hb) HA.out
          have HF1 := hide hf1
          have HF2 := hide hf2
          clear hf1 hf2
          rcases bad_cases' hb with h1 | ⟨h1, h2⟩ | ⟨h1, h2, h3⟩
          all_goals
            clear hb
            go_wp2_with fail
            refine (f_any 3 (k : Int) _).mono ?_
            rintro e w1 ⟨rfl, hl1⟩
            have hR := HFI.out w1 hl1
            obtain ⟨hd0, hd1, hg0, hg1⟩ := hR.two
            go_wp2
            refine bodyPost_ret (v := .agg #[.int .i64 3, .int .i64 k]) (by simp [results, Try.results18, go_sem, hd0, hd1]) rfl ⟨by rw [HF1.out, HF2.out], ?_⟩
            exact ((bcat hB0 hl1 hB0.size).setCell (p := ⟨w.heap.size, 0, none⟩) (Nat.le_refl _) _).setCell (p := ⟨w.heap.size, 1, none⟩) (Nat.le_refl _) _
        · have hb : bad x = false := by simpa using hb
          have HBX := hide hb
          obtain ⟨h1, h2, h3⟩ := bad_parts hb
          clear hb
          go_wp2
          go_roundw
          case rel => exact ⟨k + 1, by omega, by go_num, by trivial, fun t ht => by
            by_cases e : t = k
            · rw [e, HX.out]; exact HBX.out
            · exact HA.out t (by omega)⟩
          case measure => simp [intOf]; omega
      · obtain ⟨hf1, hf2⟩ := wf_ok HB.out (lt_of_at (fun t ht => HA.out t (by omega)))
        have HF1 := hide hf1
        have HF2 := hide hf2
        clear hf1 hf2
        go_wp2
        refine bodyPost_ret (v := .agg #[.int .i64 0, .int .i64 0]) (by simp [results, Try.results18, go_sem]) rfl ⟨by rw [HF1.out, HF2.out], ?_⟩
        exact (Below.refl _ w).alloc (Nat.le_refl _) _

end Go.Proofs.Ytakmfhnigpmngaa
