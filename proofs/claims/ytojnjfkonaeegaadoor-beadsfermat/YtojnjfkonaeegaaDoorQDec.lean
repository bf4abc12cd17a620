/- What nat.Decimal answers at numbers below 100: the decimal digits. -/
import Derived.Test.YtojnjfkonaeegaaDoorQNat
import Derived.Test.YtojnjfkonaeegaaDoorQWrite
namespace Go.Proofs.YtojnjfkonaeegaaDoorQ
open Go Go.RowKit Go.Sort

set_option maxRecDepth 100000 in
set_option maxHeartbeats 1000000 in
theorem fmtU_small (u : Nat) (hu : u < 100) (w : World) :
    Calls Tryd.prog 77 #[.int .u64 u, .int .i64 10] w fun e w' => e = .returned (.string ⟨(Lib.decDigits u).toArray⟩) ∧ w' = w := by
  have h1 : (u : Int) < 100 := by omega
  go_enter Tryd.func77, Tryd.ntmps77
  go_wp2_with fail
  refine (Tryd.internal_strconv_small u hu _).mono ?_
  rintro e w1 ⟨rfl, rfl⟩
  go_wp2
  go_ret
  exact ⟨rfl, rfl⟩
set_option maxHeartbeats 1000000 in
theorem formatUint_small (u : Nat) (hu : u < 100) (w : World) :
    Calls Tryd.prog 51 #[.int .u64 u, .int .i64 10] w fun e w' => e = .returned (.string ⟨(Lib.decDigits u).toArray⟩) ∧ w' = w := by
  go_enter Tryd.func51, Tryd.ntmps51
  go_wp2_with fail
  refine (fmtU_small u hu _).mono ?_
  rintro e w1 ⟨rfl, rfl⟩
  go_wp2
  go_ret
  exact ⟨rfl, rfl⟩

/-- What is asked of Decimal at a number. -/
def DecSpec (n : Nat) : Prop := ∀ (base : Nat) (v : Value) (qs : List Nat) (w : World), w.ownsRow base 89 1 v qs.length (us qs) → (∀ q, q ∈ qs → q < 1000000000) → qs.getLast? ≠ some 0 → val qs = n → Tab w.heap.size w →
  Calls Tryd.prog 35 #[.agg #[v]] w fun e w' => e = .returned (.string ⟨(Lib.decDigits n).toArray⟩) ∧ Below w.heap.size w w'

theorem canon_small {qs : List Nat} {n : Nat} (hlast : qs.getLast? ≠ some 0) (hv : val qs = n) (hn : n < 1000000000) : (qs = [] ∧ n = 0) ∨ (qs = [n] ∧ 0 < n) := by
  match qs, hlast, hv with
  | [], _, hv => exact .inl ⟨rfl, by simpa [val] using hv.symm⟩
  | [p], hl, hv =>
    simp [val] at hv
    subst hv
    exact .inr ⟨rfl, by simp at hl; omega⟩
  | p :: q :: r, hl, hv =>
    exfalso
    have h0 : ∀ (l : List Nat), l ≠ [] → l.getLast? ≠ some 0 → 0 < val l := by
      intro l
      induction l with
      | nil => intro h; exact absurd rfl h
      | cons a l ih =>
        intro _ h2
        cases l with
        | nil => simp at h2; simp [val]; omega
        | cons b l =>
          have := ih (by simp) (by simpa using h2)
          rw [val]; omega
    have h1 := h0 (q :: r) (by simp) (by simpa using hl)
    rw [val] at hv
    omega

set_option maxRecDepth 100000 in
set_option maxHeartbeats 2000000 in
theorem decimal_small (n : Nat) (hn : n < 100) : DecSpec n := by
  intro base v qs w hown hsm hlast hv htab
  rcases canon_small hlast hv (by omega) with ⟨rfl, rfl⟩ | ⟨rfl, hpos⟩
  · obtain ⟨a, g, cap, rfl, hr, _, _, _⟩ := UReads.of_own hown
    clear hown
    go_enter Tryd.func35, Tryd.ntmps35
    go_wp2
    go_ret
    refine ⟨?_, (Below.refl _ w).alloc (Nat.le_refl _) _⟩
    rw [Lib.decDigits_one (by omega)]; rfl
  · obtain ⟨a, g, cap, rfl, hr, hcap, hcm, hg⟩ := UReads.of_own hown
    obtain rfl := hr.at_ (by simp)
    have hc := hr.cell 0 (by simp)
    have hglt := hg (by simp)
    clear hown
    go_enter Tryd.func35, Tryd.ntmps35
    go_wp2_with fail
    refine (formatUint_small n hn _).mono ?_
    rintro e w1 ⟨rfl, rfl⟩
    obtain ⟨wa, hwa⟩ : ∃ wa, wa = (w.alloc (.cells #[.slice (some ⟨g, 0, none⟩) 1 cap] 60)).alloc (.cells #[.pointer none, .slice none 0 0] 83) := ⟨_, rfl⟩
    have hba : Lib.IsBuilderF 83 5 w.heap.size (w.heap.size + 1) (Lib.byteCells []) wa := by
      refine .inl ⟨by omega, .slice none 0 0, ?_, World.ownsRowF_nil _ _ _ _, by simp [Value.ownBlock]⟩
      rw [hwa]
      have := World.alloc_heap_new (w.alloc (.cells #[.slice (some ⟨g, 0, none⟩) 1 cap] 60)) (.cells #[.pointer none, .slice none 0 0] 83)
      rw [World.size_alloc] at this; exact this
    have hBa : Below w.heap.size w wa := by rw [hwa]; exact ((Below.refl _ w).alloc (Nat.le_refl _) _).alloc (by simp) _
    rw [← hwa]
    clear hwa
    go_wp2_with fail
    refine (Tryd.Builder_WriteString_k w.heap.size (w.heap.size + 1) _ _ _ hba (by
      have := dec_len n
      rw [cells_len]; simp [ByteArray.size]; omega) hBa.size).mono ?_
    rintro e w2 ⟨rfl, hb2, hl2, ho2⟩
    rw [strCells_list, cells_app, List.nil_append] at hb2
    have hB2 := hBa.trans hl2
    have hb2' : Lib.IsBuilderF 83 5 w.heap.size (w.heap.size + 1) (Lib.byteCells (Lib.decDigits n)) w2 := .inr hb2
    clear hb2 hba hBa hl2 ho2 hc hr
    go_wp2
    go_loopw [5] (fun i wr => i = .int .i64 (-1) ∧ wr = w2) (fun _ _ => 0)
    case atStart => exact ⟨rfl, rfl⟩
    case round =>
      obtain ⟨rfl, rfl⟩ := hrel
      go_wp2_with fail
      refine (Tryd.Builder_String_any_k w.heap.size (w.heap.size + 1) (Lib.decDigits n) _ hb2' hB2.size).mono ?_
      rintro e w3 ⟨rfl, _, hl3, _⟩
      go_wp2
      go_ret
      exact ⟨rfl, hB2.trans hl3⟩
end Go.Proofs.YtojnjfkonaeegaaDoorQ
