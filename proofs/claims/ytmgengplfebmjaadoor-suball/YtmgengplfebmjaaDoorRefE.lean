/- What the document's answers F, E and I are. -/
import Derived.Test.YtmgengplfebmjaaDoorCheckAll
namespace Go.Proofs.YtmgengplfebmjaaDoor
open Go Go.RowKit

set_option maxRecDepth 100000 in
theorem f_any (c i : Int) (w : World) : Calls Tryd.prog 13 #[.int .i64 c, .int .i64 i] w fun e w' => e = .returned (.agg #[.int .i64 c, .int .i64 i]) ∧ Below w.heap.size w w' := by
  go_enter Tryd.func13, Tryd.ntmps13
  go_wp2
  exact bodyPost_ret (v := .agg #[.int .i64 c, .int .i64 i]) (by simp [results, Tryd.results13, go_sem]) rfl ⟨rfl, balloc w _⟩

set_option maxRecDepth 100000 in
set_option maxHeartbeats 4000000 in
theorem E_ok (n : Nat) (v : Value) (zs : List Int) (w : World) (ht : IsTab n zs) (hv : Sl w v zs) :
    Calls Tryd.prog 58 #[.agg #[.int .i64 n, v]] w fun x w' => x = .returned (.int .i64 (one n zs)) ∧ Below w.heap.size w w' := by
  have hB0 : Below w.heap.size w (w.alloc (.cells #[.int .i64 n, v] 24)) := balloc w _
  have hg0 : BoxG (w.alloc (.cells #[.int .i64 n, v] 24)) w.heap.size n v := blk0 _ _
  have hv0 := hv.below hB0
  have hle := ht.le
  have HT := hide ht
  obtain ⟨g0, g1, _, _⟩ := hg0.two
  clear ht
  go_enter Tryd.func58, Tryd.ntmps58
  go_wp2
  generalize w.alloc (.cells #[.int .i64 n, v] 24) = w0 at *
  go_loopw [3] (fun i wr => ∃ k : Nat, k ≤ n ∧ i = .int .i64 k ∧ (∀ t, t < k → oneB n zs t = false) ∧ Below w0.heap.size w0 wr) (fun i _ => n - (intOf i).toNat)
  case atStart => exact ⟨0, Nat.zero_le _, rfl, fun b hb => by omega, Below.refl _ _⟩
  case round =>
    obtain ⟨a, hk, rfl, hno, hB⟩ := hrel
    have HN := hide hno
    have d0 := below_cell hB g0
    have d1 := below_cell hB g1
    clear hno
    by_cases hlt : a < n
    · go_wp2
      clear d0 d1
      go_loopw [4, 5] (fun okv i wr => ∃ (k : Nat) (ok : Bool), k ≤ n ∧ i = .int .i64 k ∧ okv = .bool ok ∧ (ok = true ↔ ∀ c, c < k → tm n zs a c = c ∧ tm n zs c a = c) ∧ Below w0.heap.size w0 wr) (fun _ i _ => n - (intOf i).toNat)
      case atStart => exact ⟨0, true, Nat.zero_le _, rfl, rfl, ⟨fun _ c hc => by omega, fun _ => rfl⟩, hB⟩
      case round =>
        obtain ⟨c, ok, hk2, rfl, rfl, hok, hB2⟩ := hrel
        have HOK := hide hok
        have d0 := below_cell hB2 g0
        have d1 := below_cell hB2 g1
        clear hok
        by_cases hlt2 : c < n
        · go_wp2_with fail
          refine (M_ok n v zs a c _ HT.out (hv0.below hB2) hlt hlt2).mono ?_
          rintro e w1 ⟨rfl, hb1⟩
          have hB3 := bcat2 hB2 hb1
          have e0 := below_cell hB3 g0
          have e1 := below_cell hB3 g1
          clear d0 d1
          by_cases h1 : tm n zs a c = c
          · have h1b : ((tm n zs a c : Int) != (c : Int)) = false := by simp [h1]
            have H1 := hide h1
            clear h1
            go_wp2_with fail
            refine (M_ok n v zs c a _ HT.out (hv0.below hB3) hlt2 hlt).mono ?_
            rintro e w2 ⟨rfl, hb2⟩
            have hB4 := bcat2 hB3 hb2
            clear e0 e1
            by_cases h2 : tm n zs c a = c
            · have h2b : ((tm n zs c a : Int) != (c : Int)) = false := by simp [h2]
              have H2 := hide h2
              clear h2
              go_wp2
              go_roundw
              case rel => exact ⟨c + 1, ok, by omega, by go_num, rfl, ⟨fun h d hd => by
                by_cases e : d = c
                · rw [e]; exact ⟨H1.out, H2.out⟩
                · exact HOK.out.1 h d (by omega), fun h => HOK.out.2 (fun d hd => h d (by omega))⟩, hB4⟩
              case measure => simp [intOf]; omega
            · have h2b : ((tm n zs c a : Int) != (c : Int)) = true := by simp; omega
              go_wp2
              go_roundw
              case rel => exact ⟨c + 1, false, by omega, by go_num, rfl, ⟨fun h => (by cases h), fun h => absurd (h c (by omega)).2 h2⟩, hB4⟩
              case measure => simp [intOf]; omega
          · have h1b : ((tm n zs a c : Int) != (c : Int)) = true := by simp; omega
            go_wp2
            go_roundw
            case rel => exact ⟨c + 1, false, by omega, by go_num, rfl, ⟨fun h => (by cases h), fun h => absurd (h c (by omega)).1 h1⟩, hB3⟩
            case measure => simp [intOf]; omega
        · have hcn : c = n := by omega
          subst hcn
          have hone : oneB c zs a = ok := by
            rw [Bool.eq_iff_iff, oneB_iff]; exact HOK.out.symm
          cases ok with
          | true =>
            go_wp2
            go_ret
            exact ⟨retI (least_at hlt hone HN.out).symm, bcat hB0 hB2 hB0.size⟩
          | false =>
            go_wp2
            go_roundw
            case rel => exact ⟨a + 1, by omega, by go_num, fun t ht => by
              by_cases e : t = a
              · rw [e]; exact hone
              · exact HN.out t (by omega), hB2⟩
            case measure => simp [intOf]; omega
    · have hbn : a = n := by omega
      subst hbn
      go_wp2
      go_ret
      exact ⟨retI (least_none HN.out).symm, bcat hB0 hB hB0.size⟩

/-- The document's inverse: the least thing that is one on both sides. -/
def invR (n : Nat) (zs : List Int) (a : Nat) : Int := least n (fun b => decide ((tm n zs a b : Int) = one n zs) && decide ((tm n zs b a : Int) = one n zs))

set_option maxRecDepth 100000 in
set_option maxHeartbeats 4000000 in
theorem I_ok (n a : Nat) (v : Value) (zs : List Int) (w : World) (ht : IsTab n zs) (hv : Sl w v zs) (ha : a < n) :
    Calls Tryd.prog 60 #[.agg #[.int .i64 n, v], .int .i64 a] w fun x w' => x = .returned (.int .i64 (invR n zs a)) ∧ Below w.heap.size w w' := by
  have hB0 : Below w.heap.size w (w.alloc (.cells #[.int .i64 n, v] 24)) := balloc w _
  have hg0 : BoxG (w.alloc (.cells #[.int .i64 n, v] 24)) w.heap.size n v := blk0 _ _
  have hv0 := hv.below hB0
  have hle := ht.le
  have HE := hide (E_ok n v zs _ ht hv0)
  have HT := hide ht
  unfold invR
  generalize one n zs = o at *
  obtain ⟨g0, g1, _, _⟩ := hg0.two
  clear ht
  go_enter Tryd.func60, Tryd.ntmps60
  go_wp2_with fail
  refine HE.out.mono ?_
  rintro x w1 ⟨rfl, hb1⟩
  generalize w.alloc (.cells #[.int .i64 n, v] 24) = w0 at *
  clear HE
  go_wp2
  go_loopw [6] (fun i wr => ∃ k : Nat, k ≤ n ∧ i = .int .i64 k ∧ (∀ t, t < k → (decide ((tm n zs a t : Int) = o) && decide ((tm n zs t a : Int) = o)) = false) ∧ Below w0.heap.size w0 wr) (fun i _ => n - (intOf i).toNat)
  case atStart => exact ⟨0, Nat.zero_le _, rfl, fun b hb => by omega, hb1⟩
  case round =>
    obtain ⟨c, hk, rfl, hno, hB⟩ := hrel
    have HN := hide hno
    have d0 := below_cell hB g0
    have d1 := below_cell hB g1
    clear hno
    by_cases hlt : c < n
    · go_wp2_with fail
      refine (M_ok n v zs a c _ HT.out (hv0.below hB) ha hlt).mono ?_
      rintro e w2 ⟨rfl, hb2⟩
      have hB3 := bcat2 hB hb2
      have e0 := below_cell hB3 g0
      have e1 := below_cell hB3 g1
      clear d0 d1
      by_cases h1 : (tm n zs a c : Int) = o
      · have h1b : ((tm n zs a c : Int) == o) = true := by simp [h1]
        have H1 := hide h1
        clear h1
        go_wp2_with fail
        refine (M_ok n v zs c a _ HT.out (hv0.below hB3) hlt ha).mono ?_
        rintro e w3 ⟨rfl, hb3⟩
        have hB4 := bcat2 hB3 hb3
        clear e0 e1
        by_cases h2 : (tm n zs c a : Int) = o
        · have h2b : ((tm n zs c a : Int) == o) = true := by simp [h2]
          have H2 := hide h2
          clear h2
          go_wp2
          go_ret
          exact ⟨retI (least_at hlt (by simp [H1.out, H2.out]) HN.out).symm, bcat hB0 hB4 hB0.size⟩
        · have h2b : ((tm n zs c a : Int) == o) = false := by simp [h2]
          go_wp2
          go_roundw
          case rel => exact ⟨c + 1, by omega, by go_num, fun t ht => by
            by_cases e : t = c
            · rw [e]; simp [h2]
            · exact HN.out t (by omega), hB4⟩
          case measure => simp [intOf]; omega
      · have h1b : ((tm n zs a c : Int) == o) = false := by simp [h1]
        go_wp2
        go_roundw
        case rel => exact ⟨c + 1, by omega, by go_num, fun t ht => by
          by_cases e : t = c
          · rw [e]; simp [h1]
          · exact HN.out t (by omega), hB3⟩
        case measure => simp [intOf]; omega
    · have hbn : c = n := by omega
      subst hbn
      go_wp2
      go_ret
      exact ⟨retI (least_none HN.out).symm, bcat hB0 hB hB0.size⟩
end Go.Proofs.YtmgengplfebmjaaDoor
