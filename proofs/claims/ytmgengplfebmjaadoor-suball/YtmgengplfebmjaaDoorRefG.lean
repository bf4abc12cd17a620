/- What the document's GroupFault answers: at every table, whatever it holds, the fault that the plain function gfault tells. -/
import Derived.Test.YtmgengplfebmjaaDoorRefE
namespace Go.Proofs.YtmgengplfebmjaaDoor
open Go Go.RowKit

theorem gf_range {n : Nat} {zs : List Int} (h1 : 1 ≤ n) (h2 : n ≤ 60) (h3 : zs.length = n * n) {i : Nat} (hi : i < zs.length) (hb : zs[i]?.getD 0 < 0 ∨ (n : Int) ≤ zs[i]?.getD 0) (hno : ∀ t, t < i → ¬ (zs[t]?.getD 0 < 0 ∨ (n : Int) ≤ zs[t]?.getD 0)) : gfault n zs = (3, (i : Int)) := by
  have he : efault n zs = (3, (i : Int)) := by
    unfold efault
    have hl : least zs.length (fun i => decide (zs[i]?.getD 0 < 0 ∨ (n : Int) ≤ zs[i]?.getD 0)) = (i : Int) := least_at hi (decide_eq_true hb) (fun t ht => decide_eq_false (hno t ht))
    rw [if_neg (by omega), if_neg (by rw [h3, Int.natCast_mul]; simp), hl, if_pos (by omega)]
  unfold gfault
  rw [he, if_pos (by simp)]
theorem gf_ef {N : Int} {zs : List Int} {c i : Int} (h : efault N zs = (c, i)) (hc : c ≠ 0) : gfault N zs = (c, i) := by
  unfold gfault
  rw [h, if_pos hc]
theorem gf_none {n : Nat} {zs : List Int} (ht : IsTab n zs) (ho : one n zs = -1) : gfault n zs = (6, 0) := by
  unfold gfault
  rw [efault_of_tab ht, if_neg (by simp), Int.toNat_natCast, if_pos ho]
theorem gf_false {n : Nat} {zs : List Int} (ht : IsTab n zs) (ho : one n zs ≠ -1) {a : Nat} (ha : a < n) (hb : assB n zs a = false) (hno : ∀ t, t < a → assB n zs t = true) : gfault n zs = (7, (a : Int)) := by
  have hl : least n (fun a => !assB n zs a) = (a : Int) := least_at ha (by simp [hb]) (fun t h => by simp [hno t h])
  unfold gfault
  rw [efault_of_tab ht, if_neg (by simp), Int.toNat_natCast, if_neg ho, hl, if_pos (by omega)]
theorem invR_eq {n : Nat} {zs : List Int} (ht : IsTab n zs) (ho : one n zs ≠ -1) (hass : ∀ t, t < n → assB n zs t = true) {a : Nat} (ha : a < n) : invR n zs a = invL n zs (one n zs) a := by
  rcases least_cases n (oneB n zs) with ⟨e, he, hp, _, ee⟩ | ⟨_, ee⟩
  · have hone : one n zs = (e : Int) := ee
    have h1 := oneB_iff.1 hp
    unfold invR invL
    rw [hone]
    refine least_congr fun b hb => ?_
    rw [Bool.eq_iff_iff, Bool.and_eq_true, decide_eq_true_eq, decide_eq_true_eq]
    constructor
    · exact fun h => h.1
    · intro h
      refine ⟨h, ?_⟩
      have h2 := inv_both ht he (fun a ha => (h1 a ha).1) (fun a ha => (h1 a ha).2) (fun a b c ha hb hc => assB_iff.1 (hass a ha) b c hb hc) ha hb (by omega)
      rw [h2]
  · exact absurd ee ho
theorem gf_kind {n : Nat} {zs : List Int} (ht : IsTab n zs) (ho : one n zs ≠ -1) (hass : ∀ t, t < n → assB n zs t = true) {a : Nat} (ha : a < n) (hb : invR n zs a = -1) (hno : ∀ t, t < a → invR n zs t ≠ -1) : gfault n zs = (4, (a : Int)) := by
  have hl : least n (fun a => !assB n zs a) = -1 := least_none (fun t h => by simp [hass t h])
  have hk : least n (fun a => decide (invL n zs (one n zs) a = -1)) = (a : Int) := least_at ha (by rw [decide_eq_true_eq, ← invR_eq ht ho hass ha]; exact hb) (fun t h => by rw [decide_eq_false_iff_not, ← invR_eq ht ho hass (by omega)]; exact hno t h)
  unfold gfault
  rw [efault_of_tab ht, if_neg (by simp), Int.toNat_natCast, if_neg ho, hl, if_neg (by simp), hk, if_pos (by omega)]
theorem gf_ok {n : Nat} {zs : List Int} (ht : IsTab n zs) (ho : one n zs ≠ -1) (hass : ∀ t, t < n → assB n zs t = true) (hno : ∀ t, t < n → invR n zs t ≠ -1) : gfault n zs = (0, 0) := by
  have hl : least n (fun a => !assB n zs a) = -1 := least_none (fun t h => by simp [hass t h])
  have hk : least n (fun a => decide (invL n zs (one n zs) a = -1)) = -1 := least_none (fun t h => by rw [decide_eq_false_iff_not, ← invR_eq ht ho hass (by omega)]; exact hno t h)
  unfold gfault
  rw [efault_of_tab ht, if_neg (by simp), Int.toNat_natCast, if_neg ho, hl, if_neg (by simp), hk, if_neg (by simp)]
theorem invR_neg {n : Nat} {zs : List Int} {a : Nat} : invR n zs a < 0 ↔ invR n zs a = -1 := by
  unfold invR
  rcases least_cases n (fun b => decide ((tm n zs a b : Int) = one n zs) && decide ((tm n zs b a : Int) = one n zs)) with ⟨k, _, _, _, e⟩ | ⟨_, e⟩
  · rw [e]; omega
  · rw [e]; omega
theorem one_neg {n : Nat} {zs : List Int} : one n zs < 0 ↔ one n zs = -1 := by
  unfold one
  rcases least_cases n (oneB n zs) with ⟨k, _, _, _, e⟩ | ⟨_, e⟩
  · rw [e]; omega
  · rw [e]; omega

set_option maxRecDepth 100000 in
set_option maxHeartbeats 8000000 in
theorem groupFault_any (N : Int) (v : Value) (zs : List Int) (w : World) (hv : Sl w v zs) :
    Calls Tryd.prog 12 #[.agg #[.int .i64 N, v]] w fun x w' => x = .returned (.agg #[.int .i64 (gfault N zs).1, .int .i64 (gfault N zs).2]) ∧ Below w.heap.size w w' := by
  obtain ⟨w0, hw0⟩ : ∃ w0, w0 = (w.alloc (.cells #[.int .i64 N, v] 24)).alloc (.cells #[.int .i64 0, .int .i64 0] 27) := ⟨_, rfl⟩
  have hB0 : Below w.heap.size w w0 := by rw [hw0]; exact (balloc w _).alloc (by simp) _
  have hg0 : BoxG w0 w.heap.size N v := by rw [hw0]; exact (blk0 _ _).alloc _
  have hR0 : Blk w0 (w.heap.size + 1) 27 [.int .i64 0, .int .i64 0] := by
    rw [hw0]
    have := Two.new (w.alloc (.cells #[.int .i64 N, v] 24))
    rw [World.size_alloc] at this; exact this.blk
  have hv0 := hv.below hB0
  have hs0 : w.heap.size + 1 < w0.heap.size := hR0.lt
  obtain ⟨x, cap, pb, po, rfl, hr, hp, hq3, hq4⟩ := id hv
  unfold maxLen at hq4
  obtain ⟨g0, g1, _, _⟩ := hg0.two
  have c0 := g0
  have c1 := g1
  rw [hw0] at c0 c1
  by_cases h1 : N < 1
  · have hf : gfault N zs = (2, 0) := gf_ef (by unfold efault; rw [if_pos (.inl h1)]) (by simp)
    rw [hf]
    clear hf
    go_enter Tryd.func12, Tryd.ntmps12
    go_wp2_with fail
    rw [← hw0]
    clear hw0 c0 c1
    refine (f_any 2 0 _).mono ?_
    rintro e w9 ⟨rfl, hb9⟩
    have hB9 := bcat2 (Below.refl _ w0) hb9
    have hR9 := blk_below hR0 hB9
    have hBw9 := bcat hB0 hB9 hB0.size
    obtain ⟨y0, y1, fy0, fy1⟩ := hR9.two
    obtain ⟨hR6, hB6⟩ := put2 hR9 hBw9 (by omega) 2 0
    go_wp2
    generalize (w9.setCell ⟨w.heap.size + 1, 0, none⟩ (.int .i64 2)).setCell ⟨w.heap.size + 1, 1, none⟩ (.int .i64 0) = W at hR6 hB6 ⊢
    obtain ⟨z0, z1, _, _⟩ := hR6.two
    exact bodyPost_ret (v := .agg #[.int .i64 2, .int .i64 0]) (by simp [results, Tryd.results12, go_sem, z0, z1]) rfl ⟨rfl, hB6⟩
  · by_cases h2 : 60 < N
    · have hf : gfault N zs = (2, 0) := gf_ef (by unfold efault; rw [if_pos (.inr h2)]) (by simp)
      rw [hf]
      clear hf
      go_enter Tryd.func12, Tryd.ntmps12
      go_wp2_with fail
      rw [← hw0]
      clear hw0 c0 c1
      refine (f_any 2 0 _).mono ?_
      rintro e w9 ⟨rfl, hb9⟩
      have hB9 := bcat2 (Below.refl _ w0) hb9
      have hR9 := blk_below hR0 hB9
      have hBw9 := bcat hB0 hB9 hB0.size
      obtain ⟨y0, y1, fy0, fy1⟩ := hR9.two
      obtain ⟨hR6, hB6⟩ := put2 hR9 hBw9 (by omega) 2 0
      go_wp2
      generalize (w9.setCell ⟨w.heap.size + 1, 0, none⟩ (.int .i64 2)).setCell ⟨w.heap.size + 1, 1, none⟩ (.int .i64 0) = W at hR6 hB6 ⊢
      obtain ⟨z0, z1, _, _⟩ := hR6.two
      exact bodyPost_ret (v := .agg #[.int .i64 2, .int .i64 0]) (by simp [results, Tryd.results12, go_sem, z0, z1]) rfl ⟨rfl, hB6⟩
    · obtain ⟨n, rfl⟩ : ∃ n : Nat, N = n := ⟨N.toNat, by omega⟩
      have hn1 : 1 ≤ n := by omega
      have hn2 : n ≤ 60 := by omega
      have hnn : n * n ≤ 60 * 60 := Nat.mul_le_mul hn2 hn2
      have hm : (n : Int) * (n : Int) = ((n * n : Nat) : Int) := by rw [Int.natCast_mul]
      by_cases h3 : zs.length = n * n
      · have H3 := hide h3
        have hbe : ((zs.length : Int) != ((n * n : Nat) : Int)) = false := by simp [h3]
        have hll : zs.length ≤ 3600 := by omega
        clear h3
        generalize n * n = q at hm hbe hnn
        go_enter Tryd.func12, Tryd.ntmps12
        go_wp2
        rw [← hw0]
        clear hw0 c0 c1
        go_loopw [3] (fun i wr => ∃ k : Nat, k ≤ zs.length ∧ i = .int .i64 k ∧ (∀ t, t < k → ¬ (zs[t]?.getD 0 < 0 ∨ (n : Int) ≤ zs[t]?.getD 0)) ∧ Below w0.heap.size w0 wr) (fun i _ => zs.length - (intOf i).toNat)
        case atStart => exact ⟨0, Nat.zero_le _, rfl, fun b hb => by omega, Below.refl _ _⟩
        case round =>
          obtain ⟨i, hk, rfl, hno, hB⟩ := hrel
          have HN := hide hno
          have d0 := below_cell hB g0
          have d1 := below_cell hB g1
          clear hno
          by_cases hlt : i < zs.length
          · obtain ⟨y, hy⟩ : ∃ y, zs[i]?.getD 0 = y := ⟨_, rfl⟩
            have hr0 := hr
            obtain rfl := hr.at_ (by omega)
            have hcy := hr0.cell i hlt
            rw [hy] at hcy
            have hcy0 := below_cell hB0 hcy
            have hcy1 := below_cell hB hcy0
            have HY := hide hy
            have hii : (i : Int) < (zs.length : Int) := by omega
            clear hy
            by_cases hy0 : y < 0
            · have hyd : decide (y < 0) = true := decide_eq_true hy0
              go_wp2_with fail
              go_quiet (fail)
              go_wp2_with fail
              refine (f_any 3 (i : Int) _).mono ?_
              rintro e w9 ⟨rfl, hb9⟩
              have hB9 := bcat2 (bdrewN hB _) hb9
              have hR9 := blk_below hR0 hB9
              have hBw9 := bcat hB0 hB9 hB0.size
              obtain ⟨y0, y1, fy0, fy1⟩ := hR9.two
              obtain ⟨hR6, hB6⟩ := put2 hR9 hBw9 (by omega) 3 (i : Int)
              go_wp2
              generalize (w9.setCell ⟨w.heap.size + 1, 0, none⟩ (.int .i64 3)).setCell ⟨w.heap.size + 1, 1, none⟩ (.int .i64 (i : Int)) = W at hR6 hB6 ⊢
              obtain ⟨z0, z1, _, _⟩ := hR6.two
              exact bodyPost_ret (v := .agg #[.int .i64 3, .int .i64 (i : Int)]) (by simp [results, Tryd.results12, go_sem, z0, z1]) rfl ⟨by rw [gf_range hn1 hn2 H3.out hlt (.inl (by rw [HY.out]; exact hy0)) HN.out], hB6⟩
            · have hyd : decide (y < 0) = false := decide_eq_false hy0
              by_cases hy1 : (n : Int) ≤ y
              · have hye : decide ((n : Int) ≤ y) = true := decide_eq_true hy1
                go_wp2_with fail
                go_quiet (fail)
                go_wp2_with fail
                refine (f_any 3 (i : Int) _).mono ?_
                rintro e w9 ⟨rfl, hb9⟩
                have hB9 := bcat2 (bdrewN hB _) hb9
                have hR9 := blk_below hR0 hB9
                have hBw9 := bcat hB0 hB9 hB0.size
                obtain ⟨y0, y1, fy0, fy1⟩ := hR9.two
                obtain ⟨hR6, hB6⟩ := put2 hR9 hBw9 (by omega) 3 (i : Int)
                go_wp2
                generalize (w9.setCell ⟨w.heap.size + 1, 0, none⟩ (.int .i64 3)).setCell ⟨w.heap.size + 1, 1, none⟩ (.int .i64 (i : Int)) = W at hR6 hB6 ⊢
                obtain ⟨z0, z1, _, _⟩ := hR6.two
                exact bodyPost_ret (v := .agg #[.int .i64 3, .int .i64 (i : Int)]) (by simp [results, Tryd.results12, go_sem, z0, z1]) rfl ⟨by rw [gf_range hn1 hn2 H3.out hlt (.inr (by rw [HY.out]; exact hy1)) HN.out], hB6⟩
              · have hye : decide ((n : Int) ≤ y) = false := decide_eq_false hy1
                go_wp2_with fail
                go_quiet (fail)
                go_wp2
                go_roundw
                case rel => exact ⟨i + 1, by omega, by go_num, fun t ht => by
                  by_cases e : t = i
                  · rw [e, HY.out]; omega
                  · exact HN.out t (by omega), bdrewN hB _⟩
                case measure => simp [intOf]; omega
          · have hik : i = zs.length := by omega
            subst hik
            have HT := hide (show IsTab n zs from ⟨hn1, hn2, H3.out, fun t ht => by have := HN.out t (by rw [H3.out]; exact ht); omega⟩)
            clear HN
            go_wp2_with fail
            refine (E_ok n _ zs _ HT.out (hv0.below hB)).mono ?_
            rintro e w1 ⟨rfl, hb1⟩
            have hB1 := bcat2 hB hb1
            have hone := one_neg (n := n) (zs := zs)
            clear d0 d1 hb1 hB
            obtain ⟨o, hoe⟩ : ∃ o, one n zs = o := ⟨_, rfl⟩
            rw [hoe] at hone ⊢
            have HOE := hide hoe
            have HONE := hide hone
            clear hoe hone
            by_cases ho : o < 0
            · go_wp2_with fail
              refine (f_any 6 0 _).mono ?_
              rintro e w9 ⟨rfl, hb9⟩
              have hB9 := bcat2 hB1 hb9
              have hR9 := blk_below hR0 hB9
              have hBw9 := bcat hB0 hB9 hB0.size
              obtain ⟨y0, y1, fy0, fy1⟩ := hR9.two
              obtain ⟨hR6, hB6⟩ := put2 hR9 hBw9 (by omega) 6 0
              go_wp2
              generalize (w9.setCell ⟨w.heap.size + 1, 0, none⟩ (.int .i64 6)).setCell ⟨w.heap.size + 1, 1, none⟩ (.int .i64 0) = W at hR6 hB6 ⊢
              obtain ⟨z0, z1, _, _⟩ := hR6.two
              exact bodyPost_ret (v := .agg #[.int .i64 6, .int .i64 0]) (by simp [results, Tryd.results12, go_sem, z0, z1]) rfl ⟨by rw [gf_none HT.out (by rw [HOE.out]; exact HONE.out.1 ho)], hB6⟩
            · have HO := hide (show one n zs ≠ -1 by rw [HOE.out]; exact fun h => ho (HONE.out.2 h))
              clear HOE HONE
              have d0 := below_cell hB1 g0
              have d1 := below_cell hB1 g1
              go_wp2
              clear d0 d1
              go_loopw [4] (fun i wr => ∃ k : Nat, k ≤ n ∧ i = .int .i64 k ∧ (∀ t, t < k → assB n zs t = true) ∧ Below w0.heap.size w0 wr) (fun i _ => n - (intOf i).toNat)
              case atStart => exact ⟨0, Nat.zero_le _, rfl, fun b hb => by omega, hB1⟩
              case round =>
                obtain ⟨a, hka, rfl, hno, hB2⟩ := hrel
                have HA := hide hno
                have d0 := below_cell hB2 g0
                have d1 := below_cell hB2 g1
                clear hno
                by_cases hlta : a < n
                · go_wp2
                  clear d0 d1
                  go_loopw [5] (fun i wr => ∃ k : Nat, k ≤ n ∧ i = .int .i64 k ∧ (∀ b c, b < k → c < n → tm n zs (tm n zs a b) c = tm n zs a (tm n zs b c)) ∧ Below w0.heap.size w0 wr) (fun i _ => n - (intOf i).toNat)
                  case atStart => exact ⟨0, Nat.zero_le _, rfl, fun b c hb => by omega, hB2⟩
                  case round =>
                    obtain ⟨b, hkb, rfl, hno, hB3⟩ := hrel
                    have HBB := hide hno
                    have d0 := below_cell hB3 g0
                    have d1 := below_cell hB3 g1
                    clear hno
                    by_cases hltb : b < n
                    · have hab := tm_lt HT.out hlta hltb
                      go_wp2
                      clear d0 d1
                      go_loopw [6] (fun i wr => ∃ k : Nat, k ≤ n ∧ i = .int .i64 k ∧ (∀ c, c < k → tm n zs (tm n zs a b) c = tm n zs a (tm n zs b c)) ∧ Below w0.heap.size w0 wr) (fun i _ => n - (intOf i).toNat)
                      case atStart => exact ⟨0, Nat.zero_le _, rfl, fun c hc => by omega, hB3⟩
                      case round =>
                        obtain ⟨c, hkc, rfl, hno, hB4⟩ := hrel
                        have HC := hide hno
                        have d0 := below_cell hB4 g0
                        have d1 := below_cell hB4 g1
                        clear hno
                        by_cases hltc : c < n
                        · have hbc := tm_lt HT.out hltb hltc
                          have hS : ∀ W, Below w0.heap.size w0 W → (Below w0.heap.size w0 W ∧ W.cell? ⟨w.heap.size, 0, none⟩ = some (.int .i64 n) ∧ W.cell? ⟨w.heap.size, 1, none⟩ = some (.slice x zs.length cap)) := fun W h => ⟨h, below_cell h g0, below_cell h g1⟩
                          have hS0 := hS _ (bdrew hB4)
                          go_wp2_with fail
                          clear d0 d1
                          go_region_held3 (fun W => Below w0.heap.size w0 W ∧ W.cell? ⟨w.heap.size, 0, none⟩ = some (.int .i64 n) ∧ W.cell? ⟨w.heap.size, 1, none⟩ = some (.slice x zs.length cap))
                            (first | exact hS0 | assumption | exact hS _ (bcat2 (And.left ‹_›) hl1))
                            (first | (go_at_call 59; refine (M_ok n _ zs _ _ _ HT.out (hv0.below (And.left ‹_›)) (by assumption) (by assumption)).mono ?_; rintro e W1 ⟨rfl, hl1⟩))
                          obtain ⟨hB5, _⟩ := ‹Below w0.heap.size w0 W1 ∧ _›
                          clear hS hS0 hl1
                          by_cases hxy : tm n zs (tm n zs a b) c = tm n zs a (tm n zs b c)
                          · have hbe : ((tm n zs (tm n zs a b) c : Int) != (tm n zs a (tm n zs b c) : Int)) = false := by simp [hxy]
                            have HXY := hide hxy
                            clear hxy
                            go_wp2
                            go_roundw
                            case rel => exact ⟨c + 1, by omega, by go_num, fun d hd => by
                              by_cases e : d = c
                              · rw [e]; exact HXY.out
                              · exact HC.out d (by omega), hB5⟩
                            case measure => simp [intOf]; omega
                          · have hbe : ((tm n zs (tm n zs a b) c : Int) != (tm n zs a (tm n zs b c) : Int)) = true := by simp; omega
                            have hass : assB n zs a = false := by
                              cases hq : assB n zs a with
                              | false => rfl
                              | true => exact absurd (assB_iff.1 hq b c hltb hltc) hxy
                            have HASS := hide hass
                            clear hass
                            go_wp2_with fail
                            refine (f_any 7 (a : Int) _).mono ?_
                            rintro e w9 ⟨rfl, hb9⟩
                            have hB9 := bcat2 hB5 hb9
                            have hR9 := blk_below hR0 hB9
                            have hBw9 := bcat hB0 hB9 hB0.size
                            obtain ⟨y0, y1, fy0, fy1⟩ := hR9.two
                            obtain ⟨hR6, hB6⟩ := put2 hR9 hBw9 (by omega) 7 (a : Int)
                            go_wp2
                            generalize (w9.setCell ⟨w.heap.size + 1, 0, none⟩ (.int .i64 7)).setCell ⟨w.heap.size + 1, 1, none⟩ (.int .i64 (a : Int)) = W at hR6 hB6 ⊢
                            obtain ⟨z0, z1, _, _⟩ := hR6.two
                            exact bodyPost_ret (v := .agg #[.int .i64 7, .int .i64 (a : Int)]) (by simp [results, Tryd.results12, go_sem, z0, z1]) rfl ⟨by rw [gf_false HT.out HO.out hlta HASS.out HA.out], hB6⟩
                        · have hcn : c = n := by omega
                          subst hcn
                          go_wp2
                          go_roundw
                          case rel => exact ⟨b + 1, by omega, by go_num, fun d e hd he => by
                            by_cases h : d = b
                            · rw [h]; exact HC.out e he
                            · exact HBB.out d e (by omega) he, hB4⟩
                          case measure => simp [intOf]; omega
                    · have hbn : b = n := by omega
                      subst hbn
                      go_wp2
                      go_roundw
                      case rel => exact ⟨a + 1, by omega, by go_num, fun t ht => by
                        by_cases e : t = a
                        · rw [e]; exact assB_iff.2 (fun d c hd hc => HBB.out d c hd hc)
                        · exact HA.out t (by omega), hB3⟩
                      case measure => simp [intOf]; omega
                · have han : a = n := by omega
                  subst han
                  go_wp2
                  clear d0 d1
                  go_loopw [7] (fun i wr => ∃ k : Nat, k ≤ a ∧ i = .int .i64 k ∧ (∀ t, t < k → invR a zs t ≠ -1) ∧ Below w0.heap.size w0 wr) (fun i _ => a - (intOf i).toNat)
                  case atStart => exact ⟨0, Nat.zero_le _, rfl, fun b hb => by omega, hB2⟩
                  case round =>
                    obtain ⟨b, hkb, rfl, hno, hB3⟩ := hrel
                    have HK := hide hno
                    have d0 := below_cell hB3 g0
                    have d1 := below_cell hB3 g1
                    clear hno
                    by_cases hltb : b < a
                    · go_wp2_with fail
                      refine (I_ok a b _ zs _ HT.out (hv0.below hB3) hltb).mono ?_
                      rintro e w2 ⟨rfl, hb2⟩
                      have hB4 := bcat2 hB3 hb2
                      have HIN := hide (invR_neg (n := a) (zs := zs) (a := b))
                      clear d0 d1
                      by_cases hin : invR a zs b < 0
                      · go_wp2_with fail
                        refine (f_any 4 (b : Int) _).mono ?_
                        rintro e w9 ⟨rfl, hb9⟩
                        have hB9 := bcat2 hB4 hb9
                        have hR9 := blk_below hR0 hB9
                        have hBw9 := bcat hB0 hB9 hB0.size
                        obtain ⟨y0, y1, fy0, fy1⟩ := hR9.two
                        obtain ⟨hR6, hB6⟩ := put2 hR9 hBw9 (by omega) 4 (b : Int)
                        go_wp2
                        generalize (w9.setCell ⟨w.heap.size + 1, 0, none⟩ (.int .i64 4)).setCell ⟨w.heap.size + 1, 1, none⟩ (.int .i64 (b : Int)) = W at hR6 hB6 ⊢
                        obtain ⟨z0, z1, _, _⟩ := hR6.two
                        exact bodyPost_ret (v := .agg #[.int .i64 4, .int .i64 (b : Int)]) (by simp [results, Tryd.results12, go_sem, z0, z1]) rfl ⟨by rw [gf_kind HT.out HO.out HA.out hltb (HIN.out.1 hin) HK.out], hB6⟩
                      · go_wp2
                        go_roundw
                        case rel => exact ⟨b + 1, by omega, by go_num, fun t ht => by
                          by_cases e : t = b
                          · rw [e]; exact fun h => by have := HIN.out.2 h; omega
                          · exact HK.out t (by omega), hB4⟩
                        case measure => simp [intOf]; omega
                    · have hbn : b = a := by omega
                      subst hbn
                      have hR3 := blk_below hR0 hB3
                      obtain ⟨_, y0, y1, fy0, fy1, s0, s1⟩ := Two.mk' hR3
                      go_wp2
                      exact bodyPost_ret (v := .agg #[.int .i64 0, .int .i64 0]) (by simp [results, Tryd.results12, go_sem, y0, y1]) rfl ⟨by rw [gf_ok HT.out HO.out HA.out HK.out], bcat hB0 hB3 hB0.size⟩
      · have hf : gfault n zs = (8, 0) := gf_ef (by
          unfold efault
          rw [if_neg (by omega), if_pos (by rw [hm]; omega)]) (by simp)
        have hbe : ((zs.length : Int) != ((n * n : Nat) : Int)) = true := by simp; omega
        rw [hf]
        clear hf
        generalize n * n = q at *
        clear h3
        go_enter Tryd.func12, Tryd.ntmps12
        go_wp2_with fail
        rw [← hw0]
        clear hw0 c0 c1
        refine (f_any 8 0 _).mono ?_
        rintro e w9 ⟨rfl, hb9⟩
        have hB9 := bcat2 (Below.refl _ w0) hb9
        have hR9 := blk_below hR0 hB9
        have hBw9 := bcat hB0 hB9 hB0.size
        obtain ⟨y0, y1, fy0, fy1⟩ := hR9.two
        obtain ⟨hR6, hB6⟩ := put2 hR9 hBw9 (by omega) 8 0
        go_wp2
        generalize (w9.setCell ⟨w.heap.size + 1, 0, none⟩ (.int .i64 8)).setCell ⟨w.heap.size + 1, 1, none⟩ (.int .i64 0) = W at hR6 hB6 ⊢
        obtain ⟨z0, z1, _, _⟩ := hR6.two
        exact bodyPost_ret (v := .agg #[.int .i64 8, .int .i64 0]) (by simp [results, Tryd.results12, go_sem, z0, z1]) rfl ⟨rfl, hB6⟩
end Go.Proofs.YtmgengplfebmjaaDoor
