/- What the document's answers F, E and I are. What the document's GroupFault answers: at every table, whatever it holds, the fault that the plain function gfault tells. What One, Inv and Abelian of package table answer: at every table, whatever it holds, and every number. What Abelian of package table answers, and what the document's Commutes is. Sets of numbers as bits of a number: or, and, the lowest one, all of them in order. No condition. What package set answers: sets as bits, of lists, asked, and as lists. Condition: the library's table of places lies as its text lays it. What a set's list is. Condition: the library's table of places lies as its text lays it. What the law's own copies of lists and tables are, and what the document's Ints, SameGroup and ThingFault and the law's numberAs tell. What products, conjugates, commutators and searches of package sub's own group answer. What package sub's made takes: a thing that is not there yet is put to the set and to the list. What package sub's made makes: what the makers make, all products of them. -/
import Derived.Test.YtlhjeenijcokoaaGreatDoorZ1
import Derived.WalkKit
import Derived.Laws.Bits64b
import Derived.Lib.TrailingZeros
import Derived.Shelf.Spec.TrailingZeros
import Derived.OwnWalk
namespace Go.Proofs.YtlhjeenijcokoaaGreatDoor
open Go Go.RowKit

set_option maxRecDepth 100000 in
theorem f_any (c i : Int) (w : World) : Calls Tryz.prog 13 #[.int .i64 c, .int .i64 i] w fun e w' => e = .returned (.agg #[.int .i64 c, .int .i64 i]) ∧ Below w.heap.size w w' := by
  go_enter Tryz.func13, Tryz.ntmps13
  go_wp2
  exact bodyPost_ret (v := .agg #[.int .i64 c, .int .i64 i]) (by simp [results, Tryz.results13, go_sem]) rfl ⟨rfl, balloc w _⟩

set_option maxRecDepth 100000 in
set_option maxHeartbeats 4000000 in
theorem E_ok (n : Nat) (v : Value) (zs : List Int) (w : World) (ht : IsTab n zs) (hv : Sl w v zs) :
    Calls Tryz.prog 63 #[.agg #[.int .i64 n, v]] w fun x w' => x = .returned (.int .i64 (one n zs)) ∧ Below w.heap.size w w' := by
  have hB0 : Below w.heap.size w (w.alloc (.cells #[.int .i64 n, v] 24)) := balloc w _
  have hg0 : BoxG (w.alloc (.cells #[.int .i64 n, v] 24)) w.heap.size n v := blk0 _ _
  have hv0 := hv.below hB0
  have hle := ht.le
  have HT := hide ht
  obtain ⟨g0, g1, _, _⟩ := hg0.two
  clear ht
  go_enter Tryz.func63, Tryz.ntmps63
  go_wp2
  generalize w.alloc (.cells #[.int .i64 n, v] 24) = w0 at *
  go_loopw [3] (fun i wr => ∃ k : Nat, k ≤ n ∧ i = .int .i64 k ∧ (∀ t, t < k → oneB n zs t = false) ∧ Below w0.heap.size w0 wr) (fun i _ => n - (intOf i).toNat)
  case atStart => exact ⟨0, Nat.zero_le _, rfl, fun b hb => by omega, Below.refl _ _⟩
  case round =>
    obtain ⟨a, hk, rfl, hno, hB⟩ := hrel
    have HN := hide hno
    have d0 := below_cell hB g0
    have d1 := below_cell hB g1
    clear hno
    by_cases hlt : a < n
    · go_wp2
      clear d0 d1
      go_loopw [4, 5] (fun okv i wr => ∃ (k : Nat) (ok : Bool), k ≤ n ∧ i = .int .i64 k ∧ okv = .bool ok ∧ (ok = true ↔ ∀ c, c < k → tm n zs a c = c ∧ tm n zs c a = c) ∧ Below w0.heap.size w0 wr) (fun _ i _ => n - (intOf i).toNat)
      case atStart => exact ⟨0, true, Nat.zero_le _, rfl, rfl, ⟨fun _ c hc => by omega, fun _ => rfl⟩, hB⟩
      case round =>
        obtain ⟨c, ok, hk2, rfl, rfl, hok, hB2⟩ := hrel
        have HOK := hide hok
        have d0 := below_cell hB2 g0
        have d1 := below_cell hB2 g1
        clear hok
        by_cases hlt2 : c < n
        · go_wp2_with fail
          refine (M_ok n v zs a c _ HT.out (hv0.below hB2) hlt hlt2).mono ?_
          rintro e w1 ⟨rfl, hb1⟩
          have hB3 := bcat2 hB2 hb1
          have e0 := below_cell hB3 g0
          have e1 := below_cell hB3 g1
          clear d0 d1
          by_cases h1 : tm n zs a c = c
          · have h1b : ((tm n zs a c : Int) != (c : Int)) = false := by simp [h1]
            have H1 := hide h1
            clear h1
            go_wp2_with fail
            refine (M_ok n v zs c a _ HT.out (hv0.below hB3) hlt2 hlt).mono ?_
            rintro e w2 ⟨rfl, hb2⟩
            have hB4 := bcat2 hB3 hb2
            clear e0 e1
            by_cases h2 : tm n zs c a = c
            · have h2b : ((tm n zs c a : Int) != (c : Int)) = false := by simp [h2]
              have H2 := hide h2
              clear h2
              go_wp2
              go_roundw
              case rel => exact ⟨c + 1, ok, by omega, by go_num, rfl, ⟨fun h d hd => by
                by_cases e : d = c
                · rw [e]; exact ⟨H1.out, H2.out⟩
                · exact HOK.out.1 h d (by omega), fun h => HOK.out.2 (fun d hd => h d (by omega))⟩, hB4⟩
              case measure => simp [intOf]; omega
            · have h2b : ((tm n zs c a : Int) != (c : Int)) = true := by simp; omega
              go_wp2
              go_roundw
              case rel => exact ⟨c + 1, false, by omega, by go_num, rfl, ⟨fun h => (by cases h), fun h => absurd (h c (by omega)).2 h2⟩, hB4⟩
              case measure => simp [intOf]; omega
          · have h1b : ((tm n zs a c : Int) != (c : Int)) = true := by simp; omega
            go_wp2
            go_roundw
            case rel => exact ⟨c + 1, false, by omega, by go_num, rfl, ⟨fun h => (by cases h), fun h => absurd (h c (by omega)).1 h1⟩, hB3⟩
            case measure => simp [intOf]; omega
        · have hcn : c = n := by omega
          subst hcn
          have hone : oneB c zs a = ok := by
            rw [Bool.eq_iff_iff, oneB_iff]; exact HOK.out.symm
          cases ok with
          | true =>
            go_wp2
            go_ret
            exact ⟨retI (least_at hlt hone HN.out).symm, bcat hB0 hB2 hB0.size⟩
          | false =>
            go_wp2
            go_roundw
            case rel => exact ⟨a + 1, by omega, by go_num, fun t ht => by
              by_cases e : t = a
              · rw [e]; exact hone
              · exact HN.out t (by omega), hB2⟩
            case measure => simp [intOf]; omega
    · have hbn : a = n := by omega
      subst hbn
      go_wp2
      go_ret
      exact ⟨retI (least_none HN.out).symm, bcat hB0 hB hB0.size⟩

/-- The document's inverse: the least thing that is one on both sides. -/
def invR (n : Nat) (zs : List Int) (a : Nat) : Int := least n (fun b => decide ((tm n zs a b : Int) = one n zs) && decide ((tm n zs b a : Int) = one n zs))

set_option maxRecDepth 100000 in
set_option maxHeartbeats 4000000 in
theorem I_ok (n a : Nat) (v : Value) (zs : List Int) (w : World) (ht : IsTab n zs) (hv : Sl w v zs) (ha : a < n) :
    Calls Tryz.prog 64 #[.agg #[.int .i64 n, v], .int .i64 a] w fun x w' => x = .returned (.int .i64 (invR n zs a)) ∧ Below w.heap.size w w' := by
  have hB0 : Below w.heap.size w (w.alloc (.cells #[.int .i64 n, v] 24)) := balloc w _
  have hg0 : BoxG (w.alloc (.cells #[.int .i64 n, v] 24)) w.heap.size n v := blk0 _ _
  have hv0 := hv.below hB0
  have hle := ht.le
  have HE := hide (E_ok n v zs _ ht hv0)
  have HT := hide ht
  unfold invR
  generalize one n zs = o at *
  obtain ⟨g0, g1, _, _⟩ := hg0.two
  clear ht
  go_enter Tryz.func64, Tryz.ntmps64
  go_wp2_with fail
  refine HE.out.mono ?_
  rintro x w1 ⟨rfl, hb1⟩
  generalize w.alloc (.cells #[.int .i64 n, v] 24) = w0 at *
  clear HE
  go_wp2
  go_loopw [6] (fun i wr => ∃ k : Nat, k ≤ n ∧ i = .int .i64 k ∧ (∀ t, t < k → (decide ((tm n zs a t : Int) = o) && decide ((tm n zs t a : Int) = o)) = false) ∧ Below w0.heap.size w0 wr) (fun i _ => n - (intOf i).toNat)
  case atStart => exact ⟨0, Nat.zero_le _, rfl, fun b hb => by omega, hb1⟩
  case round =>
    obtain ⟨c, hk, rfl, hno, hB⟩ := hrel
    have HN := hide hno
    have d0 := below_cell hB g0
    have d1 := below_cell hB g1
    clear hno
    by_cases hlt : c < n
    · go_wp2_with fail
      refine (M_ok n v zs a c _ HT.out (hv0.below hB) ha hlt).mono ?_
      rintro e w2 ⟨rfl, hb2⟩
      have hB3 := bcat2 hB hb2
      have e0 := below_cell hB3 g0
      have e1 := below_cell hB3 g1
      clear d0 d1
      by_cases h1 : (tm n zs a c : Int) = o
      · have h1b : ((tm n zs a c : Int) == o) = true := by simp [h1]
        have H1 := hide h1
        clear h1
        go_wp2_with fail
        refine (M_ok n v zs c a _ HT.out (hv0.below hB3) hlt ha).mono ?_
        rintro e w3 ⟨rfl, hb3⟩
        have hB4 := bcat2 hB3 hb3
        clear e0 e1
        by_cases h2 : (tm n zs c a : Int) = o
        · have h2b : ((tm n zs c a : Int) == o) = true := by simp [h2]
          have H2 := hide h2
          clear h2
          go_wp2
          go_ret
          exact ⟨retI (least_at hlt (by simp [H1.out, H2.out]) HN.out).symm, bcat hB0 hB4 hB0.size⟩
        · have h2b : ((tm n zs c a : Int) == o) = false := by simp [h2]
          go_wp2
          go_roundw
          case rel => exact ⟨c + 1, by omega, by go_num, fun t ht => by
            by_cases e : t = c
            · rw [e]; simp [h2]
            · exact HN.out t (by omega), hB4⟩
          case measure => simp [intOf]; omega
      · have h1b : ((tm n zs a c : Int) == o) = false := by simp [h1]
        go_wp2
        go_roundw
        case rel => exact ⟨c + 1, by omega, by go_num, fun t ht => by
          by_cases e : t = c
          · rw [e]; simp [h1]
          · exact HN.out t (by omega), hB3⟩
        case measure => simp [intOf]; omega
    · have hbn : c = n := by omega
      subst hbn
      go_wp2
      go_ret
      exact ⟨retI (least_none HN.out).symm, bcat hB0 hB hB0.size⟩
end Go.Proofs.YtlhjeenijcokoaaGreatDoor

namespace Go.Proofs.YtlhjeenijcokoaaGreatDoor
open Go Go.RowKit

theorem gf_range {n : Nat} {zs : List Int} (h1 : 1 ≤ n) (h2 : n ≤ 60) (h3 : zs.length = n * n) {i : Nat} (hi : i < zs.length) (hb : zs[i]?.getD 0 < 0 ∨ (n : Int) ≤ zs[i]?.getD 0) (hno : ∀ t, t < i → ¬ (zs[t]?.getD 0 < 0 ∨ (n : Int) ≤ zs[t]?.getD 0)) : gfault n zs = (3, (i : Int)) := by
  have he : efault n zs = (3, (i : Int)) := by
    unfold efault
    have hl : least zs.length (fun i => decide (zs[i]?.getD 0 < 0 ∨ (n : Int) ≤ zs[i]?.getD 0)) = (i : Int) := least_at hi (decide_eq_true hb) (fun t ht => decide_eq_false (hno t ht))
    rw [if_neg (by omega), if_neg (by rw [h3, Int.natCast_mul]; simp), hl, if_pos (by omega)]
  unfold gfault
  rw [he, if_pos (by simp)]
theorem gf_ef {N : Int} {zs : List Int} {c i : Int} (h : efault N zs = (c, i)) (hc : c ≠ 0) : gfault N zs = (c, i) := by
  unfold gfault
  rw [h, if_pos hc]
theorem gf_none {n : Nat} {zs : List Int} (ht : IsTab n zs) (ho : one n zs = -1) : gfault n zs = (6, 0) := by
  unfold gfault
  rw [efault_of_tab ht, if_neg (by simp), Int.toNat_natCast, if_pos ho]
theorem gf_false {n : Nat} {zs : List Int} (ht : IsTab n zs) (ho : one n zs ≠ -1) {a : Nat} (ha : a < n) (hb : assB n zs a = false) (hno : ∀ t, t < a → assB n zs t = true) : gfault n zs = (7, (a : Int)) := by
  have hl : least n (fun a => !assB n zs a) = (a : Int) := least_at ha (by simp [hb]) (fun t h => by simp [hno t h])
  unfold gfault
  rw [efault_of_tab ht, if_neg (by simp), Int.toNat_natCast, if_neg ho, hl, if_pos (by omega)]
theorem invR_eq {n : Nat} {zs : List Int} (ht : IsTab n zs) (ho : one n zs ≠ -1) (hass : ∀ t, t < n → assB n zs t = true) {a : Nat} (ha : a < n) : invR n zs a = invL n zs (one n zs) a := by
  rcases least_cases n (oneB n zs) with ⟨e, he, hp, _, ee⟩ | ⟨_, ee⟩
  · have hone : one n zs = (e : Int) := ee
    have h1 := oneB_iff.1 hp
    unfold invR invL
    rw [hone]
    refine least_congr fun b hb => ?_
    rw [Bool.eq_iff_iff, Bool.and_eq_true, decide_eq_true_eq, decide_eq_true_eq]
    constructor
    · exact fun h => h.1
    · intro h
      refine ⟨h, ?_⟩
      have h2 := inv_both ht he (fun a ha => (h1 a ha).1) (fun a ha => (h1 a ha).2) (fun a b c ha hb hc => assB_iff.1 (hass a ha) b c hb hc) ha hb (by omega)
      rw [h2]
  · exact absurd ee ho
theorem gf_kind {n : Nat} {zs : List Int} (ht : IsTab n zs) (ho : one n zs ≠ -1) (hass : ∀ t, t < n → assB n zs t = true) {a : Nat} (ha : a < n) (hb : invR n zs a = -1) (hno : ∀ t, t < a → invR n zs t ≠ -1) : gfault n zs = (4, (a : Int)) := by
  have hl : least n (fun a => !assB n zs a) = -1 := least_none (fun t h => by simp [hass t h])
  have hk : least n (fun a => decide (invL n zs (one n zs) a = -1)) = (a : Int) := least_at ha (by rw [decide_eq_true_eq, ← invR_eq ht ho hass ha]; exact hb) (fun t h => by rw [decide_eq_false_iff_not, ← invR_eq ht ho hass (by omega)]; exact hno t h)
  unfold gfault
  rw [efault_of_tab ht, if_neg (by simp), Int.toNat_natCast, if_neg ho, hl, if_neg (by simp), hk, if_pos (by omega)]
theorem gf_ok {n : Nat} {zs : List Int} (ht : IsTab n zs) (ho : one n zs ≠ -1) (hass : ∀ t, t < n → assB n zs t = true) (hno : ∀ t, t < n → invR n zs t ≠ -1) : gfault n zs = (0, 0) := by
  have hl : least n (fun a => !assB n zs a) = -1 := least_none (fun t h => by simp [hass t h])
  have hk : least n (fun a => decide (invL n zs (one n zs) a = -1)) = -1 := least_none (fun t h => by rw [decide_eq_false_iff_not, ← invR_eq ht ho hass (by omega)]; exact hno t h)
  unfold gfault
  rw [efault_of_tab ht, if_neg (by simp), Int.toNat_natCast, if_neg ho, hl, if_neg (by simp), hk, if_neg (by simp)]
theorem invR_neg {n : Nat} {zs : List Int} {a : Nat} : invR n zs a < 0 ↔ invR n zs a = -1 := by
  unfold invR
  rcases least_cases n (fun b => decide ((tm n zs a b : Int) = one n zs) && decide ((tm n zs b a : Int) = one n zs)) with ⟨k, _, _, _, e⟩ | ⟨_, e⟩
  · rw [e]; omega
  · rw [e]; omega
theorem one_neg {n : Nat} {zs : List Int} : one n zs < 0 ↔ one n zs = -1 := by
  unfold one
  rcases least_cases n (oneB n zs) with ⟨k, _, _, _, e⟩ | ⟨_, e⟩
  · rw [e]; omega
  · rw [e]; omega

set_option maxRecDepth 100000 in
set_option maxHeartbeats 8000000 in
theorem groupFault_any (N : Int) (v : Value) (zs : List Int) (w : World) (hv : Sl w v zs) :
    Calls Tryz.prog 33 #[.agg #[.int .i64 N, v]] w fun x w' => x = .returned (.agg #[.int .i64 (gfault N zs).1, .int .i64 (gfault N zs).2]) ∧ Below w.heap.size w w' := by
  obtain ⟨w0, hw0⟩ : ∃ w0, w0 = (w.alloc (.cells #[.int .i64 N, v] 24)).alloc (.cells #[.int .i64 0, .int .i64 0] 26) := ⟨_, rfl⟩
  have hB0 : Below w.heap.size w w0 := by rw [hw0]; exact (balloc w _).alloc (by simp) _
  have hg0 : BoxG w0 w.heap.size N v := by rw [hw0]; exact (blk0 _ _).alloc _
  have hR0 : Blk w0 (w.heap.size + 1) 26 [.int .i64 0, .int .i64 0] := by
    rw [hw0]
    have := Two.new (w.alloc (.cells #[.int .i64 N, v] 24))
    rw [World.size_alloc] at this; exact this.blk
  have hv0 := hv.below hB0
  have hs0 : w.heap.size + 1 < w0.heap.size := hR0.lt
  obtain ⟨x, cap, pb, po, rfl, hr, hp, hq3, hq4⟩ := id hv
  unfold maxLen at hq4
  obtain ⟨g0, g1, _, _⟩ := hg0.two
  have c0 := g0
  have c1 := g1
  rw [hw0] at c0 c1
  by_cases h1 : N < 1
  · have hf : gfault N zs = (2, 0) := gf_ef (by unfold efault; rw [if_pos (.inl h1)]) (by simp)
    rw [hf]
    clear hf
    go_enter Tryz.func33, Tryz.ntmps33
    go_wp2_with fail
    rw [← hw0]
    clear hw0 c0 c1
    refine (f_any 2 0 _).mono ?_
    rintro e w9 ⟨rfl, hb9⟩
    have hB9 := bcat2 (Below.refl _ w0) hb9
    have hR9 := blk_below hR0 hB9
    have hBw9 := bcat hB0 hB9 hB0.size
    obtain ⟨y0, y1, fy0, fy1⟩ := hR9.two
    obtain ⟨hR6, hB6⟩ := put2 hR9 hBw9 (by omega) 2 0
    go_wp2
    generalize (w9.setCell ⟨w.heap.size + 1, 0, none⟩ (.int .i64 2)).setCell ⟨w.heap.size + 1, 1, none⟩ (.int .i64 0) = W at hR6 hB6 ⊢
    obtain ⟨z0, z1, _, _⟩ := hR6.two
    exact bodyPost_ret (v := .agg #[.int .i64 2, .int .i64 0]) (by simp [results, Tryz.results33, go_sem, z0, z1]) rfl ⟨rfl, hB6⟩
  · by_cases h2 : 60 < N
    · have hf : gfault N zs = (2, 0) := gf_ef (by unfold efault; rw [if_pos (.inr h2)]) (by simp)
      rw [hf]
      clear hf
      go_enter Tryz.func33, Tryz.ntmps33
      go_wp2_with fail
      rw [← hw0]
      clear hw0 c0 c1
      refine (f_any 2 0 _).mono ?_
      rintro e w9 ⟨rfl, hb9⟩
      have hB9 := bcat2 (Below.refl _ w0) hb9
      have hR9 := blk_below hR0 hB9
      have hBw9 := bcat hB0 hB9 hB0.size
      obtain ⟨y0, y1, fy0, fy1⟩ := hR9.two
      obtain ⟨hR6, hB6⟩ := put2 hR9 hBw9 (by omega) 2 0
      go_wp2
      generalize (w9.setCell ⟨w.heap.size + 1, 0, none⟩ (.int .i64 2)).setCell ⟨w.heap.size + 1, 1, none⟩ (.int .i64 0) = W at hR6 hB6 ⊢
      obtain ⟨z0, z1, _, _⟩ := hR6.two
      exact bodyPost_ret (v := .agg #[.int .i64 2, .int .i64 0]) (by simp [results, Tryz.results33, go_sem, z0, z1]) rfl ⟨rfl, hB6⟩
    · obtain ⟨n, rfl⟩ : ∃ n : Nat, N = n := ⟨N.toNat, by omega⟩
      have hn1 : 1 ≤ n := by omega
      have hn2 : n ≤ 60 := by omega
      have hnn : n * n ≤ 60 * 60 := Nat.mul_le_mul hn2 hn2
      have hm : (n : Int) * (n : Int) = ((n * n : Nat) : Int) := by rw [Int.natCast_mul]
      by_cases h3 : zs.length = n * n
      · have H3 := hide h3
        have hbe : ((zs.length : Int) != ((n * n : Nat) : Int)) = false := by simp [h3]
        have hll : zs.length ≤ 3600 := by omega
        clear h3
        generalize n * n = q at hm hbe hnn
        go_enter Tryz.func33, Tryz.ntmps33
        go_wp2
        rw [← hw0]
        clear hw0 c0 c1
        go_loopw [3] (fun i wr => ∃ k : Nat, k ≤ zs.length ∧ i = .int .i64 k ∧ (∀ t, t < k → ¬ (zs[t]?.getD 0 < 0 ∨ (n : Int) ≤ zs[t]?.getD 0)) ∧ Below w0.heap.size w0 wr) (fun i _ => zs.length - (intOf i).toNat)
        case atStart => exact ⟨0, Nat.zero_le _, rfl, fun b hb => by omega, Below.refl _ _⟩
        case round =>
          obtain ⟨i, hk, rfl, hno, hB⟩ := hrel
          have HN := hide hno
          have d0 := below_cell hB g0
          have d1 := below_cell hB g1
          clear hno
          by_cases hlt : i < zs.length
          · obtain ⟨y, hy⟩ : ∃ y, zs[i]?.getD 0 = y := ⟨_, rfl⟩
            have hr0 := hr
            obtain rfl := hr.at_ (by omega)
            have hcy := hr0.cell i hlt
            rw [hy] at hcy
            have hcy0 := below_cell hB0 hcy
            have hcy1 := below_cell hB hcy0
            have HY := hide hy
            have hii : (i : Int) < (zs.length : Int) := by omega
            clear hy
            by_cases hy0 : y < 0
            · have hyd : decide (y < 0) = true := decide_eq_true hy0
              go_wp2_with fail
              go_quiet (fail)
              go_wp2_with fail
              refine (f_any 3 (i : Int) _).mono ?_
              rintro e w9 ⟨rfl, hb9⟩
              have hB9 := bcat2 (bdrewN hB _) hb9
              have hR9 := blk_below hR0 hB9
              have hBw9 := bcat hB0 hB9 hB0.size
              obtain ⟨y0, y1, fy0, fy1⟩ := hR9.two
              obtain ⟨hR6, hB6⟩ := put2 hR9 hBw9 (by omega) 3 (i : Int)
              go_wp2
              generalize (w9.setCell ⟨w.heap.size + 1, 0, none⟩ (.int .i64 3)).setCell ⟨w.heap.size + 1, 1, none⟩ (.int .i64 (i : Int)) = W at hR6 hB6 ⊢
              obtain ⟨z0, z1, _, _⟩ := hR6.two
              exact bodyPost_ret (v := .agg #[.int .i64 3, .int .i64 (i : Int)]) (by simp [results, Tryz.results33, go_sem, z0, z1]) rfl ⟨by rw [gf_range hn1 hn2 H3.out hlt (.inl (by rw [HY.out]; exact hy0)) HN.out], hB6⟩
            · have hyd : decide (y < 0) = false := decide_eq_false hy0
              by_cases hy1 : (n : Int) ≤ y
              · have hye : decide ((n : Int) ≤ y) = true := decide_eq_true hy1
                go_wp2_with fail
                go_quiet (fail)
                go_wp2_with fail
                refine (f_any 3 (i : Int) _).mono ?_
                rintro e w9 ⟨rfl, hb9⟩
                have hB9 := bcat2 (bdrewN hB _) hb9
                have hR9 := blk_below hR0 hB9
                have hBw9 := bcat hB0 hB9 hB0.size
                obtain ⟨y0, y1, fy0, fy1⟩ := hR9.two
                obtain ⟨hR6, hB6⟩ := put2 hR9 hBw9 (by omega) 3 (i : Int)
                go_wp2
                generalize (w9.setCell ⟨w.heap.size + 1, 0, none⟩ (.int .i64 3)).setCell ⟨w.heap.size + 1, 1, none⟩ (.int .i64 (i : Int)) = W at hR6 hB6 ⊢
                obtain ⟨z0, z1, _, _⟩ := hR6.two
                exact bodyPost_ret (v := .agg #[.int .i64 3, .int .i64 (i : Int)]) (by simp [results, Tryz.results33, go_sem, z0, z1]) rfl ⟨by rw [gf_range hn1 hn2 H3.out hlt (.inr (by rw [HY.out]; exact hy1)) HN.out], hB6⟩
              · have hye : decide ((n : Int) ≤ y) = false := decide_eq_false hy1
                go_wp2_with fail
                go_quiet (fail)
                go_wp2
                go_roundw
                case rel => exact ⟨i + 1, by omega, by go_num, fun t ht => by
                  by_cases e : t = i
                  · rw [e, HY.out]; omega
                  · exact HN.out t (by omega), bdrewN hB _⟩
                case measure => simp [intOf]; omega
          · have hik : i = zs.length := by omega
            subst hik
            have HT := hide (show IsTab n zs from ⟨hn1, hn2, H3.out, fun t ht => by have := HN.out t (by rw [H3.out]; exact ht); omega⟩)
            clear HN
            go_wp2_with fail
            refine (E_ok n _ zs _ HT.out (hv0.below hB)).mono ?_
            rintro e w1 ⟨rfl, hb1⟩
            have hB1 := bcat2 hB hb1
            have hone := one_neg (n := n) (zs := zs)
            clear d0 d1 hb1 hB
            obtain ⟨o, hoe⟩ : ∃ o, one n zs = o := ⟨_, rfl⟩
            rw [hoe] at hone ⊢
            have HOE := hide hoe
            have HONE := hide hone
            clear hoe hone
            by_cases ho : o < 0
            · go_wp2_with fail
              refine (f_any 6 0 _).mono ?_
              rintro e w9 ⟨rfl, hb9⟩
              have hB9 := bcat2 hB1 hb9
              have hR9 := blk_below hR0 hB9
              have hBw9 := bcat hB0 hB9 hB0.size
              obtain ⟨y0, y1, fy0, fy1⟩ := hR9.two
              obtain ⟨hR6, hB6⟩ := put2 hR9 hBw9 (by omega) 6 0
              go_wp2
              generalize (w9.setCell ⟨w.heap.size + 1, 0, none⟩ (.int .i64 6)).setCell ⟨w.heap.size + 1, 1, none⟩ (.int .i64 0) = W at hR6 hB6 ⊢
              obtain ⟨z0, z1, _, _⟩ := hR6.two
              exact bodyPost_ret (v := .agg #[.int .i64 6, .int .i64 0]) (by simp [results, Tryz.results33, go_sem, z0, z1]) rfl ⟨by rw [gf_none HT.out (by rw [HOE.out]; exact HONE.out.1 ho)], hB6⟩
            · have HO := hide (show one n zs ≠ -1 by rw [HOE.out]; exact fun h => ho (HONE.out.2 h))
              clear HOE HONE
              have d0 := below_cell hB1 g0
              have d1 := below_cell hB1 g1
              go_wp2
              clear d0 d1
              go_loopw [4] (fun i wr => ∃ k : Nat, k ≤ n ∧ i = .int .i64 k ∧ (∀ t, t < k → assB n zs t = true) ∧ Below w0.heap.size w0 wr) (fun i _ => n - (intOf i).toNat)
              case atStart => exact ⟨0, Nat.zero_le _, rfl, fun b hb => by omega, hB1⟩
              case round =>
                obtain ⟨a, hka, rfl, hno, hB2⟩ := hrel
                have HA := hide hno
                have d0 := below_cell hB2 g0
                have d1 := below_cell hB2 g1
                clear hno
                by_cases hlta : a < n
                · go_wp2
                  clear d0 d1
                  go_loopw [5] (fun i wr => ∃ k : Nat, k ≤ n ∧ i = .int .i64 k ∧ (∀ b c, b < k → c < n → tm n zs (tm n zs a b) c = tm n zs a (tm n zs b c)) ∧ Below w0.heap.size w0 wr) (fun i _ => n - (intOf i).toNat)
                  case atStart => exact ⟨0, Nat.zero_le _, rfl, fun b c hb => by omega, hB2⟩
                  case round =>
                    obtain ⟨b, hkb, rfl, hno, hB3⟩ := hrel
                    have HBB := hide hno
                    have d0 := below_cell hB3 g0
                    have d1 := below_cell hB3 g1
                    clear hno
                    by_cases hltb : b < n
                    · have hab := tm_lt HT.out hlta hltb
                      go_wp2
                      clear d0 d1
                      go_loopw [6] (fun i wr => ∃ k : Nat, k ≤ n ∧ i = .int .i64 k ∧ (∀ c, c < k → tm n zs (tm n zs a b) c = tm n zs a (tm n zs b c)) ∧ Below w0.heap.size w0 wr) (fun i _ => n - (intOf i).toNat)
                      case atStart => exact ⟨0, Nat.zero_le _, rfl, fun c hc => by omega, hB3⟩
                      case round =>
                        obtain ⟨c, hkc, rfl, hno, hB4⟩ := hrel
                        have HC := hide hno
                        have d0 := below_cell hB4 g0
                        have d1 := below_cell hB4 g1
                        clear hno
                        by_cases hltc : c < n
                        · have hbc := tm_lt HT.out hltb hltc
                          have hS : ∀ W, Below w0.heap.size w0 W → (Below w0.heap.size w0 W ∧ W.cell? ⟨w.heap.size, 0, none⟩ = some (.int .i64 n) ∧ W.cell? ⟨w.heap.size, 1, none⟩ = some (.slice x zs.length cap)) := fun W h => ⟨h, below_cell h g0, below_cell h g1⟩
                          have hS0 := hS _ (bdrew hB4)
                          go_wp2_with fail
                          clear d0 d1
                          go_region_held3 (fun W => Below w0.heap.size w0 W ∧ W.cell? ⟨w.heap.size, 0, none⟩ = some (.int .i64 n) ∧ W.cell? ⟨w.heap.size, 1, none⟩ = some (.slice x zs.length cap))
                            (first | exact hS0 | assumption | exact hS _ (bcat2 (And.left ‹_›) hl1))
                            (first | (go_at_call 45; refine (M_ok n _ zs _ _ _ HT.out (hv0.below (And.left ‹_›)) (by assumption) (by assumption)).mono ?_; rintro e W1 ⟨rfl, hl1⟩))
                          obtain ⟨hB5, _⟩ := ‹Below w0.heap.size w0 W1 ∧ _›
                          clear hS hS0 hl1
                          by_cases hxy : tm n zs (tm n zs a b) c = tm n zs a (tm n zs b c)
                          · have hbe : ((tm n zs (tm n zs a b) c : Int) != (tm n zs a (tm n zs b c) : Int)) = false := by simp [hxy]
                            have HXY := hide hxy
                            clear hxy
                            go_wp2
                            go_roundw
                            case rel => exact ⟨c + 1, by omega, by go_num, fun d hd => by
                              by_cases e : d = c
                              · rw [e]; exact HXY.out
                              · exact HC.out d (by omega), hB5⟩
                            case measure => simp [intOf]; omega
                          · have hbe : ((tm n zs (tm n zs a b) c : Int) != (tm n zs a (tm n zs b c) : Int)) = true := by simp; omega
                            have hass : assB n zs a = false := by
                              cases hq : assB n zs a with
                              | false => rfl
                              | true => exact absurd (assB_iff.1 hq b c hltb hltc) hxy
                            have HASS := hide hass
                            clear hass
                            go_wp2_with fail
                            refine (f_any 7 (a : Int) _).mono ?_
                            rintro e w9 ⟨rfl, hb9⟩
                            have hB9 := bcat2 hB5 hb9
                            have hR9 := blk_below hR0 hB9
                            have hBw9 := bcat hB0 hB9 hB0.size
                            obtain ⟨y0, y1, fy0, fy1⟩ := hR9.two
                            obtain ⟨hR6, hB6⟩ := put2 hR9 hBw9 (by omega) 7 (a : Int)
                            go_wp2
                            generalize (w9.setCell ⟨w.heap.size + 1, 0, none⟩ (.int .i64 7)).setCell ⟨w.heap.size + 1, 1, none⟩ (.int .i64 (a : Int)) = W at hR6 hB6 ⊢
                            obtain ⟨z0, z1, _, _⟩ := hR6.two
                            exact bodyPost_ret (v := .agg #[.int .i64 7, .int .i64 (a : Int)]) (by simp [results, Tryz.results33, go_sem, z0, z1]) rfl ⟨by rw [gf_false HT.out HO.out hlta HASS.out HA.out], hB6⟩
                        · have hcn : c = n := by omega
                          subst hcn
                          go_wp2
                          go_roundw
                          case rel => exact ⟨b + 1, by omega, by go_num, fun d e hd he => by
                            by_cases h : d = b
                            · rw [h]; exact HC.out e he
                            · exact HBB.out d e (by omega) he, hB4⟩
                          case measure => simp [intOf]; omega
                    · have hbn : b = n := by omega
                      subst hbn
                      go_wp2
                      go_roundw
                      case rel => exact ⟨a + 1, by omega, by go_num, fun t ht => by
                        by_cases e : t = a
                        · rw [e]; exact assB_iff.2 (fun d c hd hc => HBB.out d c hd hc)
                        · exact HA.out t (by omega), hB3⟩
                      case measure => simp [intOf]; omega
                · have han : a = n := by omega
                  subst han
                  go_wp2
                  clear d0 d1
                  go_loopw [7] (fun i wr => ∃ k : Nat, k ≤ a ∧ i = .int .i64 k ∧ (∀ t, t < k → invR a zs t ≠ -1) ∧ Below w0.heap.size w0 wr) (fun i _ => a - (intOf i).toNat)
                  case atStart => exact ⟨0, Nat.zero_le _, rfl, fun b hb => by omega, hB2⟩
                  case round =>
                    obtain ⟨b, hkb, rfl, hno, hB3⟩ := hrel
                    have HK := hide hno
                    have d0 := below_cell hB3 g0
                    have d1 := below_cell hB3 g1
                    clear hno
                    by_cases hltb : b < a
                    · go_wp2_with fail
                      refine (I_ok a b _ zs _ HT.out (hv0.below hB3) hltb).mono ?_
                      rintro e w2 ⟨rfl, hb2⟩
                      have hB4 := bcat2 hB3 hb2
                      have HIN := hide (invR_neg (n := a) (zs := zs) (a := b))
                      clear d0 d1
                      by_cases hin : invR a zs b < 0
                      · go_wp2_with fail
                        refine (f_any 4 (b : Int) _).mono ?_
                        rintro e w9 ⟨rfl, hb9⟩
                        have hB9 := bcat2 hB4 hb9
                        have hR9 := blk_below hR0 hB9
                        have hBw9 := bcat hB0 hB9 hB0.size
                        obtain ⟨y0, y1, fy0, fy1⟩ := hR9.two
                        obtain ⟨hR6, hB6⟩ := put2 hR9 hBw9 (by omega) 4 (b : Int)
                        go_wp2
                        generalize (w9.setCell ⟨w.heap.size + 1, 0, none⟩ (.int .i64 4)).setCell ⟨w.heap.size + 1, 1, none⟩ (.int .i64 (b : Int)) = W at hR6 hB6 ⊢
                        obtain ⟨z0, z1, _, _⟩ := hR6.two
                        exact bodyPost_ret (v := .agg #[.int .i64 4, .int .i64 (b : Int)]) (by simp [results, Tryz.results33, go_sem, z0, z1]) rfl ⟨by rw [gf_kind HT.out HO.out HA.out hltb (HIN.out.1 hin) HK.out], hB6⟩
                      · go_wp2
                        go_roundw
                        case rel => exact ⟨b + 1, by omega, by go_num, fun t ht => by
                          by_cases e : t = b
                          · rw [e]; exact fun h => by have := HIN.out.2 h; omega
                          · exact HK.out t (by omega), hB4⟩
                        case measure => simp [intOf]; omega
                    · have hbn : b = a := by omega
                      subst hbn
                      have hR3 := blk_below hR0 hB3
                      obtain ⟨_, y0, y1, fy0, fy1, s0, s1⟩ := Two.mk' hR3
                      go_wp2
                      exact bodyPost_ret (v := .agg #[.int .i64 0, .int .i64 0]) (by simp [results, Tryz.results33, go_sem, y0, y1]) rfl ⟨by rw [gf_ok HT.out HO.out HA.out HK.out], bcat hB0 hB3 hB0.size⟩
      · have hf : gfault n zs = (8, 0) := gf_ef (by
          unfold efault
          rw [if_neg (by omega), if_pos (by rw [hm]; omega)]) (by simp)
        have hbe : ((zs.length : Int) != ((n * n : Nat) : Int)) = true := by simp; omega
        rw [hf]
        clear hf
        generalize n * n = q at *
        clear h3
        go_enter Tryz.func33, Tryz.ntmps33
        go_wp2_with fail
        rw [← hw0]
        clear hw0 c0 c1
        refine (f_any 8 0 _).mono ?_
        rintro e w9 ⟨rfl, hb9⟩
        have hB9 := bcat2 (Below.refl _ w0) hb9
        have hR9 := blk_below hR0 hB9
        have hBw9 := bcat hB0 hB9 hB0.size
        obtain ⟨y0, y1, fy0, fy1⟩ := hR9.two
        obtain ⟨hR6, hB6⟩ := put2 hR9 hBw9 (by omega) 8 0
        go_wp2
        generalize (w9.setCell ⟨w.heap.size + 1, 0, none⟩ (.int .i64 8)).setCell ⟨w.heap.size + 1, 1, none⟩ (.int .i64 0) = W at hR6 hB6 ⊢
        obtain ⟨z0, z1, _, _⟩ := hR6.two
        exact bodyPost_ret (v := .agg #[.int .i64 8, .int .i64 0]) (by simp [results, Tryz.results33, go_sem, z0, z1]) rfl ⟨rfl, hB6⟩
end Go.Proofs.YtlhjeenijcokoaaGreatDoor

namespace Go.Proofs.YtlhjeenijcokoaaGreatDoor
open Go Go.RowKit

/-- The number that goes with a fault: none where there is one. -/
def okI (c x : Int) : Int := if c = 0 then x else 0
theorem okI_zero (x : Int) : okI 0 x = x := if_pos rfl
/-- What is wrong with a table, and then with a number as its thing. -/
def tfault (N : Int) (zs : List Int) (a : Int) : Int × Int := if (gfault N zs).1 ≠ 0 then gfault N zs else if 0 ≤ a ∧ a < N then (0, 0) else (3, 1)

/-- What lies where a function of a table begins: the table in a block of its own, and a fault behind it. -/
structure Beg (w w0 : World) (N : Int) (v : Value) : Prop where
  eq : w0 = (w.alloc (.cells #[.int .i64 N, v] 24)).alloc (.cells #[.int .i64 0, .int .i64 0] 26)
  bel : Below w.heap.size w w0
  box : BoxG w0 w.heap.size N v
  res : Blk w0 (w.heap.size + 1) 26 [.int .i64 0, .int .i64 0]
theorem Beg.new (w : World) (N : Int) (v : Value) : ∃ w0, Beg w w0 N v := by
  refine ⟨_, rfl, (balloc w _).alloc (by simp) _, (blk0 _ _).alloc _, ?_⟩
  have := Two.new (w.alloc (.cells #[.int .i64 N, v] 24))
  rw [World.size_alloc] at this; exact this.blk

set_option maxRecDepth 100000 in
set_option maxHeartbeats 4000000 in
theorem one_any (N : Int) (v : Value) (zs : List Int) (w : World) (hv : Sl w v zs) :
    Calls Tryz.prog 105 #[.agg #[.int .i64 N, v]] w fun x w' => x = .returned (.tuple #[.int .i64 (okI (gfault N zs).1 (one N.toNat zs)), .agg #[.int .i64 (gfault N zs).1, .int .i64 (gfault N zs).2]]) ∧ Below w.heap.size w w' := by
  obtain ⟨w0, BG⟩ := Beg.new w N v
  have hv0 := hv.below BG.bel
  obtain ⟨c0, c1, _, _⟩ := BG.box.two
  have hck := check_any N v zs w0 hv0
  obtain ⟨c, i, hci⟩ : ∃ c i, gfault N zs = (c, i) := ⟨_, _, rfl⟩
  rw [hci] at hck ⊢
  have HCK := hide hck
  have HCI := hide hci
  clear hck hci
  by_cases hc : c = 0
  · subst hc
    obtain ⟨n, e, rfl, hgr, hg0⟩ := gfault_grp (N := N) (zs := zs) (by rw [HCI.out])
    obtain rfl : i = 0 := by have := congrArg Prod.snd (HCI.out.symm.trans hg0); exact this
    simp only [okI_zero, Int.toNat_natCast]
    have HO := hide (fun W (h : Sl W v zs) => oneOf_ok n v zs W hgr.tab h)
    generalize one n zs = o at *
    clear hgr hg0 HCI
    rw [BG.eq] at c0 c1
    go_enter Tryz.func105, Tryz.ntmps105
    go_wp2_with fail
    rw [← BG.eq]
    refine HCK.out.mono ?_
    rintro x w1 ⟨rfl, hb1⟩
    clear c0 c1
    have hB1 := bcat2 hb1 (balloc w1 (.cells #[.int .i64 0, .int .i64 0] 26))
    obtain ⟨k0, k1, _, _⟩ := (blk_below BG.box hB1).two
    go_wp2_with fail
    refine (HO.out _ (hv0.below hB1)).mono ?_
    rintro x w2 ⟨rfl, hb2⟩
    have hB2 := bcat2 hB1 hb2
    have hBw := bcat BG.bel hB2 BG.bel.size
    obtain ⟨_, y0, y1, fy0, fy1, s0, s1⟩ := Two.mk' (blk_below BG.res hB2)
    clear k0 k1
    go_wp2
    exact bodyPost_ret (v := .tuple #[.int .i64 o, .agg #[.int .i64 0, .int .i64 0]]) (by simp [results, Tryz.results105, go_sem, y0, y1]) rfl ⟨rfl, hBw⟩
  · have hcb : (c != 0) = true := by simpa using hc
    clear HCI
    rw [BG.eq] at c0 c1
    go_enter Tryz.func105, Tryz.ntmps105
    go_wp2_with fail
    rw [← BG.eq]
    refine (HCK.out).mono ?_
    rintro x w1 ⟨rfl, hb1⟩
    clear c0 c1
    have hB1 := bcat2 hb1 (balloc w1 (.cells #[.int .i64 c, .int .i64 i] 26))
    have hR1 := blk_below BG.res hB1
    have hF1 : Blk (w1.alloc (.cells #[.int .i64 c, .int .i64 i] 26)) w1.heap.size 26 [.int .i64 c, .int .i64 i] := blk0 _ _
    have hBw := bcat BG.bel hB1 BG.bel.size
    have hs9 : w.heap.size + 1 < w1.heap.size := (blk_below BG.res hb1).lt
    obtain ⟨y0, y1, fy0, fy1⟩ := hR1.two
    obtain ⟨t0, t1, _, _⟩ := hF1.two
    go_wp2_with fail
    generalize w1.alloc (.cells #[.int .i64 c, .int .i64 i] 26) = w2 at *
    go_region
    go_wp2
    obtain ⟨hR6, hB6⟩ := put2 hR1 hBw (by omega) c i
    have hB7 := bdrew hB6
    have hR7 : Blk ((w2.setCell ⟨w.heap.size + 1, 0, none⟩ (.int .i64 c)).setCell ⟨w.heap.size + 1, 1, none⟩ (.int .i64 i)).drew (w.heap.size + 1) 26 [.int .i64 c, .int .i64 i] := hR6
    generalize ((w2.setCell ⟨w.heap.size + 1, 0, none⟩ (.int .i64 c)).setCell ⟨w.heap.size + 1, 1, none⟩ (.int .i64 i)).drew = W at hR7 hB7 ⊢
    obtain ⟨z0, z1, _, _⟩ := hR7.two
    exact bodyPost_ret (v := .tuple #[.int .i64 0, .agg #[.int .i64 c, .int .i64 i]]) (by simp [results, Tryz.results105, go_sem, z0, z1]) rfl ⟨by simp [okI, hc], hB7⟩

theorem tfault_grp {N a : Int} {zs : List Int} (h : (tfault N zs a).1 = 0) : ∃ n e b : Nat, N = n ∧ a = b ∧ IsGrp n zs e ∧ b < n ∧ tfault N zs a = (0, 0) := by
  unfold tfault at h ⊢
  by_cases h1 : (gfault N zs).1 ≠ 0
  · rw [if_pos h1] at h; exact absurd h h1
  · rw [if_neg h1] at h ⊢
    obtain ⟨n, e, rfl, hg, _⟩ := gfault_grp (Decidable.not_not.1 h1)
    by_cases h2 : 0 ≤ a ∧ a < n
    · rw [if_pos h2]
      exact ⟨n, e, a.toNat, rfl, by omega, hg, by omega, rfl⟩
    · rw [if_neg h2] at h; cases h

end Go.Proofs.YtlhjeenijcokoaaGreatDoor

namespace Go.Proofs.YtlhjeenijcokoaaGreatDoor
open Go Go.RowKit

/-- Do all things commute? -/
def comB (n : Nat) (zs : List Int) : Bool := (List.range n).all fun a => (List.range n).all fun b => tm n zs a b == tm n zs b a
theorem comB_iff {n : Nat} {zs : List Int} : comB n zs = true ↔ ∀ a b, a < n → b < n → tm n zs a b = tm n zs b a := by
  unfold comB
  simp only [List.all_eq_true, List.mem_range, beq_iff_eq]
  exact ⟨fun h a b ha hb => h a ha b hb, fun h a ha b hb => h a b ha hb⟩
theorem div_mod_lt {n i : Nat} (hi : i < n * n) : i / n < n ∧ i % n < n := by
  have hn : 0 < n := by
    rcases Nat.eq_zero_or_pos n with h | h
    · subst h; simp at hi
    · exact h
  exact ⟨Nat.div_lt_of_lt_mul hi, Nat.mod_lt _ hn⟩
theorem com_least {n : Nat} {zs : List Int} (_hn : 0 < n) : decide (least (n * n) (fun i => tm n zs (i / n) (i % n) != tm n zs (i % n) (i / n)) = -1) = comB n zs := by
  rw [Bool.eq_iff_iff, decide_eq_true_eq, least_neg, comB_iff]
  constructor
  · intro h a b ha hb
    have h1 := h (a * n + b) (place_lt ha hb)
    have e1 : (a * n + b) / n = a := by rw [Nat.mul_comm, Nat.mul_add_div (by omega), Nat.div_eq_of_lt hb, Nat.add_zero]
    have e2 : (a * n + b) % n = b := by rw [Nat.mul_comm, Nat.mul_add_mod, Nat.mod_eq_of_lt hb]
    rw [e1, e2] at h1
    simpa using h1
  · intro h i hi
    obtain ⟨h1, h2⟩ := div_mod_lt hi
    simpa using h _ _ h1 h2

/-- What goes with a fault, where a Boolean is answered. -/
def okB (c : Int) (x : Bool) : Bool := decide (c = 0) && x

end Go.Proofs.YtlhjeenijcokoaaGreatDoor

namespace Go.Proofs.YtlhjeenijcokoaaGreatDoor
open Go

/-- The number whose bit a is 1 just where a is below n and p says so. -/
def bs (p : Nat → Bool) : Nat → Nat
  | 0 => 0
  | k + 1 => 2 ^ k * (if p k then 1 else 0) + bs p k
theorem bs_lt (p : Nat → Bool) : ∀ n, bs p n < 2 ^ n
  | 0 => by simp [bs]
  | k + 1 => by
    have := bs_lt p k
    unfold bs
    rw [Nat.pow_succ]
    split <;> omega
theorem bs_bit (p : Nat → Bool) : ∀ n a, (bs p n).testBit a = (decide (a < n) && p a)
  | 0, a => by simp [bs]
  | k + 1, a => by
    unfold bs
    rw [Nat.testBit_two_pow_mul_add _ (bs_lt p k)]
    by_cases h : a < k
    · rw [if_pos h, bs_bit p k a]
      simp [h, Nat.lt_succ_of_lt h]
    · rw [if_neg h]
      by_cases e : a = k
      · subst e
        cases p a <;> simp
      · have : ∃ j, a - k = j + 1 := ⟨a - k - 1, by omega⟩
        obtain ⟨j, hj⟩ := this
        rw [hj, Nat.testBit_succ]
        have : ¬ a < k + 1 := by omega
        cases p k <;> simp [this]
theorem bs_64 {p : Nat → Bool} {n : Nat} (hn : n ≤ 60) : bs p n < 18446744073709551616 :=
  Nat.lt_of_lt_of_le (bs_lt p n) (Nat.le_trans (Nat.pow_le_pow_right (by omega) (Nat.le_trans hn (by omega : 60 ≤ 64))) (by decide))
theorem bs_ext {p q : Nat → Bool} {n : Nat} (h : ∀ a, a < n → p a = q a) : bs p n = bs q n := by
  apply Nat.eq_of_testBit_eq
  intro a
  rw [bs_bit, bs_bit]
  by_cases ha : a < n
  · simp [ha, h a ha]
  · simp [ha]
theorem bs_inj {p q : Nat → Bool} {n : Nat} (h : bs p n = bs q n) : ∀ a, a < n → p a = q a := fun a ha => by
  have := congrArg (fun x => Nat.testBit x a) h
  simp only [bs_bit, ha, decide_true, Bool.true_and] at this
  exact this
theorem bs_or (p q : Nat → Bool) (n : Nat) : bs p n ||| bs q n = bs (fun a => p a || q a) n := by
  apply Nat.eq_of_testBit_eq
  intro a
  rw [Nat.testBit_or, bs_bit, bs_bit, bs_bit]
  cases decide (a < n) <;> simp
theorem bs_and (p q : Nat → Bool) (n : Nat) : bs p n &&& bs q n = bs (fun a => p a && q a) n := by
  apply Nat.eq_of_testBit_eq
  intro a
  rw [Nat.testBit_and, bs_bit, bs_bit, bs_bit]
  cases decide (a < n) <;> simp
theorem bs_one {n a : Nat} (ha : a < n) : bs (fun b => decide (b = a)) n = 2 ^ a := by
  apply Nat.eq_of_testBit_eq
  intro b
  rw [bs_bit, Nat.testBit_two_pow]
  by_cases e : b = a
  · subst e; simp [ha]
  · simp [e, Ne.symm e]
theorem bs_none (n : Nat) : bs (fun _ => false) n = 0 := by
  apply Nat.eq_of_testBit_eq
  intro b
  rw [bs_bit]; simp
theorem bs_zero {p : Nat → Bool} {n : Nat} (h : bs p n = 0) : ∀ a, a < n → p a = false := by
  rw [← bs_none n] at h
  exact bs_inj h
/-- One bit asked. -/
theorem bs_has (p : Nat → Bool) {n a : Nat} (ha : a < n) : (bs p n / 2 ^ a) % 2 = if p a then 1 else 0 := by
  have := bs_bit p n a
  rw [Nat.testBit_eq_decide_div_mod_eq] at this
  simp only [ha, decide_true, Bool.true_and] at this
  cases hp : p a
  · rw [hp] at this
    simp only [decide_eq_false_iff_not] at this
    have : bs p n / 2 ^ a % 2 < 2 := Nat.mod_lt _ (by omega)
    simp; omega
  · rw [hp] at this
    simpa using this

/-- The lowest bit, and what is left without it. -/
theorem low_bit {p : Nat → Bool} {n : Nat} (hn : n ≤ 60) (h0 : bs p n ≠ 0) : ∃ k, k < n ∧ p k = true ∧ (∀ t, t < k → p t = false) ∧ Lib.ctz 64 (bs p n) = k ∧ bs p n &&& (bs p n - 1) = bs (fun a => p a && decide (k < a)) n := by
  obtain ⟨m, hm, hk⟩ := Lib.ctzFrom_spec 64 (bs p n) (by omega) (bs_64 hn)
  have hc : Lib.ctz 64 (bs p n) = Lib.ctzFrom 64 (bs p n) := by unfold Lib.ctz; rw [if_neg h0]
  generalize Lib.ctzFrom 64 (bs p n) = k at hm hk hc
  have hpos : 0 < 2 ^ k := Nat.two_pow_pos k
  have b1 : ∀ j, (bs p n).testBit j = if j < k then false else (2 * m + 1).testBit (j - k) := fun j => by
    have := Nat.testBit_two_pow_mul_add (2 * m + 1) hpos j
    rw [Nat.add_zero, ← hm] at this
    rw [this]; simp
  have b2 : ∀ j, (bs p n - 1).testBit j = if j < k then (2 ^ k - 1).testBit j else (2 * m).testBit (j - k) := fun j => by
    have := Nat.testBit_two_pow_mul_add (2 * m) (show 2 ^ k - 1 < 2 ^ k by omega) j
    rw [← this]
    congr 1
    rw [hm, Nat.mul_add, Nat.mul_one]; omega
  have hkb : (bs p n).testBit k = true := by rw [b1]; simp
  rw [bs_bit] at hkb
  simp only [Bool.and_eq_true, decide_eq_true_eq] at hkb
  refine ⟨k, hkb.1, hkb.2, fun t ht => ?_, hc, ?_⟩
  · have := b1 t
    rw [bs_bit, if_pos ht] at this
    have htn : t < n := by omega
    simpa [htn] using this
  · apply Nat.eq_of_testBit_eq
    intro j
    rw [Nat.testBit_and, b2, bs_bit (fun a => p a && decide (k < a))]
    by_cases h1 : j < k
    · have e1 := b1 j
      rw [if_pos h1] at e1
      have : ¬ k < j := by omega
      rw [e1]; simp [this]
    · rw [if_neg h1]
      by_cases h2 : j = k
      · subst h2; simp
      · have hj : k < j := by omega
        obtain ⟨i, hi⟩ : ∃ i, j - k = i + 1 := ⟨j - k - 1, by omega⟩
        have e1 := b1 j
        rw [if_neg h1, hi, Nat.testBit_succ, show (2 * m + 1) / 2 = m by omega] at e1
        rw [hi, Nat.testBit_succ, show (2 * m) / 2 = m by omega, e1]
        rw [bs_bit] at e1
        rw [← e1]
        simp only [hj, decide_true, Bool.and_true]
        cases p j <;> cases decide (j < n) <;> rfl
/-- All of them in order: up to the lowest that is left. -/
theorem range_low {p : Nat → Bool} {j k : Nat} (hjk : j ≤ k) (hp : p k = true) (hno : ∀ t, t < k → (p t && decide (j ≤ t)) = false) : (List.range (k + 1)).filter p = (List.range j).filter p ++ [k] := by
  rw [List.range_succ, List.filter_append]
  congr 1
  · obtain ⟨d, rfl⟩ : ∃ d, k = j + d := ⟨k - j, by omega⟩
    rw [List.range_add, List.filter_append]
    have : ((List.range d).map fun x => j + x).filter p = [] := by
      rw [List.filter_eq_nil_iff]
      intro a ha
      obtain ⟨x, hx, rfl⟩ := List.mem_map.1 ha
      have hx := List.mem_range.1 hx
      have := hno (j + x) (by omega)
      simpa using this
    rw [this, List.append_nil]
  · simp [hp]
theorem range_rest {p : Nat → Bool} {j n : Nat} (hjn : j ≤ n) (hno : ∀ t, t < n → (p t && decide (j ≤ t)) = false) : (List.range n).filter p = (List.range j).filter p := by
  obtain ⟨d, rfl⟩ : ∃ d, n = j + d := ⟨n - j, by omega⟩
  rw [List.range_add, List.filter_append]
  have : ((List.range d).map fun x => j + x).filter p = [] := by
    rw [List.filter_eq_nil_iff]
    intro a ha
    obtain ⟨x, hx, rfl⟩ := List.mem_map.1 ha
    have hx := List.mem_range.1 hx
    have := hno (j + x) (by omega)
    simpa using this
  rw [this, List.append_nil]
end Go.Proofs.YtlhjeenijcokoaaGreatDoor

namespace Go.Proofs.YtlhjeenijcokoaaGreatDoor
open Go Go.RowKit

/-- Numbers as ints. -/
def li (xs : List Nat) : List Int := xs.map fun (x : Nat) => (x : Int)
theorem li_len (xs : List Nat) : (li xs).length = xs.length := by simp [li]
theorem li_get {xs : List Nat} {k : Nat} (hk : k < xs.length) : (li xs)[k]?.getD 0 = (xs[k] : Int) := by simp [li, hk]
theorem or_one {p : Nat → Bool} {n x : Nat} (hn : n ≤ 60) (hx : x < n) : bits BinOp.or IntKind.u64 (bs p n : Int) (IntKind.u64.wrap (2 ^ x)) = (bs (fun a => p a || decide (a = x)) n : Int) := by
  have h1 : IntKind.u64.wrap ((2 : Int) ^ x) = ((2 ^ x : Nat) : Int) := by
    have : 2 ^ x < 18446744073709551616 := by rw [← bs_one hx]; exact bs_64 hn
    rw [IntKind.wrap_u64]
    have e : ((2 : Int) ^ x) = ((2 ^ x : Nat) : Int) := by simp
    rw [e]
    generalize 2 ^ x = y at this
    omega
  rw [h1, ← bs_one hx, bits_or_u64_nat _ _ (bs_64 hn) (bs_64 hn), bs_or]

set_option maxRecDepth 100000 in
set_option maxHeartbeats 1000000 in
theorem of_ok (n : Nat) (v : Value) (xs : List Nat) (w : World) (hn : n ≤ 60) (hm : xs.length ≤ 60) (hv : Sl w v (li xs)) (hx : ∀ x, x ∈ xs → x < n) :
    Calls Tryz.prog 55 #[v] w fun e w' => e = .returned (.int .u64 (bs (fun a => decide (a ∈ xs)) n)) ∧ w' = w := by
  obtain ⟨a, cap, pb, po, rfl, hr, hp, hq3, hq4⟩ := hv
  rw [li_len] at hq3
  have hc : ∀ k, (hk : k < xs.length) → w.cell? ⟨pb, po + k, none⟩ = some (.int .i64 (xs[k] : Int)) := fun k hk => by
    have := hr.cell k (by rw [li_len]; exact hk)
    rwa [li_get hk] at this
  have ha : 0 < xs.length → a = some ⟨pb, po, none⟩ := fun h => hr.at_ (by rw [li_len]; exact h)
  rw [li_len]
  have HC := hide hc
  have HX := hide hx
  have HA := hide ha
  clear hr hc hx ha
  go_enter Tryz.func55, Tryz.ntmps55
  go_wp2
  go_loopw [3, 8] (fun s i wr => ∃ k : Nat, k ≤ xs.length ∧ i = .int .i64 k ∧ s = .int .u64 (bs (fun a => decide (a ∈ xs.take k)) n) ∧ wr = w) (fun _ i _ => xs.length - (intOf i).toNat)
  case atStart => exact ⟨0, Nat.zero_le _, rfl, by simp [bs_none], rfl⟩
  case round =>
    obtain ⟨k, hk, rfl, rfl, rfl⟩ := hrel
    by_cases hlt : k < xs.length
    · obtain rfl := HA.out (by omega)
      have hck := HC.out k hlt
      have hxk : xs[k] < n := HX.out _ (List.getElem_mem hlt)
      have hor := or_one (p := fun a => decide (a ∈ xs.take k)) hn hxk
      have he : (fun a => decide (a ∈ xs.take k) || decide (a = xs[k])) = fun a => decide (a ∈ xs.take (k + 1)) := by
        funext a
        simp only [List.take_succ_eq_append_getElem hlt, List.mem_append, List.mem_singleton, Bool.decide_or]
      rw [he] at hor
      generalize xs[k] = x at *
      have hx0 : (0 : Int) ≤ (x : Int) := by omega
      have hx1 : (x : Int) ≤ 64 := by omega
      clear he
      go_wp2_with (simp only [hor])
      go_roundw
      case rel => exact ⟨k + 1, by omega, by go_num, rfl, trivial⟩
      case measure => simp [intOf]; omega
    · have : k = xs.length := by omega
      subst this
      rw [List.take_length]
      go_wp2
      go_ret
      exact ⟨rfl, rfl⟩

set_option maxRecDepth 100000 in
set_option maxHeartbeats 1000000 in
theorem has_ok (n a : Nat) (p : Nat → Bool) (w : World) (hn : n ≤ 60) (ha : a < n) :
    Calls Tryz.prog 99 #[.int .u64 (bs p n), .int .i64 a] w fun e w' => e = .returned (.bool (p a)) ∧ w' = w := by
  have h0 : (0 : Int) ≤ (a : Int) := by omega
  have h1 : (a : Int) ≤ 64 := by omega
  have h2 : bits BinOp.and IntKind.u64 ((bs p n : Int) / 2 ^ a) 1 = (if p a then 1 else 0 : Int) := by
    have e : ((bs p n : Int) / 2 ^ a) = ((bs p n / 2 ^ a : Nat) : Int) := by simp
    have hlt : bs p n / 2 ^ a < 18446744073709551616 := Nat.lt_of_le_of_lt (Nat.div_le_self _ _) (bs_64 hn)
    have := bits_and_u64_nat (bs p n / 2 ^ a) 1 hlt (by omega)
    rw [e]
    refine this.trans ?_
    rw [Nat.and_one_is_mod, bs_has p ha]
    cases p a <;> rfl
  cases hpa : p a with
  | true =>
    rw [hpa] at h2
    go_enter Tryz.func99, Tryz.ntmps99
    go_wp2_with (simp only [h2])
    go_ret
    exact ⟨rfl, rfl⟩
  | false =>
    rw [hpa] at h2
    go_enter Tryz.func99, Tryz.ntmps99
    go_wp2_with (simp only [h2])
    go_ret
    exact ⟨rfl, rfl⟩

theorem and127 (x : Int) : ∃ k : Nat, k ≤ 127 ∧ bits BinOp.and IntKind.i64 x 127 = (k : Int) := by
  refine ⟨(BitVec.ofInt 64 x &&& BitVec.ofInt 64 127).toNat, ?_, ?_⟩
  · rw [BitVec.toNat_and]; exact Nat.and_le_right
  · have h : (BitVec.ofInt 64 x &&& BitVec.ofInt 64 127).toNat ≤ 127 := by rw [BitVec.toNat_and]; exact Nat.and_le_right
    show IntKind.i64.wrap ((BitVec.ofInt 64 x &&& BitVec.ofInt 64 127).toNat : Int) = _
    rw [IntKind.wrap_i64]
    omega
set_option maxRecDepth 100000 in
set_option maxHeartbeats 1000000 in
theorem ones_raw (x : Int) (w : World) :
    Calls Tryz.prog 114 #[.int .u64 x] w fun e w' => (∃ y : Int, e = .returned (.int .i64 (bits BinOp.and IntKind.i64 y 127))) ∧ w' = w := by
  go_enter Tryz.func114, Tryz.ntmps114
  go_wp2
  go_ret
  exact ⟨⟨_, rfl⟩, rfl⟩
theorem ones_ok (x : Int) (w : World) :
    Calls Tryz.prog 114 #[.int .u64 x] w fun e w' => (∃ k : Nat, k ≤ 127 ∧ e = .returned (.int .i64 k)) ∧ w' = w := by
  refine (ones_raw x w).mono ?_
  rintro e w' ⟨⟨y, rfl⟩, rfl⟩
  obtain ⟨k, hk, he⟩ := and127 y
  exact ⟨⟨k, hk, by rw [he]⟩, rfl⟩
/-- How many things a set has: some number. -/
theorem len_ok (x : Int) (w : World) :
    Calls Tryz.prog 79 #[.int .u64 x] w fun e w' => (∃ k : Nat, k ≤ 127 ∧ e = .returned (.int .i64 k)) ∧ w' = w := by
  go_enter Tryz.func79, Tryz.ntmps79
  go_wp2_with fail
  refine (ones_ok _ w).mono ?_
  rintro e w1 ⟨⟨c, hc, rfl⟩, rfl⟩
  go_wp2
  go_ret
  exact ⟨⟨c, hc, rfl⟩, rfl⟩
end Go.Proofs.YtlhjeenijcokoaaGreatDoor

namespace Go.Proofs
open Go.Shelf
def Tryz.lays29_ren : Go.Shelf.Ren := ⟨fun | 29 => 90 | n => n, fun | 22 => 73 | 25 => 124 | 54 => 131 | n => n, fun | 1 => 0 | n => n⟩
theorem Tryz.lays29 : Go.Proofs.Lays7.n29 Tryz.prog Tryz.lays29_ren := {
  mixed := by kernel_rfl
  f29 := Tryz.func90.trans (congrArg some (by kernel_rfl))
  t0 := by kernel_rfl
  a0 := fun _ => by kernel_rfl
  z0 := fun _ => by kernel_rfl
  v0 := fun _ => by kernel_rfl
  i0 := by kernel_rfl
  t3 := by kernel_rfl
  a3 := fun _ => by kernel_rfl
  z3 := fun _ => by kernel_rfl
  v3 := fun _ => by kernel_rfl
  i3 := by kernel_rfl
  t4 := by kernel_rfl
  a4 := fun _ => by kernel_rfl
  z4 := fun _ => by kernel_rfl
  v4 := fun _ => by kernel_rfl
  i4 := by kernel_rfl
  t5 := by kernel_rfl
  a5 := fun _ => by kernel_rfl
  z5 := fun _ => by kernel_rfl
  v5 := fun _ => by kernel_rfl
  i5 := by kernel_rfl
  t22 := by kernel_rfl
  a22 := fun _ => by kernel_rfl
  z22 := fun _ => by kernel_rfl
  v22 := fun _ => by kernel_rfl
  i22 := by kernel_rfl
  t25 := by kernel_rfl
  a25 := fun _ => by kernel_rfl
  z25 := fun _ => by kernel_rfl
  v25 := fun _ => by kernel_rfl
  i25 := by kernel_rfl
  t54 := by kernel_rfl
  a54 := fun _ => by kernel_rfl
  z54 := fun _ => by kernel_rfl
  g1 := by kernel_rfl }
end Go.Proofs
namespace Go.Proofs.YtlhjeenijcokoaaGreatDoor
open Go Go.RowKit

/-- The library's table of places, as its text lays it. -/
def Tab (w : World) : Prop := TabAt 0 Lib.deBruijn64tab w
theorem Tab.below {w w' : World} (h : Tab w) (hb : Below w.heap.size w w') : Tab w' := fun j hj => below_cell hb (h j hj)
theorem Tab.lt {w : World} (h : Tab w) : 0 < w.heap.size := World.block_lt_of_cell? w ⟨0, 0, none⟩ (h 0 (by decide))
theorem Tab.of {w w' : World} (h : Tab w) (hb : w'.heap[0]? = w.heap[0]?) : Tab w' := fun j hj => (World.cell?_of_block (a := ⟨0, j, none⟩) hb).trans (h j hj)

theorem tz_ok (x : Nat) (w : World) (hx : x < 18446744073709551616) (hT : Tab w) :
    Calls Tryz.prog 90 #[.int .u64 x] w fun e w' => e = .returned (.int .i64 (Lib.ctz 64 x)) ∧ w' = w :=
  Any7.bits_TrailingZeros64 Tryz.lays29 x hx w (fun _ => hT)

/-- A slice of ints that reads as zs, and lies in a block from base on. -/
def SlF (base : Nat) (w : World) (v : Value) (zs : List Int) : Prop := ∃ a cap pb po, v = .slice a zs.length cap ∧ Reads w a pb po zs ∧ pb < w.heap.size ∧ zs.length ≤ cap ∧ cap ≤ maxLen ∧ base ≤ pb
theorem SlF.sl {base : Nat} {w : World} {v : Value} {zs : List Int} (h : SlF base w v zs) : Sl w v zs := by
  obtain ⟨a, cap, pb, po, h1, h2, h3, h4, h5, _⟩ := h
  exact ⟨a, cap, pb, po, h1, h2, h3, h4, h5⟩
theorem SlF.keep {base : Nat} {w w' : World} {v : Value} {zs : List Int} (h : SlF base w v zs) (hk : ∀ b, base ≤ b → b < w.heap.size → w'.heap[b]? = w.heap[b]?) (hs : w.heap.size ≤ w'.heap.size) : SlF base w' v zs := by
  obtain ⟨a, cap, pb, po, h1, h2, h3, h4, h5, h6⟩ := h
  exact ⟨a, cap, pb, po, h1, h2.of_eq (hk pb h6 h3), by omega, h4, h5, h6⟩
theorem SlF.below {base : Nat} {w w' : World} {v : Value} {zs : List Int} (h : SlF base w v zs) (hb : Below w.heap.size w w') : SlF base w' v zs := h.keep (fun b _ h2 => hb.block b h2) hb.size
theorem SlF.mono {base base' : Nat} {w : World} {v : Value} {zs : List Int} (h : SlF base w v zs) (hb : base' ≤ base) : SlF base' w v zs := by
  obtain ⟨a, cap, pb, po, h1, h2, h3, h4, h5, h6⟩ := h
  exact ⟨a, cap, pb, po, h1, h2, h3, h4, h5, by omega⟩
theorem SlF.of_own {w : World} {base : Nat} {g len cap : Nat} {zs : List Int} (hl : len = zs.length) (h : w.ownsRow base 3 1 (.slice (some ⟨g, 0, none⟩) len cap) len (zs.map (Value.int .i64))) : SlF base w (.slice (some ⟨g, 0, none⟩) len cap) zs := by
  subst hl
  rcases h.2 with ⟨hv, _⟩ | ⟨g', cap', cur, hv, hge, hh, h1, h2, _⟩
  · cases hv
  · cases hv
    refine ⟨some ⟨g, 0, none⟩, cap, g, 0, rfl, ⟨fun _ => rfl, fun j hj => ?_⟩, (Array.getElem?_eq_some_iff.1 hh).1, h1, h2, hge⟩
    have h3 := h.cells (g := g) rfl j (.int .i64 (zs[j]?.getD 0)) (by simp [hj])
    rw [show (⟨g, 0, none⟩ : Addr).add j = ⟨g, j, none⟩ by unfold Addr.add; split <;> simp_all] at h3
    rw [Nat.zero_add]; exact h3
/-- A slice of ints that a function has made, and lengthens. -/
def Row (w : World) (base : Nat) (v : Value) (zs : List Int) : Prop := w.ownsRow base 3 1 v zs.length (zs.map (Value.int .i64))

/-- What a set has, in order. -/
def lst (n : Nat) (p : Nat → Bool) : List Nat := (List.range n).filter p
theorem mem_lst {n : Nat} {p : Nat → Bool} {a : Nat} : a ∈ lst n p ↔ a < n ∧ p a = true := by simp [lst]
theorem lst_len (n : Nat) (p : Nat → Bool) : (lst n p).length ≤ n := Nat.le_trans (List.length_filter_le _ _) (by simp)

set_option maxRecDepth 100000 in
set_option maxHeartbeats 2000000 in
theorem list_ok (n : Nat) (p : Nat → Bool) (w : World) (hn : n ≤ 60) (hT : Tab w) :
    Calls Tryz.prog 54 #[.int .u64 (bs p n)] w fun e w' => ∃ r, e = .returned r ∧ SlF w.heap.size w' r (li (lst n p)) ∧ Below w.heap.size w w' := by
  obtain ⟨i0, hi, hz0, hz1, hz2⟩ := info_parts info3b
  have HT := hide hT
  clear hT
  go_enter Tryz.func54, Tryz.ntmps54
  go_wp2_with fail
  refine (len_ok _ w).mono ?_
  rintro e w1 ⟨⟨c, hc, rfl⟩, rfl⟩
  go_wp2_with (first
    | (at_make; refine wpList_make_own _ rfl _ _ 22 rfl w1.heap.size 3 i0 (.int .i64 0) 1 under22b hi hz0 hz1 _ _ _ c rfl rfl rfl (by rw [hz2]; omega) (by unfold maxLen; omega) (Nat.le_refl _) ?_))
  intro w2 hown hg
  have hB2 : Below w1.heap.size w1 w2 := (Below.refl _ w1).grown hg (Nat.le_refl _) (by simp)
  have hs2 : w1.heap.size < w2.heap.size := by
    rcases hown.2 with ⟨hv, _⟩ | ⟨g', cap', cur, hv, hge, hh, _⟩
    · cases hv
    · cases hv; exact (Array.getElem?_eq_some_iff.1 hh).1
  clear hg
  go_wp2
  go_loopw [3, 4] (fun v s wr => ∃ j : Nat, ∃ g len cap : Nat, j ≤ n ∧ s = .int .u64 (bs (fun a => p a && decide (j ≤ a)) n) ∧ v = .slice (some ⟨g, 0, none⟩) len cap ∧ len = (lst j p).length ∧ wr.ownsRow w1.heap.size 3 1 (.slice (some ⟨g, 0, none⟩) len cap) len ((li (lst j p)).map (Value.int .i64)) ∧ Below w1.heap.size w1 wr) (fun _ s _ => (intOf s).toNat)
  case atStart => exact ⟨0, w1.heap.size, 0, c, Nat.zero_le _, by simp, rfl, rfl, hown, hB2⟩
  case round =>
    obtain ⟨j, g, len, cap, hj, rfl, rfl, hlen, hown, hB⟩ := hrel
    have hBs := hB.size
    have hlj := lst_len j p
    by_cases h0 : bs (fun a => p a && decide (j ≤ a)) n = 0
    · have hz := bs_zero h0
      have HE : Hid (lst n p = lst j p) := range_rest hj hz
      have h0i : ((bs (fun a => p a && decide (j ≤ a)) n : Nat) : Int) = 0 := by omega
      have HO := hide (SlF.of_own (by rw [li_len]; exact hlen) hown)
      clear hown hlen
      rw [h0i]
      go_wp2
      go_ret
      exact ⟨_, rfl, by rw [HE.out]; exact HO.out, hB⟩
    · obtain ⟨k, hkn, hpk, hno, hctz, hand⟩ := low_bit hn h0
      simp only [Bool.and_eq_true, decide_eq_true_eq] at hpk
      have hrl : lst (k + 1) p = lst j p ++ [k] := range_low hpk.2 hpk.1 hno
      have hbe : bs (fun a => (p a && decide (j ≤ a)) && decide (k < a)) n = bs (fun a => p a && decide (k + 1 ≤ a)) n := bs_ext fun a _ => by
        by_cases hka : k < a
        · have h1 : j ≤ a := by omega
          have h2 : k + 1 ≤ a := by omega
          simp [hka, h1, h2]
        · have h2 : ¬ k + 1 ≤ a := by omega
          simp [hka, h2]
      rw [hbe] at hand
      have hTx := tz_ok (bs (fun a => p a && decide (j ≤ a)) n) wr (bs_64 hn) (HT.out.below hB)
      rw [hctz] at hTx
      have hlt1 : bs (fun a => p a && decide (j ≤ a)) n < 18446744073709551616 := bs_64 hn
      have hless : bs (fun a => p a && decide (k + 1 ≤ a)) n < bs (fun a => p a && decide (j ≤ a)) n := by
        rw [← hand]
        have := Nat.and_le_right (n := bs (fun a => p a && decide (j ≤ a)) n) (m := bs (fun a => p a && decide (j ≤ a)) n - 1)
        omega
      generalize hX : bs (fun a => p a && decide (j ≤ a)) n = X at *
      generalize hY : bs (fun a => p a && decide (k + 1 ≤ a)) n = Y at *
      have hsub : IntKind.u64.wrap ((X : Int) - 1) = ((X - 1 : Nat) : Int) := by rw [IntKind.wrap_u64]; omega
      have hb : bits BinOp.and IntKind.u64 (X : Int) ((X - 1 : Nat) : Int) = (Y : Int) := by
        rw [bits_and_u64_nat X (X - 1) hlt1 (by omega), hand]
      have hX0 : ¬ (X : Int) = 0 := by omega
      have HTX := hide hTx
      have HRL := hide hrl
      have HLEN := hide hlen
      have HY := hide hY
      clear hTx hrl hlen hno hctz hand hbe hX hY
      have hown2 := hown
      go_wp2_with fail
      refine HTX.out.mono ?_
      rintro e w3 ⟨rfl, rfl⟩
      go_wp2_with (first
        | (at_builtin; refine wpList_append_own _ rfl _ _ 22 rfl w1.heap.size 3 i0 (.int .i64 0) 1 8 under22b hi hz0 hz1 hz2 rfl (by decide) _ _ _ rfl (World.ownsRow.alloc hown2 _) ⟨w3.heap.size, 0, none⟩ 1 1 [.int .i64 k] rfl rfl ?c1 ?c2 ?c3 ?c4 ?c5 ?_))
      case c1 => exact cell_one_new _ _ _
      case c2 => simp [Value.oneCell']
      case c3 => unfold maxLen; have := HLEN.out; omega
      case c4 => have := HLEN.out; omega
      case c5 => simp; omega
      intro v' w4 hown' hgrow _
      obtain ⟨g', cap', rfl⟩ := ownsRow_succ hown'
      have hB4 : Below w1.heap.size w1 w4 := (hB.alloc hBs _).grown hgrow (by simp; omega) (fun j e => owns_ge hown2 j e)
      have hown5 : w4.ownsRow w1.heap.size 3 1 (.slice (some ⟨g', 0, none⟩) (len + 1) cap') (len + 1) ((li (lst (k + 1) p)).map (Value.int .i64)) := by
        rw [HRL.out]; simpa [li] using hown'
      have HL2 := hide (show len + 1 = (lst (k + 1) p).length by rw [HRL.out, HLEN.out, List.length_append]; rfl)
      clear hown' hgrow hown2 hown
      go_wp2_with (simp only [hb])
      go_roundw
      case rel => exact ⟨k + 1, g', len + 1, cap', hkn, (by rw [HY.out]), rfl, HL2.out, hown5, hB4⟩
      case measure => simp [intOf]; omega
end Go.Proofs.YtlhjeenijcokoaaGreatDoor

namespace Go.Proofs.YtlhjeenijcokoaaGreatDoor
open Go Go.RowKit

theorem list_ext {xs ys : List Int} (hl : xs.length = ys.length) (h : ∀ i, i < xs.length → xs[i]?.getD 0 = ys[i]?.getD 0) : xs = ys := by
  apply List.ext_getElem hl
  intro i h1 h2
  have := h i h1
  rw [List.getElem?_eq_getElem h1, List.getElem?_eq_getElem h2] at this
  simpa using this
theorem ext_getD {xs ys : List Int} (hl : xs.length = ys.length) (h : ∀ j, j < xs.length → xs[j]?.getD 0 = ys[j]?.getD 0) : xs = ys := by
  apply List.ext_getElem hl
  intro i h1 h2
  have := h i h1
  rw [List.getElem?_eq_getElem h1, List.getElem?_eq_getElem h2] at this
  simpa using this

set_option maxRecDepth 100000 in
set_option maxHeartbeats 2000000 in
theorem ints_any (u v : Value) (xs ys : List Int) (w : World) (hu : Sl w u xs) (hv : Sl w v ys) :
    Calls Tryz.prog 14 #[u, v] w fun e w' => e = .returned (.bool (decide (xs = ys))) ∧ Below w.heap.size w w' := by
  obtain ⟨a, cap, pb, po, rfl, hr, hp, hc1, hm1⟩ := hu
  obtain ⟨b, cap', qb, qo, rfl, hs, hq, hc2, hm2⟩ := hv
  unfold maxLen at hm1 hm2
  by_cases hl : xs.length = ys.length
  · go_enter Tryz.func14, Tryz.ntmps14
    have hbe : ((xs.length : Int) != (ys.length : Int)) = false := by simp [hl]
    have HL := hide hl
    have hle1 : xs.length ≤ ys.length := by omega
    have hle2 : ys.length ≤ xs.length := by omega
    clear hl
    go_wp2
    go_loopw [5] (fun i wr => ∃ k j : Nat, k ≤ xs.length ∧ i = .int .i64 k ∧ wr = w.drewN j ∧ ∀ t, t < k → xs[t]?.getD 0 = ys[t]?.getD 0) (fun i _ => xs.length - (intOf i).toNat)
    case atStart => exact ⟨0, 0, Nat.zero_le _, rfl, rfl, fun t ht => by omega⟩
    case round =>
      obtain ⟨k, j, hk, rfl, rfl, hsame⟩ := hrel
      have HS := hide hsame
      clear hsame
      by_cases hlt : k < xs.length
      · have hx := hr.cell k hlt
        have hy := hs.cell k (by omega)
        obtain rfl := hr.at_ (by omega)
        obtain rfl := hs.at_ (by omega)
        generalize hxe : xs[k]?.getD 0 = x at hx
        generalize hye : ys[k]?.getD 0 = y at hy
        have HX := hide hxe
        have HY := hide hye
        have hki : (k : Int) < (xs.length : Int) := by omega
        have hkj : (k : Int) < (ys.length : Int) := by omega
        clear hxe hye
        by_cases hxy : x = y
        · have hb : (x != y) = false := by simp [hxy]
          have HE := hide hxy
          clear hxy
          go_wp2
          go_quiet (fail)
          go_wp2
          go_roundw
          case rel => exact ⟨k + 1, _, by omega, by go_num, rfl, fun t ht => by
            by_cases e : t = k
            · rw [e, HX.out, HY.out]; exact HE.out
            · exact HS.out t (by omega)⟩
          case measure => simp [intOf]; omega
        · have hb : (x != y) = true := by simp [hxy]
          have hd : decide (xs = ys) = false := by
            rw [decide_eq_false_iff_not]
            intro e
            apply hxy
            rw [← HX.out, ← HY.out, e]
          have HD := hide hd
          clear hxy hd
          go_wp2
          go_quiet (fail)
          go_wp2
          go_ret
          exact ⟨by rw [HD.out]; rfl, bdrewN (bdrewN (Below.refl _ w) _) _⟩
      · have hd : decide (xs = ys) = true := by
          rw [decide_eq_true_eq]
          exact ext_getD HL.out (fun t ht => HS.out t (by omega))
        have HD := hide hd
        clear hd
        go_wp2
        go_ret
        exact ⟨by rw [HD.out]; rfl, bdrewN (Below.refl _ w) _⟩
  · have hbe : ((xs.length : Int) != (ys.length : Int)) = true := by simp; omega
    have hd : decide (xs = ys) = false := by
      rw [decide_eq_false_iff_not]
      intro e
      exact hl (by rw [e])
    have HD := hide hd
    clear hd hl
    go_enter Tryz.func14, Tryz.ntmps14
    go_wp2
    go_ret
    exact ⟨by rw [HD.out]; rfl, Below.refl _ w⟩


set_option maxRecDepth 100000 in
set_option maxHeartbeats 2000000 in
theorem own_any (u : Value) (zs : List Int) (w : World) (hu : Sl w u zs) (hb : zs.length * 8 ≤ 140737488355328) :
    Calls Tryz.prog 41 #[u] w fun e w' => ∃ r, e = .returned r ∧ w'.ownsRow w.heap.size 3 1 r zs.length (zs.map (Value.int .i64)) ∧ Below w.heap.size w w' := by
  obtain ⟨i0, hi, hz0, hz1, hz2⟩ := info_parts info3b
  obtain ⟨a, cap, pb, po, rfl, hr, hp, hq3, hq4⟩ := id hu
  rcases Nat.eq_zero_or_pos zs.length with hz | hpos
  · have hz : zs = [] := List.length_eq_zero_iff.1 hz
    subst hz
    cases a with
    | none =>
      go_enter Tryz.func41, Tryz.ntmps41
      go_wp2
      go_ret
      exact ⟨_, rfl, World.ownsRow_nil _ _ _ _, Below.refl _ _⟩
    | some x =>
      go_enter Tryz.func41, Tryz.ntmps41
      go_wp2
      go_ret
      exact ⟨_, rfl, World.ownsRow_nil _ _ _ _, Below.refl _ _⟩
  · obtain rfl := hr.at_ hpos
    go_enter Tryz.func41, Tryz.ntmps41
    go_wp2_with (first
      | (at_builtin; refine wpList_append_grows _ rfl _ _ 22 rfl 3 i0 (.int .i64 0) 1 8 under22b hi hz0 hz1 hz2 rfl (by decide) none 0 0 [] rfl (fun _ => ⟨rfl, rfl⟩) rfl (fun b hb => by cases hb) ⟨pb, po, none⟩ zs.length cap (zs.map (Value.int .i64)) rfl (by simp) ?c1 ?c2 ?c3 ?c4 ?c5 ?_))
    case c1 =>
      intro j v hj
      rw [List.getElem?_map] at hj
      obtain ⟨z, hz, rfl⟩ := Option.map_eq_some_iff.1 hj
      have hjl := (List.getElem?_eq_some_iff.1 hz).1
      have := hr.cell j hjl
      rw [hz] at this
      rw [show (⟨pb, po, none⟩ : Addr).add j = ⟨pb, po + j, none⟩ by unfold Addr.add; split <;> simp_all]
      exact this
    case c2 => intro v hv; obtain ⟨z, _, rfl⟩ := List.mem_map.1 hv; rfl
    case c3 => omega
    case c4 => unfold maxLen; omega
    case c5 => omega
    intro v' w' hown hg
    have hB : Below w.heap.size w w' := (Below.refl _ w).grown hg (Nat.le_refl _) (by simp)
    go_wp2
    go_ret
    exact ⟨_, rfl, hown, hB⟩


theorem own_slice {w : World} {base n : Nat} {v : Value} {xs : List Value} (h : w.ownsRow base 3 1 v n xs) : ∃ a cap, v = .slice a n cap := by
  rcases h.2 with ⟨rfl, rfl⟩ | ⟨g, cap, cur, rfl, _⟩
  · exact ⟨none, 0, rfl⟩
  · exact ⟨_, _, rfl⟩
theorem own_put {W W' : World} {base : Nat} {u : Value} {zs : List Int} (h : W.ownsRow base 3 1 u zs.length (zs.map (Value.int .i64))) (hk : ∀ b, base ≤ b → W'.heap[b]? = W.heap[b]?) (h0 : 0 < W'.heap.size) : Sl W' u zs := by
  refine Sl.of_own (base := base) ⟨h.1, ?_⟩ h0
  rcases h.2 with h2 | ⟨g, cap, cur, hv, hge, hh, rest⟩
  · exact .inl h2
  · exact .inr ⟨g, cap, cur, hv, hge, (hk g hge).trans hh, rest⟩
theorem undrew {a b : World} (h : Below a.drew.heap.size a.drew b) : Below a.heap.size a b := ⟨h.os, h.tape, h.output, h.size, h.block⟩

set_option maxRecDepth 100000 in
set_option maxHeartbeats 2000000 in
theorem ownGroup_any (N : Int) (v : Value) (zs : List Int) (w : World) (hv : Sl w v zs) (hb : zs.length * 8 ≤ 140737488355328) :
    Calls Tryz.prog 8 #[.agg #[.int .i64 N, v]] w fun e w' => ∃ u, e = .returned (.agg #[.int .i64 N, u]) ∧ Sl w' u zs ∧ Below w.heap.size w w' := by
  obtain ⟨w0, hw0⟩ : ∃ w0, w0 = (w.alloc (.cells #[.int .i64 N, v] 24)).alloc (.cells #[.int .i64 0, .slice none 0 0] 24) := ⟨_, rfl⟩
  have hB0 : Below w.heap.size w w0 := by rw [hw0]; exact (balloc w _).alloc (by simp) _
  have hg0 : BoxG w0 w.heap.size N v := by rw [hw0]; exact (blk0 _ _).alloc _
  have hR0 : Blk w0 (w.heap.size + 1) 24 [.int .i64 0, .slice none 0 0] := by
    rw [hw0]
    have : Blk ((w.alloc (.cells #[.int .i64 N, v] 24)).alloc (.cells #[.int .i64 0, .slice none 0 0] 24)) (w.alloc (.cells #[.int .i64 N, v] 24)).heap.size 24 [.int .i64 0, .slice none 0 0] := blk0 _ _
    rw [World.size_alloc] at this; exact this
  have hv0 := hv.below hB0
  obtain ⟨k0, k1, _, _⟩ := hg0.two
  obtain ⟨r0, r1, fr0, fr1⟩ := hR0.two
  obtain ⟨a, cap, pb, po, rfl, hr, hp, hq3, hq4⟩ := id hv
  have hS : ∀ W, Below w0.heap.size w0 W → (Below w.heap.size w W ∧ W.cell? ⟨w.heap.size, 0, none⟩ = some (.int .i64 N) ∧ W.cell? ⟨w.heap.size, 1, none⟩ = some (.slice a zs.length cap)) := fun W h => ⟨bcat hB0 h hB0.size, below_cell h k0, below_cell h k1⟩
  have hS3 : ∀ W u, Below w0.heap.size w0 W → (Below w.heap.size w ((W.setCell ⟨w.heap.size + 1, 0, none⟩ (.int .i64 N)).setCell ⟨w.heap.size + 1, 1, none⟩ u) ∧ ((W.setCell ⟨w.heap.size + 1, 0, none⟩ (.int .i64 N)).setCell ⟨w.heap.size + 1, 1, none⟩ u).cell? ⟨w.heap.size, 0, none⟩ = some (.int .i64 N) ∧ ((W.setCell ⟨w.heap.size + 1, 0, none⟩ (.int .i64 N)).setCell ⟨w.heap.size + 1, 1, none⟩ u).cell? ⟨w.heap.size, 1, none⟩ = some (.slice a zs.length cap)) := fun W u h => by
    have h1 : Below w.heap.size w W := bcat hB0 h hB0.size
    refine ⟨(h1.setCell (p := ⟨w.heap.size + 1, 0, none⟩) (by simp) _).setCell (p := ⟨w.heap.size + 1, 1, none⟩) (by simp) _, ?_, ?_⟩
    · rw [World.cell?_setCell_far _ _ _ _ (by simp), World.cell?_setCell_far _ _ _ _ (by simp)]; exact below_cell h k0
    · rw [World.cell?_setCell_far _ _ _ _ (by simp), World.cell?_setCell_far _ _ _ _ (by simp)]; exact below_cell h k1
  have hS0 := hS _ (bdrew (Below.refl _ w0))
  clear k0 k1 r0 r1 fr0 fr1
  go_enter Tryz.func8, Tryz.ntmps8
  go_wp2_with fail
  rw [← hw0]
  clear hw0
  go_region_held3 (fun W => Below w.heap.size w W ∧ W.cell? ⟨w.heap.size, 0, none⟩ = some (.int .i64 N) ∧ W.cell? ⟨w.heap.size, 1, none⟩ = some (.slice a zs.length cap))
    (first | exact hS0 | assumption | exact hS _ hl2 | exact hS3 _ _ hl2)
    (first | (go_at_call 41; refine (own_any _ zs _ (hv.below (And.left ‹_›)) hb).mono ?_; rintro e W1 ⟨u, rfl, hu1, hl1⟩; obtain ⟨a9, cap9, rfl⟩ := own_slice hu1; have hl2 := undrew hl1; obtain ⟨y0, y1, fy0, fy1⟩ := (blk_below hR0 hl2).two))
  have hR1 := blk_below hR0 hl2
  have hBw := bcat hB0 hl2 hB0.size
  have hs9 := hR0.lt
  have hu2 : Sl ((W1.setCell ⟨w.heap.size + 1, 0, none⟩ (.int .i64 N)).setCell ⟨w.heap.size + 1, 1, none⟩ (.slice a9 zs.length cap9)) (.slice a9 zs.length cap9) zs := own_put hu1 (fun b hb => by
    have hb : w0.heap.size ≤ b := hb
    rw [Below.heap_setCell _ _ _ _ (by simp; omega), Below.heap_setCell _ _ _ _ (by simp; omega)]) (by rw [size_set, size_set]; have := hR1.lt; omega)
  have hR6 : Blk ((W1.setCell ⟨w.heap.size + 1, 0, none⟩ (.int .i64 N)).setCell ⟨w.heap.size + 1, 1, none⟩ (.slice a9 zs.length cap9)) (w.heap.size + 1) 24 [.int .i64 N, .slice a9 zs.length cap9] := (hR1.set 0 _).set 1 _
  have hB6 := (hBw.setCell (p := ⟨w.heap.size + 1, 0, none⟩) (by simp) (.int .i64 N)).setCell (p := ⟨w.heap.size + 1, 1, none⟩) (by simp) (.slice a9 zs.length cap9)
  clear y0 y1 fy0 fy1 hS hS3 hS0
  go_wp2
  generalize (W1.setCell ⟨w.heap.size + 1, 0, none⟩ (.int .i64 N)).setCell ⟨w.heap.size + 1, 1, none⟩ (.slice a9 zs.length cap9) = W at hR6 hB6 hu2 ⊢
  obtain ⟨z0, z1, _, _⟩ := hR6.two
  exact bodyPost_ret (v := .agg #[.int .i64 N, .slice a9 zs.length cap9]) (by simp [results, Tryz.results8, go_sem, z0, z1]) rfl ⟨_, rfl, hu2, hB6⟩
end Go.Proofs.YtlhjeenijcokoaaGreatDoor

namespace Go.Proofs.YtlhjeenijcokoaaGreatDoor
open Go Go.RowKit

/-- The value of package sub's group: a table, its one, its inverses. -/
def gw (n : Nat) (v : Value) (e : Nat) (u : Value) : Value := .agg #[.int .i64 n, v, .int .i64 e, u]
/-- A group that lies in memory, with what is known of it. -/
structure GA (w : World) (n : Nat) (v : Value) (e : Nat) (u : Value) (zs : List Int) : Prop where
  grp : IsGrp n zs e
  mul : Sl w v zs
  inv : Sl w u (li ((List.range n).map (iv n zs e)))
theorem GA.below {w w' : World} {n e : Nat} {v u : Value} {zs : List Int} (h : GA w n v e u zs) (hb : Below w.heap.size w w') : GA w' n v e u zs := ⟨h.grp, h.mul.below hb, h.inv.below hb⟩
theorem GA.le {w : World} {n e : Nat} {v u : Value} {zs : List Int} (h : GA w n v e u zs) : n ≤ 60 := h.grp.tab.le
theorem blk4 {w : World} {T : TypeId} (a b c d : Value) : Blk (w.alloc (.cells #[a, b, c, d] T)) w.heap.size T [a, b, c, d] := World.alloc_heap_new w _
theorem or_bs (p q : Nat → Bool) {n : Nat} (hn : n ≤ 60) : bits BinOp.or IntKind.u64 (bs p n : Int) (bs q n : Int) = (bs (fun a => p a || q a) n : Int) := by
  rw [bits_or_u64_nat _ _ (bs_64 hn) (bs_64 hn), bs_or]
theorem and_bs (p q : Nat → Bool) {n : Nat} (hn : n ≤ 60) : bits BinOp.and IntKind.u64 (bs p n : Int) (bs q n : Int) = (bs (fun a => p a && q a) n : Int) := by
  rw [bits_and_u64_nat _ _ (bs_64 hn) (bs_64 hn), bs_and]

/-- A set of one thing. -/
theorem of_one (n b j : Nat) (w : World) (hn : n ≤ 60) (hj : j < n) (hc : w.cell? ⟨b, 0, none⟩ = some (.int .i64 j)) :
    Calls Tryz.prog 55 #[.slice (some ⟨b, 0, none⟩) 1 1] w fun e w' => e = .returned (.int .u64 (bs (fun a => decide (a = j)) n)) ∧ w' = w := by
  have := of_ok n (.slice (some ⟨b, 0, none⟩) 1 1) [j] w hn (by simp) ⟨some ⟨b, 0, none⟩, 1, b, 0, rfl, ⟨fun _ => rfl, fun k hk => by
    have : k = 0 := by simp [li] at hk; omega
    subst this
    exact hc⟩, World.block_lt_of_cell? w _ hc, by simp [li], by unfold maxLen; omega⟩ (fun x hx => by simp at hx; omega)
  simpa using this

set_option maxRecDepth 100000 in
set_option maxHeartbeats 1000000 in
theorem prd_ok (n : Nat) (v u : Value) (zs : List Int) (e a b : Nat) (w : World) (ht : IsTab n zs) (hv : Sl w v zs) (ha : a < n) (hb : b < n) :
    Calls Tryz.prog 100 #[.agg #[.int .i64 n, v, .int .i64 e, u], .int .i64 a, .int .i64 b] w fun x w' => x = .returned (.int .i64 (tm n zs a b)) ∧ Below w.heap.size w w' := by
  have hlt := place_lt ha hb
  have hle := ht.le
  have hlen := ht.len
  have hn2 : n * n ≤ 60 * 60 := Nat.mul_le_mul hle hle
  have hg := tm_get ht ha hb
  have han : a * n ≤ 60 * 60 := Nat.mul_le_mul (by omega) (by omega)
  have hB0 : Below w.heap.size w (w.alloc (.cells #[.int .i64 n, v, .int .i64 e, u] 57)) := balloc w _
  have N0 : Blk (w.alloc (.cells #[.int .i64 n, v, .int .i64 e, u] 57)) w.heap.size 57 [.int .i64 n, v, .int .i64 e, u] := blk4 _ _ _ _
  obtain ⟨x, cap, pb, po, rfl, hr, hp, hq3, hq4⟩ := hv.below hB0
  obtain rfl := hr.at_ (by omega)
  have hc := hr.cell (a * n + b) (by omega)
  rw [hg] at hc
  have c0 := N0.cell 0
  have c1 := N0.cell 1
  simp at c0 c1
  have hi : ((a * n + b : Nat) : Int) < (zs.length : Int) := by omega
  have hm : ((a : Int) * (n : Int)) = ((a * n : Nat) : Int) := by rw [Int.natCast_mul]
  have HLEN := hide hlen
  have HB0 := hide hB0
  generalize hk : a * n = k at *
  generalize tm n zs a b = r at *
  clear hlen hB0 hg hn2 hk
  go_enter Tryz.func100, Tryz.ntmps100
  go_wp2
  go_ret
  exact ⟨rfl, HB0.out⟩

/-- A group's box. -/
structure Box4 (W : World) (b n e : Nat) (v u : Value) : Prop where
  blk : Blk W b 57 [.int .i64 n, v, .int .i64 e, u]
theorem Box4.cells {W : World} {b n e : Nat} {v u : Value} (h : Box4 W b n e v u) : W.cell? ⟨b, 0, none⟩ = some (.int .i64 n) ∧ W.cell? ⟨b, 1, none⟩ = some v ∧ W.cell? ⟨b, 2, none⟩ = some (.int .i64 e) ∧ W.cell? ⟨b, 3, none⟩ = some u :=
  ⟨h.blk.cell 0, h.blk.cell 1, h.blk.cell 2, h.blk.cell 3⟩
theorem Box4.below {W W' : World} {b n e : Nat} {v u : Value} (h : Box4 W b n e v u) (hb : Below W.heap.size W W') : Box4 W' b n e v u := ⟨blk_below h.blk hb⟩
theorem Box4.new (w : World) (n e : Nat) (v u : Value) : Box4 (w.alloc (.cells #[.int .i64 n, v, .int .i64 e, u] 57)) w.heap.size n e v u := ⟨blk4 _ _ _ _⟩

theorem ivs_at {n e : Nat} {zs : List Int} {a : Nat} (ha : a < n) : (li ((List.range n).map (iv n zs e)))[a]?.getD 0 = (iv n zs e a : Int) := by
  simp [li, ha]
theorem ivs_len {n e : Nat} {zs : List Int} : (li ((List.range n).map (iv n zs e))).length = n := by simp [li]

set_option maxRecDepth 100000 in
set_option maxHeartbeats 2000000 in
theorem conj_ok (n : Nat) (v u : Value) (zs : List Int) (e x a : Nat) (w : World) (hG : GA w n v e u zs) (hx : x < n) (ha : a < n) :
    Calls Tryz.prog 82 #[.agg #[.int .i64 n, v, .int .i64 e, u], .int .i64 x, .int .i64 a] w fun y w' => y = .returned (.int .i64 (Fin.cj (tm n zs) (iv n zs e) x a)) ∧ Below w.heap.size w w' := by
  obtain ⟨hi, hi1, hi2, _⟩ := iv_spec hG.grp ha
  have heq : Fin.cj (tm n zs) (iv n zs e) x a = tm n zs (tm n zs (iv n zs e a) x) a := by
    unfold Fin.cj
    rw [hG.grp.ass _ _ _ hi hx ha]
  rw [heq]
  have hB0 : Below w.heap.size w (w.alloc (.cells #[.int .i64 n, v, .int .i64 e, u] 57)) := balloc w _
  have N0 := Box4.new w n e v u
  have hG0 := hG.below hB0
  obtain ⟨w0, hw0⟩ : ∃ w0, w0 = w.alloc (.cells #[.int .i64 n, v, .int .i64 e, u] 57) := ⟨_, rfl⟩
  rw [← hw0] at hB0 N0 hG0
  have ht := tm_lt hG.grp.tab hi hx
  have HP1 := hide (fun W (h : Below w0.heap.size w0 W) => prd_ok n v u zs e (iv n zs e a) x W hG.grp.tab (hG0.mul.below h) hi hx)
  have HP2 := hide (fun W (h : Below w0.heap.size w0 W) => prd_ok n v u zs e (tm n zs (iv n zs e a) x) a W hG.grp.tab (hG0.mul.below h) ht ha)
  obtain ⟨y, cap, pb, po, rfl, hr, hp, hq3, hq4⟩ := hG0.inv
  rw [ivs_len] at hq3
  have hiv := hr.cell a (by rw [ivs_len]; exact ha)
  rw [ivs_at ha] at hiv
  obtain rfl := hr.at_ (by rw [ivs_len]; omega)
  rw [ivs_len] at *
  clear hr hG hG0 hi1 hi2 heq
  generalize tm n zs (tm n zs (iv n zs e a) x) a = r at *
  generalize tm n zs (iv n zs e a) x = t at *
  generalize iv n zs e a = i at *
  have hai : (a : Int) < (n : Int) := by omega
  have hS : ∀ W, Below w0.heap.size w0 W → (Below w0.heap.size w0 W ∧ W.cell? ⟨w.heap.size, 0, none⟩ = some (.int .i64 n) ∧ W.cell? ⟨w.heap.size, 1, none⟩ = some v ∧ W.cell? ⟨w.heap.size, 2, none⟩ = some (.int .i64 e) ∧ W.cell? ⟨w.heap.size, 3, none⟩ = some (.slice (some ⟨pb, po, none⟩) n cap) ∧ W.cell? ⟨pb, po + a, none⟩ = some (.int .i64 i)) := fun W h => by
    obtain ⟨c0, c1, c2, c3⟩ := (N0.below h).cells
    exact ⟨h, c0, c1, c2, c3, below_cell h hiv⟩
  have hS0 := hS _ (bdrew (Below.refl _ w0))
  clear hiv N0
  go_enter Tryz.func82, Tryz.ntmps82
  go_wp2_with fail
  rw [← hw0]
  clear hw0
  go_region_held3 (fun W => Below w0.heap.size w0 W ∧ W.cell? ⟨w.heap.size, 0, none⟩ = some (.int .i64 n) ∧ W.cell? ⟨w.heap.size, 1, none⟩ = some v ∧ W.cell? ⟨w.heap.size, 2, none⟩ = some (.int .i64 e) ∧ W.cell? ⟨w.heap.size, 3, none⟩ = some (.slice (some ⟨pb, po, none⟩) n cap) ∧ W.cell? ⟨pb, po + a, none⟩ = some (.int .i64 i))
    (first | exact hS0 | assumption | exact hS _ (bcat2 (And.left ‹_›) hl1))
    (first
      | (go_at_call_of 100 (Value.int IntKind.i64 (i : Int)); refine (HP1.out _ (And.left ‹_›)).mono ?_; rintro e1 W1 ⟨rfl, hl1⟩)
      | (go_at_call_of 100 (Value.int IntKind.i64 (t : Int)); refine (HP2.out _ (And.left ‹_›)).mono ?_; rintro e2 W2 ⟨rfl, hl1⟩))
  all_goals (
    have hB9 := And.left ‹Below w0.heap.size w0 W2 ∧ _›
    go_wp2
    go_ret
    exact ⟨rfl, bcat hB0 hB9 hB0.size⟩)

set_option maxRecDepth 100000 in
set_option maxHeartbeats 1000000 in
theorem those_ok (n k : Nat) (v u : Value) (e : Nat) (caps : Array Value) (p : Nat → Bool) (w : World) (hn : n ≤ 60)
    (hcall : ∀ a W, Sem.run Tryz.prog (callFunc k (#[.int .i64 a] ++ caps)) W = .ok (.enter k (#[.int .i64 a] ++ caps)) W)
    (hp : ∀ (W : World) (a : Nat), Below w.heap.size w W → a < n → Calls Tryz.prog k (#[.int .i64 a] ++ caps) W fun e w' => e = .returned (.bool (p a)) ∧ Below W.heap.size W w') :
    Calls Tryz.prog 88 #[.agg #[.int .i64 n, v, .int .i64 e, u], .func (.func k) #[] caps] w fun x w' => x = .returned (.int .u64 (bs p n)) ∧ Below w.heap.size w w' := by
  have HP := hide hp
  clear hp
  have hB0 : Below w.heap.size w (w.alloc (.cells #[.int .i64 n, v, .int .i64 e, u] 57)) := balloc w _
  have N0 := Box4.new w n e v u
  obtain ⟨c0, c1, c2, c3⟩ := N0.cells
  go_enter Tryz.func88, Tryz.ntmps88
  go_wp2
  go_loopw [5, 10] (fun s i wr => ∃ j : Nat, j ≤ n ∧ i = .int .i64 j ∧ s = .int .u64 (bs (fun a => p a && decide (a < j)) n) ∧ Below w.heap.size w wr) (fun _ i _ => n - (intOf i).toNat)
  case atStart => exact ⟨0, Nat.zero_le _, rfl, by simp [bs_none], hB0⟩
  case round =>
    obtain ⟨j, hj, rfl, rfl, hB⟩ := hrel
    clear c0 c1 c2 c3
    by_cases hlt : j < n
    · go_wp2_with fail
      refine (HP.out wr j hB hlt).mono ?_
      rintro e1 w1 ⟨rfl, hb1⟩
      have hB1 := bcat hB hb1 hB.size
      cases hpj : p j with
      | true =>
        have HE := hide (show bs (fun a => (p a && decide (a < j)) || decide (a = j)) n = bs (fun a => p a && decide (a < j + 1)) n from bs_ext fun a _ => by
          by_cases h1 : a = j
          · subst h1; simp [hpj]
          · have : a < j + 1 ↔ a < j := by omega
            simp [h1, this])
        have hor := or_bs (fun a => p a && decide (a < j)) (fun a => decide (a = j)) hn
        rw [HE.out] at hor
        have hB2 := hB1.alloc hB1.size (.cells #[.int .i64 j] 3)
        go_wp2_with fail
        refine (of_one n w1.heap.size j _ hn hlt (cell_one_new _ _ _ 0 _ rfl)).mono ?_
        rintro e2 w2 ⟨rfl, rfl⟩
        go_wp2
        go_roundw
        case rel => exact ⟨j + 1, by omega, by go_num, rfl, hB2⟩
        case measure => simp [intOf]; omega
      | false =>
        have HE := hide (show bs (fun a => p a && decide (a < j)) n = bs (fun a => p a && decide (a < j + 1)) n from bs_ext fun a _ => by
          by_cases h1 : a = j
          · subst h1; simp [hpj]
          · have : a < j + 1 ↔ a < j := by omega
            simp [this])
        go_wp2
        go_roundw
        case rel => exact ⟨j + 1, by omega, by go_num, by rw [HE.out], hB1⟩
        case measure => simp [intOf]; omega
    · have hjn : j = n := by omega
      subst hjn
      have HE := hide (show bs (fun a => p a && decide (a < j)) j = bs p j from bs_ext fun a ha => by simp [ha])
      go_wp2
      go_ret
      exact ⟨by rw [← HE.out]; rfl, hB⟩
end Go.Proofs.YtlhjeenijcokoaaGreatDoor

namespace Go.Proofs.YtlhjeenijcokoaaGreatDoor
open Go Go.RowKit

theorem cell1 (w : World) (v : Value) (t : TypeId) : (w.alloc (.cells #[v] t)).cell? ⟨w.heap.size, 0, none⟩ = some v := Boxed.cell (Boxed.new w t v)
theorem cell1d (w : World) (v : Value) (t : TypeId) : (w.alloc (.cells #[v] t)).drew.cell? ⟨w.heap.size, 0, none⟩ = some v := cell1 w v t
/-- What is found so far: a set in a box of its own, a list in another one, whose memory lies from B on. -/
structure Fnd (W : World) (B sb fb n : Nat) (F : List Nat) : Prop where
  sub : Boxed W sb 74 (.int .u64 (bs (fun a => decide (a ∈ F)) n))
  fnd : ∃ fv, Boxed W fb 22 fv ∧ W.ownsRow B 3 1 fv F.length ((li F).map (Value.int .i64))
  ne : sb ≠ fb
  slt : sb < B
  flt : fb < B
/-- Nothing below B has turned but two boxes. -/
structure Chg (B sb fb : Nat) (w w' : World) : Prop where
  os : w'.os = w.os
  tape : w'.tape = w.tape
  output : w'.output = w.output
  size : w.heap.size ≤ w'.heap.size
  block : ∀ k, k < B → k ≠ sb → k ≠ fb → w'.heap[k]? = w.heap[k]?
theorem Chg.refl (B sb fb : Nat) (w : World) : Chg B sb fb w w := ⟨rfl, rfl, rfl, Nat.le_refl _, fun _ _ _ _ => rfl⟩
theorem Chg.trans {B sb fb : Nat} {a b c : World} (h : Chg B sb fb a b) (k : Chg B sb fb b c) : Chg B sb fb a c :=
  ⟨k.os.trans h.os, k.tape.trans h.tape, k.output.trans h.output, Nat.le_trans h.size k.size, fun i h1 h2 h3 => (k.block i h1 h2 h3).trans (h.block i h1 h2 h3)⟩
theorem Chg.of_below {B sb fb : Nat} {a b : World} (h : Below a.heap.size a b) (hB : B ≤ a.heap.size) : Chg B sb fb a b := ⟨h.os, h.tape, h.output, h.size, fun i h1 _ _ => h.block i (by omega)⟩
theorem Chg.below {B sb fb g : Nat} {a b : World} (h : Chg B sb fb a b) (hg : g ≤ sb) (hf : g ≤ fb) (hB : g ≤ B) : Below g a b := ⟨h.os, h.tape, h.output, h.size, fun i hi => h.block i (by omega) (by omega) (by omega)⟩
theorem Fnd.below {W W' : World} {B sb fb n : Nat} {F : List Nat} (h : Fnd W B sb fb n F) (hb : Below W.heap.size W W') : Fnd W' B sb fb n F := by
  obtain ⟨h1, ⟨fv, h2, h3⟩, h4, h5, h6⟩ := h
  refine ⟨Boxed.below h1 hb, ⟨fv, Boxed.below h2 hb, ?_⟩, h4, h5, h6⟩
  refine ⟨h3.1, ?_⟩
  rcases h3.2 with h0 | ⟨g, cap, cur, hv, hg, hh, rest⟩
  · exact .inl h0
  · exact .inr ⟨g, cap, cur, hv, hg, (hb.block g (Array.getElem?_eq_some_iff.1 hh).1).trans hh, rest⟩

theorem own_keep {W W' : World} {B n : Nat} {v : Value} {xs : List Value} (h : W.ownsRow B 3 1 v n xs) (hk : ∀ g, B ≤ g → g < W.heap.size → W'.heap[g]? = W.heap[g]?) : W'.ownsRow B 3 1 v n xs := by
  refine ⟨h.1, ?_⟩
  rcases h.2 with h0 | ⟨g, cap, cur, hv, hg, hh, rest⟩
  · exact .inl h0
  · exact .inr ⟨g, cap, cur, hv, hg, (hk g hg (Array.getElem?_eq_some_iff.1 hh).1).trans hh, rest⟩

set_option maxRecDepth 100000 in
set_option maxHeartbeats 2000000 in
theorem take_ok (B sb fb n a : Nat) (F : List Nat) (w : World) (hF : Fnd w B sb fb n F) (hB : B ≤ w.heap.size) (hn : n ≤ 60) (ha : a < n) (hl : F.length ≤ 60) :
    Calls Tryz.prog 98 #[.int .i64 a, .pointer (some ⟨sb, 0, none⟩), .pointer (some ⟨fb, 0, none⟩)] w fun e w' => e = .returned (.tuple #[]) ∧ Fnd w' B sb fb n (if a ∈ F then F else F ++ [a]) ∧ Chg B sb fb w w' := by
  obtain ⟨i0, hi, hz0, hz1, hz2⟩ := info_parts info3b
  have hs := hF.sub.cell
  have hfz := hF.sub.frozen
  by_cases hin : a ∈ F
  · rw [if_pos hin]
    have HH := hide (has_ok n a (fun x => decide (x ∈ F)) w hn ha)
    simp only [hin, decide_true] at HH
    go_enter Tryz.func98, Tryz.ntmps98
    go_wp2_with fail
    refine HH.out.mono ?_
    rintro e w1 ⟨rfl, rfl⟩
    go_wp2
    go_end0
    exact ⟨rfl, hF, Chg.refl _ _ _ _⟩
  · rw [if_neg hin]
    have HH := hide (has_ok n a (fun x => decide (x ∈ F)) w hn ha)
    simp only [hin, decide_false] at HH
    have hor := or_bs (fun x => decide (x ∈ F)) (fun x => decide (x = a)) hn
    have he : (fun x => decide (x ∈ F) || decide (x = a)) = fun x => decide (x ∈ F ++ [a]) := by funext x; simp
    rw [he] at hor
    clear he
    obtain ⟨fv, hfb, hrow⟩ := hF.fnd
    have hne := hF.ne
    have hslt := hF.slt
    have hflt := hF.flt
    have HF := hide hF
    have HRW := hide hrow
    clear hF hrow
    have hfc := hfb.cell
    have hff := hfb.frozen
    have HSB := hide HF.out.sub
    generalize bs (fun x => decide (x ∈ F)) n = X at *
    generalize hY : bs (fun x => decide (x ∈ F ++ [a])) n = Y at *
    have HOF := hide (fun W b (hc : W.cell? ⟨b, 0, none⟩ = some (.int .i64 a)) => of_one n b a W hn ha hc)
    generalize bs (fun x => decide (x = a)) n = Z at *
    go_enter Tryz.func98, Tryz.ntmps98
    go_wp2_with fail
    refine HH.out.mono ?_
    rintro e w1 ⟨rfl, rfl⟩
    go_wp2_with fail
    have HY := hide hY
    clear hY
    have hq1 : (w1.alloc (.cells #[.int .i64 a] 3)).drew.cell? ⟨sb, 0, none⟩ = some (.int .u64 X) := Boxed.cell (Boxed.alloc HSB.out (.cells #[.int .i64 a] 3))
    have hq2 : (w1.alloc (.cells #[.int .i64 a] 3)).drew.frozen? ⟨sb, 0, none⟩ = false := Boxed.frozen (Boxed.alloc HSB.out (.cells #[.int .i64 a] 3))
    have hq3 : (w1.alloc (.cells #[.int .i64 a] 3)).cell? ⟨sb, 0, none⟩ = some (.int .u64 X) := Boxed.cell (Boxed.alloc HSB.out (.cells #[.int .i64 a] 3))
    have hq4 : (w1.alloc (.cells #[.int .i64 a] 3)).frozen? ⟨sb, 0, none⟩ = false := Boxed.frozen (Boxed.alloc HSB.out (.cells #[.int .i64 a] 3))
    have hq5 : sb < w1.heap.size := by omega
    have hq6 : ¬ sb = w1.heap.size := by omega
    obtain ⟨w5, hw5⟩ : ∃ w5, w5 = ((w1.setCell ⟨sb, 0, none⟩ (.int .u64 Y)).alloc (.cells #[.int .i64 a] 3)).drew := ⟨_, rfl⟩
    have hk5 : ∀ g, g ≠ sb → g < w1.heap.size → w5.heap[g]? = w1.heap[g]? := fun g h1 h2 => by
      rw [hw5]
      exact (Below.heap_alloc _ _ g (by simp [World.setCell]; exact h2)).trans (Below.heap_setCell _ _ _ g h1)
    have h5z : w1.heap.size ≤ w5.heap.size := by rw [hw5]; show _ ≤ (World.alloc _ _).heap.size; simp [World.alloc, World.setCell]
    have h5s : Boxed w5 sb 74 (.int .u64 Y) := by rw [hw5]; exact (Boxed.alloc (HSB.out.set (.int .u64 Y)) _)
    have h5f : Boxed w5 fb 22 fv := (hk5 fb (Ne.symm hne) hfb.lt).trans hfb
    have h5r : w5.ownsRow B 3 1 fv F.length ((li F).map (Value.int .i64)) := own_keep HRW.out (fun g h1 h2 => hk5 g (by omega) h2)
    have h5c : Chg B sb fb w1 w5 := ⟨by rw [hw5]; rfl, by rw [hw5]; rfl, by rw [hw5]; rfl, h5z, fun g h1 h2 h3 => hk5 g h2 (by omega)⟩
    go_region_with (refine (HOF.out _ _ (cell1d _ _ _)).mono ?_; rintro e2 w2 ⟨rfl, rfl⟩)
    all_goals (
      rw [← hw5]
      clear hw5 hk5 hq1 hq2 hq3 hq4 hq5 hq6 hs hfz hfc hff
      have hfc := h5f.cell
      have hff := h5f.frozen
      have HFL := hide hl
      go_wp2_with (first
        | (at_builtin; refine wpList_append_own _ rfl _ _ 22 rfl B 3 i0 (.int .i64 0) 1 8 under22b hi hz0 hz1 hz2 rfl (by decide) _ _ _ rfl (World.ownsRow.alloc h5r _) ⟨w5.heap.size, 0, none⟩ 1 1 [.int .i64 a] rfl rfl ?c1 ?c2 ?c3 ?c4 ?c5 ?_))
      case c1 => exact cell_one_new _ _ _
      case c2 => simp [Value.oneCell']
      case c3 => unfold maxLen; have := HFL.out; omega
      case c4 => have := HFL.out; omega
      case c5 => simp; omega
      intro v9 w6 hown' hgrow _
      obtain ⟨g', cap', rfl⟩ := ownsRow_succ hown'
      have hown' := hown'
      have h6f : Boxed w6 fb 22 fv := Boxed.kept (Boxed.alloc h5f _) hgrow (h5f.not_row (by decide) h5r)
      have h6s : Boxed w6 sb 74 (.int .u64 Y) := Boxed.kept (Boxed.alloc h5s _) hgrow (h5s.not_row (by decide) h5r)
      have h6k : ∀ g, g < B → w6.heap[g]? = w5.heap[g]? := fun g h1 => (hgrow.block g (by simp; omega) (fun e => by have := owns_ge h5r g e.symm; omega)).trans (Below.heap_alloc _ _ g (by omega))
      have h6z : w5.heap.size ≤ w6.heap.size := by have := hgrow.size; simp at this; omega
      have h6c : Chg B sb fb w5 (w6.setCell ⟨fb, 0, none⟩ (.slice (some ⟨g', 0, none⟩) (F.length + 1) cap')) := ⟨hgrow.os, hgrow.tape, hgrow.output, by rw [size_set]; exact h6z, fun g h1 _ h3 => (Below.heap_setCell _ _ _ g h3).trans (h6k g h1)⟩
      have h7s : Boxed (w6.setCell ⟨fb, 0, none⟩ (.slice (some ⟨g', 0, none⟩) (F.length + 1) cap')) sb 74 (.int .u64 Y) := (Below.heap_setCell _ _ _ sb hne).trans h6s
      have h7f : Boxed (w6.setCell ⟨fb, 0, none⟩ (.slice (some ⟨g', 0, none⟩) (F.length + 1) cap')) fb 22 (.slice (some ⟨g', 0, none⟩) (F.length + 1) cap') := h6f.set (.slice (some ⟨g', 0, none⟩) (F.length + 1) cap')
      have h7r : (w6.setCell ⟨fb, 0, none⟩ (.slice (some ⟨g', 0, none⟩) (F.length + 1) cap')).ownsRow B 3 1 (.slice (some ⟨g', 0, none⟩) (F.length + 1) cap') (F ++ [a]).length ((li (F ++ [a])).map (Value.int .i64)) := by
        have := own_keep hown' (fun g h1 h2 => Below.heap_setCell w6 ⟨fb, 0, none⟩ (.slice (some ⟨g', 0, none⟩) (F.length + 1) cap') g (by simp; omega))
        simpa [li] using this
      have h7n : Fnd (w6.setCell ⟨fb, 0, none⟩ (.slice (some ⟨g', 0, none⟩) (F.length + 1) cap')) B sb fb n (F ++ [a]) := ⟨by rw [HY.out]; exact h7s, ⟨(.slice (some ⟨g', 0, none⟩) (F.length + 1) cap'), h7f, h7r⟩, hne, hslt, hflt⟩
      have h7c := h5c.trans h6c
      have hfc6 := h6f.cell
      have hff6 := h6f.frozen
      clear hown' hgrow hfc hff h5s h5f h5r h5c h6c h7s h7f h7r h6s h6k
      go_wp2
      go_end0
      exact ⟨rfl, h7n, h7c⟩)
end Go.Proofs.YtlhjeenijcokoaaGreatDoor

namespace Go.Proofs.YtlhjeenijcokoaaGreatDoor
open Go Go.RowKit

/-- What the set q makes in the group. -/
abbrev Mkd (n : Nat) (zs : List Int) (e : Nat) (q : Nat → Bool) (a : Nat) : Prop := Fin.Gen (List.range n) (tm n zs) e (fun x => q x = true) a
/-- How far it has come: of the things ahead of k all products with makers are found, of the one at k those with the first j makers. -/
structure Inv (n : Nat) (zs : List Int) (e : Nat) (q : Nat → Bool) (F : List Nat) (k j : Nat) : Prop where
  nd : F.Nodup
  mem : ∀ x, x ∈ F → x < n ∧ Mkd n zs e q x
  one : e ∈ F
  done : ∀ i, i < k → ∀ y, F[i]? = some y → ∀ x, x < n → q x = true → tm n zs y x ∈ F
  part : ∀ y, F[k]? = some y → ∀ i, i < j → ∀ x, (lst n q)[i]? = some x → tm n zs y x ∈ F
theorem Inv.start {n : Nat} {zs : List Int} {e : Nat} {q : Nat → Bool} (g : IsGrp n zs e) : Inv n zs e q [e] 0 0 :=
  ⟨by simp, fun x hx => by simp at hx; subst hx; exact ⟨g.elt, (Fin.Gen.sg _).one⟩, by simp, fun i hi => by omega, fun _ _ i hi => by omega⟩
theorem Inv.step {n : Nat} {zs : List Int} {e : Nat} {q : Nat → Bool} {F : List Nat} {k j x y : Nat} (g : IsGrp n zs e) (h : Inv n zs e q F k j) (hy : F[k]? = some y) (hx : (lst n q)[j]? = some x) :
    Inv n zs e q (if tm n zs y x ∈ F then F else F ++ [tm n zs y x]) k (j + 1) := by
  have hkl := (List.getElem?_eq_some_iff.1 hy).1
  have hyF : y ∈ F := List.mem_of_getElem? hy
  have hxl := mem_lst.1 (List.mem_of_getElem? hx)
  obtain ⟨hyn, hyg⟩ := h.mem y hyF
  have hsub : ∀ z, z ∈ F → z ∈ (if tm n zs y x ∈ F then F else F ++ [tm n zs y x]) := fun z hz => by split <;> simp [hz]
  have hnew : tm n zs y x ∈ (if tm n zs y x ∈ F then F else F ++ [tm n zs y x]) := by split <;> simp_all
  have hget : ∀ i, i < F.length → (if tm n zs y x ∈ F then F else F ++ [tm n zs y x])[i]? = F[i]? := fun i hi => by
    split
    · rfl
    · rw [List.getElem?_append_left hi]
  refine ⟨?_, ?_, hsub _ h.one, ?_, ?_⟩
  · split
    · exact h.nd
    · rename_i hn
      exact List.nodup_append.2 ⟨h.nd, by simp, fun a ha b hb => by simp at hb; subst hb; exact fun e => hn (e ▸ ha)⟩
  · intro z hz
    have : z ∈ F ∨ z = tm n zs y x := by split at hz <;> simp_all
    rcases this with h1 | rfl
    · exact h.mem z h1
    · exact ⟨tm_lt g.tab hyn hxl.1, (Fin.Gen.sg _).mul _ _ (List.mem_range.2 hyn) (List.mem_range.2 hxl.1) hyg (Fin.Gen.base (List.mem_range.2 hxl.1) hxl.2)⟩
  · intro i hi z hz a ha hq
    rw [hget i (by omega)] at hz
    exact hsub _ (h.done i hi z hz a ha hq)
  · intro z hz i hi a ha
    rw [hget k hkl, hy] at hz
    obtain rfl := Option.some.inj hz
    by_cases hij : i = j
    · subst hij
      rw [hx] at ha
      obtain rfl := Option.some.inj ha
      exact hnew
    · exact hsub _ (h.part y hy i (by omega) a ha)
theorem Inv.next {n : Nat} {zs : List Int} {e : Nat} {q : Nat → Bool} {F : List Nat} {k j : Nat} (h : Inv n zs e q F k j) (hj : (lst n q).length ≤ j) : Inv n zs e q F (k + 1) 0 := by
  refine ⟨h.nd, h.mem, h.one, ?_, fun _ _ i hi => by omega⟩
  intro i hi y hy x hx hq
  by_cases hik : i = k
  · subst hik
    obtain ⟨t, ht⟩ := List.mem_iff_getElem?.1 (mem_lst.2 ⟨hx, hq⟩)
    exact h.part y hy t (by have := (List.getElem?_eq_some_iff.1 ht).1; omega) x ht
  · exact h.done i (by omega) y hy x hx hq
theorem Inv.fin {n : Nat} {zs : List Int} {e : Nat} {q : Nat → Bool} {F : List Nat} {k j : Nat} (g : IsGrp n zs e) (h : Inv n zs e q F k j) (hk : F.length ≤ k) : ∀ a, a < n → (a ∈ F ↔ Mkd n zs e q a) := by
  intro a ha
  refine ⟨fun hm => (h.mem a hm).2, fun hg => ?_⟩
  refine closed_gen (P := fun z => z ∈ F) (grp_fg g) h.one (fun y x _ hx hy hX => ?_) (List.mem_range.2 ha) hg
  obtain ⟨t, ht⟩ := List.mem_iff_getElem?.1 hy
  exact h.done t (by have := (List.getElem?_eq_some_iff.1 ht).1; omega) y ht x (List.mem_range.1 hx) hX
theorem Inv.len {n : Nat} {zs : List Int} {e : Nat} {q : Nat → Bool} {F : List Nat} {k j : Nat} (h : Inv n zs e q F k j) : F.length ≤ n := nodup_fits h.nd (fun x hx => (h.mem x hx).1)
theorem take_len (F : List Nat) (a : Nat) : F.length ≤ (if a ∈ F then F else F ++ [a]).length := by split <;> simp
theorem take_get {F : List Nat} {k y : Nat} (a : Nat) (h : F[k]? = some y) : (if a ∈ F then F else F ++ [a])[k]? = some y := by
  split
  · exact h
  · rw [List.getElem?_append_left (List.getElem?_eq_some_iff.1 h).1]; exact h

set_option maxRecDepth 100000 in
set_option maxHeartbeats 4000000 in
theorem made_ok (n : Nat) (v u : Value) (zs : List Int) (e : Nat) (q p : Nat → Bool) (w : World) (hG : GA w n v e u zs) (hT : Tab w) (hp : ∀ a, a < n → (p a = true ↔ Mkd n zs e q a)) :
    Calls Tryz.prog 61 #[.agg #[.int .i64 n, v, .int .i64 e, u], .int .u64 (bs q n)] w fun x w' => x = .returned (.int .u64 (bs p n)) ∧ Below w.heap.size w w' := by
  have hn := hG.le
  have hgrp := hG.grp
  have helt := hgrp.elt
  obtain ⟨w1, hw1⟩ : ∃ w1, w1 = ((w.alloc (.cells #[.int .i64 n, v, .int .i64 e, u] 57)).alloc (.cells #[.int .u64 0] 74)).alloc (.cells #[.slice none 0 0] 22) := ⟨_, rfl⟩
  have hB1 : Below w.heap.size w w1 := by
    rw [hw1]
    exact (((balloc w _).alloc (by simp) _).alloc (by simp; omega) _)
  have hz1 : w1.heap.size = w.heap.size + 3 := by rw [hw1]; simp
  have hX4 : Box4 w1 w.heap.size n e v u := by rw [hw1]; exact ⟨((blk4 _ _ _ _).alloc _).alloc _⟩
  have hXs : Boxed w1 (w.heap.size + 1) 74 (.int .u64 0) := by
    rw [hw1]
    have := (Boxed.new (w.alloc (.cells #[.int .i64 n, v, .int .i64 e, u] 57)) 74 (.int .u64 0)).alloc (.cells #[.slice none 0 0] 22)
    simpa using this
  have hXf : Boxed w1 (w.heap.size + 1 + 1) 22 (.slice none 0 0) := by
    rw [hw1]
    have := Boxed.new ((w.alloc (.cells #[.int .i64 n, v, .int .i64 e, u] 57)).alloc (.cells #[.int .u64 0] 74)) 22 (.slice none 0 0)
    simpa using this
  have HL := hide (list_ok n q w1 hn (hT.below hB1))
  obtain ⟨c0, c1, c2, c3⟩ := hX4.cells
  have HZ := hide hz1
  clear hz1
  go_enter Tryz.func61, Tryz.ntmps61
  go_wp2_with fail
  rw [← hw1]
  clear hw1
  refine HL.out.mono ?_
  rintro e1 w3 ⟨mk, rfl, hmk, hb3⟩
  have hB3 := bcat hB1 hb3 hB1.size
  have hX4 := hX4.below hb3
  have hXs := Boxed.below hXs hb3
  have hXf := Boxed.below hXf hb3
  have hG3 := hG.below hB3
  have HZ3 := hide (show w.heap.size + 3 ≤ w3.heap.size by rw [← HZ.out]; exact hb3.size)
  have hF0 : Fnd w3 w3.heap.size (w.heap.size + 1) (w.heap.size + 1 + 1) n [] := ⟨by simpa [bs_none] using hXs, ⟨_, hXf, World.ownsRow_nil _ _ _ _⟩, by omega, by have := HZ3.out; omega, by have := HZ3.out; omega⟩
  have HT0 := hide (take_ok w3.heap.size (w.heap.size + 1) (w.heap.size + 1 + 1) n e [] w3 hF0 (Nat.le_refl _) hn helt (by simp))
  obtain ⟨c0, c1, c2, c3⟩ := hX4.cells
  obtain ⟨ma, mcap, mpb, mpo, rfl, hmr, hmp, hm3, hm4, hmb⟩ := hmk
  rw [li_len] at hm3
  have HMB := hide (show w.heap.size + 3 ≤ mpb by rw [← HZ.out]; exact hmb)
  have HMR := hide hmr
  have hml := lst_len n q
  rw [li_len]
  have HLen := hide (li_len (lst n q))
  clear hmr hmb hF0 hXs hXf HL HZ hm4
  go_wp2_with fail
  refine HT0.out.mono ?_
  rintro e2 w4 ⟨rfl, hF4, hC4⟩
  have hF4 : Fnd w4 w3.heap.size (w.heap.size + 1) (w.heap.size + 1 + 1) n [e] := by simpa using hF4
  have hI4 : Inv n zs e q [e] 0 0 := Inv.start hgrp
  clear HT0 c0 c1 c2 c3
  go_wp2
  go_loopw [9] (fun i wr => ∃ (k : Nat) (F : List Nat), i = .int .i64 k ∧ k ≤ F.length ∧ Fnd wr w3.heap.size (w.heap.size + 1) (w.heap.size + 1 + 1) n F ∧ Inv n zs e q F k 0 ∧ Chg w3.heap.size (w.heap.size + 1) (w.heap.size + 1 + 1) w3 wr) (fun i _ => n - (intOf i).toNat)
  case atStart => exact ⟨0, [e], rfl, by simp, hF4, hI4, hC4⟩
  case round =>
    obtain ⟨k, F, rfl, hk, hF, hI, hC⟩ := hrel
    have hFl := hI.len
    obtain ⟨fv, hfb, hrow⟩ := hF.fnd
    obtain ⟨fa, fcap, rfl⟩ := own_slice hrow
    have hfc := hfb.cell
    have hsc := hF.sub.cell
    clear hfb hrow
    by_cases hlt : k < F.length
    · obtain ⟨y, hy⟩ : ∃ y, F[k]? = some y := ⟨F[k], List.getElem?_eq_getElem hlt⟩
      have HY := hide hy
      clear hy
      go_wp2
      clear hsc hfc
      go_loopw [27] (fun i wr => ∃ (j : Nat) (F' : List Nat), i = .int .i64 j ∧ j ≤ (lst n q).length ∧ F'[k]? = some y ∧ Fnd wr w3.heap.size (w.heap.size + 1) (w.heap.size + 1 + 1) n F' ∧ Inv n zs e q F' k j ∧ Chg w3.heap.size (w.heap.size + 1) (w.heap.size + 1 + 1) w3 wr) (fun i _ => (lst n q).length - (intOf i).toNat)
      case atStart => exact ⟨0, F, rfl, by omega, HY.out, hF, hI, hC⟩
      case round =>
        obtain ⟨j, F', rfl, hj, hy', hF', hI', hC'⟩ := hrel
        clear hF hI hC
        have hFl' := hI'.len
        by_cases hltj : j < (lst n q).length
        · obtain ⟨x, hx⟩ : ∃ x, (lst n q)[j]? = some x := ⟨(lst n q)[j], List.getElem?_eq_getElem hltj⟩
          have hxl := mem_lst.1 (List.mem_of_getElem? hx)
          obtain ⟨hyn, _⟩ := hI'.mem y (List.mem_of_getElem? hy')
          have hkl := (List.getElem?_eq_some_iff.1 hy').1
          have hBw : Below w.heap.size w wr := by
            have h1 := hC'.below (g := w.heap.size) (by omega) (by omega) (by have := HZ3.out; omega)
            exact hB3.trans h1
          have hmc : wr.cell? ⟨mpb, mpo + j, none⟩ = some (.int .i64 x) := by
            have h1 := HMR.out.cell j (by rw [HLen.out]; exact hltj)
            rw [li_get hltj, (List.getElem?_eq_some_iff.1 hx).2] at h1
            rw [← h1]
            exact World.cell?_of_block (a := ⟨mpb, mpo + j, none⟩) (hC'.block mpb hmp (by have := HMB.out; omega) (by have := HMB.out; omega))
          obtain rfl := HMR.out.at_ (by rw [HLen.out]; omega)
          have hX4' : Box4 wr w.heap.size n e v u := ⟨(hX4.blk).of_eq (hC'.block _ (by have := HZ3.out; omega) (by omega) (by omega))⟩
          have hGr := hG.below hBw
          obtain ⟨fv', hfb', hrow'⟩ := hF'.fnd
          have hsl := Sl.of_own (base := w3.heap.size) (v := fv') (zs := li F') (by rw [li_len]; exact hrow') (Nat.lt_of_le_of_lt (Nat.zero_le _) hfb'.lt)
          obtain ⟨fa', fcap', fpb, fpo, rfl, hfr, hfp, hf3, hf4⟩ := hsl
          have hfk : wr.cell? ⟨fpb, fpo + k, none⟩ = some (.int .i64 y) := by
            have h1 := hfr.cell k (by rw [li_len]; exact hkl)
            rw [li_get hkl, (List.getElem?_eq_some_iff.1 hy').2] at h1
            exact h1
          obtain rfl := hfr.at_ (by rw [li_len]; omega)
          have hfc' := hfb'.cell
          rw [li_len] at hfc' hf3 hfb' hrow'
          obtain ⟨c0, c1, c2, c3⟩ := hX4'.cells
          have HP := hide (prd_ok n v u zs e y x wr.drew hgrp.tab (hGr.mul.below (bdrew (Below.refl _ wr))) hyn hxl.1)
          have htl := tm_lt hgrp.tab hyn hxl.1
          have HTK := hide (fun W (h : Below wr.heap.size wr W) => take_ok w3.heap.size (w.heap.size + 1) (w.heap.size + 1 + 1) n (tm n zs y x) F' W (hF'.below h) (Nat.le_trans hC'.size h.size) hn htl (by omega))
          have HST := hide (Inv.step hgrp hI' hy' hx)
          have HGT := hide (take_get (tm n zs y x) hy')
          have HC' := hide hC'
          clear hfb' hrow' hfr hF' hI' hX4' hGr hx hy' hBw hC'
          generalize tm n zs y x = t at *
          have hkF : (k : Int) < (F'.length : Int) := by omega
          go_wp2_with fail
          go_region_with (first
            | (go_at_call 100; refine HP.out.mono ?_; rintro e8 w8 ⟨rfl, hb8⟩; have hb9 : Below wr.heap.size wr w8 := ⟨hb8.os, hb8.tape, hb8.output, hb8.size, hb8.block⟩)
            | (go_at_call 98; refine (HTK.out _ hb9).mono ?_; rintro e9 w9 ⟨rfl, hF9, hC9⟩))
          all_goals (
            have hC10 := (HC'.out.trans (Chg.of_below hb9 HC'.out.size)).trans hC9
            go_wp2
            go_roundw
            case rel => exact ⟨j + 1, _, by go_num, by omega, HGT.out, hF9, HST.out, hC10⟩
            case measure => simp [intOf]; omega)
        · have HN := hide (hI'.next (by omega))
          have HL2 := hide (List.getElem?_eq_some_iff.1 hy').1
          go_wp2
          go_roundw
          case rel => exact ⟨k + 1, F', by go_num, HL2.out, hF', HN.out, hC'⟩
          case measure => simp [intOf]; omega
    · have HE := hide (show bs (fun a => decide (a ∈ F)) n = bs p n from bs_ext fun a ha => by
        rw [Bool.eq_iff_iff, decide_eq_true_eq, hI.fin hgrp (by omega) a ha, hp a ha])
      have HB := hide (hB3.trans (hC.below (g := w.heap.size) (by omega) (by omega) (by have := HZ3.out; omega)))
      go_wp2
      go_ret
      exact ⟨by rw [← HE.out]; rfl, HB.out⟩
end Go.Proofs.YtlhjeenijcokoaaGreatDoor
