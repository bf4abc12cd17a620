/- What Abelian of package table answers, and what the document's Commutes is. -/
import Derived.Test.YtpcgacelljbkdaaAsks
namespace Go.Proofs.Ytpcgacelljbkdaa
open Go Go.RowKit

/-- Do all things commute? -/
def comB (n : Nat) (zs : List Int) : Bool := (List.range n).all fun a => (List.range n).all fun b => tm n zs a b == tm n zs b a
theorem comB_iff {n : Nat} {zs : List Int} : comB n zs = true ↔ ∀ a b, a < n → b < n → tm n zs a b = tm n zs b a := by
  unfold comB
  simp only [List.all_eq_true, List.mem_range, beq_iff_eq]
  exact ⟨fun h a b ha hb => h a ha b hb, fun h a ha b hb => h a b ha hb⟩
theorem div_mod_lt {n i : Nat} (hi : i < n * n) : i / n < n ∧ i % n < n := by
  have hn : 0 < n := by
    rcases Nat.eq_zero_or_pos n with h | h
    · subst h; simp at hi
    · exact h
  exact ⟨Nat.div_lt_of_lt_mul hi, Nat.mod_lt _ hn⟩
theorem com_least {n : Nat} {zs : List Int} (_hn : 0 < n) : decide (least (n * n) (fun i => tm n zs (i / n) (i % n) != tm n zs (i % n) (i / n)) = -1) = comB n zs := by
  rw [Bool.eq_iff_iff, decide_eq_true_eq, least_neg, comB_iff]
  constructor
  · intro h a b ha hb
    have h1 := h (a * n + b) (place_lt ha hb)
    have e1 : (a * n + b) / n = a := by rw [Nat.mul_comm, Nat.mul_add_div (by omega), Nat.div_eq_of_lt hb, Nat.add_zero]
    have e2 : (a * n + b) % n = b := by rw [Nat.mul_comm, Nat.mul_add_mod, Nat.mod_eq_of_lt hb]
    rw [e1, e2] at h1
    simpa using h1
  · intro h i hi
    obtain ⟨h1, h2⟩ := div_mod_lt hi
    simpa using h _ _ h1 h2

set_option maxRecDepth 100000 in
set_option maxHeartbeats 4000000 in
theorem strays_ok (b n i : Nat) (v : Value) (zs : List Int) (w : World) (ht : IsTab n zs) (hg : BoxG w b n v) (hv : Sl w v zs) (hi : i < n * n) :
    Calls Try.prog 60 #[.int .i64 i, .pointer (some ⟨b, 0, none⟩)] w fun x w' => x = .returned (.bool (tm n zs (i / n) (i % n) != tm n zs (i % n) (i / n))) ∧ Below w.heap.size w w' := by
  obtain ⟨c0, c1, _, _⟩ := hg.two
  obtain ⟨h1, h2⟩ := div_mod_lt hi
  have hpos := ht.pos
  have hle := ht.le
  have hnn : n * n ≤ 60 * 60 := Nat.mul_le_mul hle hle
  have hi2 : i < 3600 := by omega
  have hn0 : ¬ ((n : Int) = 0) := by omega
  have hq : (i : Int).tdiv (n : Int) = ((i / n : Nat) : Int) := by rw [Int.tdiv_eq_ediv_of_nonneg (by omega), Int.natCast_ediv]
  have hm : (i : Int).tmod (n : Int) = ((i % n : Nat) : Int) := by rw [Int.tmod_eq_emod_of_nonneg (by omega), Int.natCast_emod]
  have HT := hide ht
  generalize i / n = p at *
  generalize i % n = r at *
  clear hi hnn ht
  go_enter Try.func60, Try.ntmps60
  go_wp2_with fail
  go_quiet (fail)
  go_wp2_with fail
  have hS : ∀ W, Below w.heap.size w W → (Below w.heap.size w W ∧ W.cell? ⟨b, 0, none⟩ = some (.int .i64 n) ∧ W.cell? ⟨b, 1, none⟩ = some v) := fun W h => ⟨h, below_cell h c0, below_cell h c1⟩
  have hS0 := hS _ (bdrew (bdrewN (Below.refl _ w) nq))
  clear c0 c1 hq hm
  go_region_held3 (fun W => Below w.heap.size w W ∧ W.cell? ⟨b, 0, none⟩ = some (.int .i64 n) ∧ W.cell? ⟨b, 1, none⟩ = some v)
    (first | exact hS0 | assumption | exact hS _ (bcat2 (And.left ‹_›) hl1))
    (first | (go_at_call 61; refine (product_ok n v zs _ _ _ HT.out (hv.below (And.left ‹_›)) (by assumption) (by assumption)).mono ?_; rintro e W1 ⟨rfl, hl1⟩))
  obtain ⟨hB3, _⟩ := ‹Below w.heap.size w W1 ∧ _›
  go_wp2
  go_ret
  exact ⟨retB (bneN _ _), hB3⟩

theorem call60 (a : Int) (x : Value) (W : World) : Sem.run Try.prog (callFunc 60 (#[.int .i64 a] ++ #[x])) W = .ok (.enter 60 (#[.int .i64 a] ++ #[x])) W := by kernel_rfl

/-- What goes with a fault, where a Boolean is answered. -/
def okB (c : Int) (x : Bool) : Bool := decide (c = 0) && x

set_option maxRecDepth 100000 in
set_option maxHeartbeats 4000000 in
theorem abelian_any (N : Int) (v : Value) (zs : List Int) (w : World) (hv : Sl w v zs) :
    Calls Try.prog 17 #[.agg #[.int .i64 N, v]] w fun x w' => x = .returned (.tuple #[.bool (okB (gfault N zs).1 (comB N.toNat zs)), .agg #[.int .i64 (gfault N zs).1, .int .i64 (gfault N zs).2]]) ∧ Below w.heap.size w w' := by
  obtain ⟨w0, BG⟩ := Beg.new w N v
  have hv0 := hv.below BG.bel
  obtain ⟨c0, c1, _, _⟩ := BG.box.two
  have hck := check_any N v zs w0 hv0
  obtain ⟨c, i, hci⟩ : ∃ c i, gfault N zs = (c, i) := ⟨_, _, rfl⟩
  rw [hci] at hck ⊢
  have HCK := hide hck
  have HCI := hide hci
  clear hck hci
  obtain ⟨a, cap, pb, po, rfl, hr, hp, hq3, hq4⟩ := id hv
  unfold maxLen at hq4
  by_cases hc : c = 0
  · subst hc
    obtain ⟨n, e, rfl, hgr, hg0⟩ := gfault_grp (N := N) (zs := zs) (by rw [HCI.out])
    obtain rfl : i = 0 := by have := congrArg Prod.snd (HCI.out.symm.trans hg0); exact this
    have hle := hgr.tab.le
    have hlen := hgr.tab.len
    have hnn : n * n ≤ 60 * 60 := Nat.mul_le_mul hle hle
    rw [show okB 0 (comB (n : Int).toNat zs) = comB n zs by simp [okB], ← com_least hgr.tab.pos]
    have HL : Hid (∀ W0, Below w0.heap.size w0 W0 → Calls Try.prog 54 #[.int .i64 zs.length, .func (.func 60) #[] #[.pointer (some ⟨w.heap.size, 0, none⟩)]] W0 fun x w' => x = .returned (.int .i64 (least (n * n) (fun i => tm n zs (i / n) (i % n) != tm n zs (i % n) (i / n)))) ∧ Below W0.heap.size W0 w') := fun W0 h0 => by
      have := least_any (n * n) 60 #[.pointer (some ⟨w.heap.size, 0, none⟩)] (fun i => tm n zs (i / n) (i % n) != tm n zs (i % n) (i / n)) W0 (by omega) (fun a W => call60 a _ W)
        (fun W a hW ha => strays_ok w.heap.size n a _ zs W hgr.tab (blk_below BG.box (bcat2 h0 hW)) (hv0.below (bcat2 h0 hW)) ha)
      rwa [← hlen] at this ⊢
    generalize least (n * n) (fun i => tm n zs (i / n) (i % n) != tm n zs (i % n) (i / n)) = l at *
    clear hgr hg0 HCI hlen hnn
    rw [BG.eq] at c0 c1
    go_enter Try.func17, Try.ntmps17
    go_wp2_with fail
    rw [← BG.eq]
    refine HCK.out.mono ?_
    rintro x w1 ⟨rfl, hb1⟩
    clear c0 c1
    have hB1 := bcat2 hb1 (balloc w1 (.cells #[.int .i64 0, .int .i64 0] 27))
    obtain ⟨k0, k1, _, _⟩ := (blk_below BG.box hB1).two
    go_wp2_with fail
    refine (HL.out _ hB1).mono ?_
    rintro x w2 ⟨rfl, hb2⟩
    have hB2 := bcat2 hB1 hb2
    have hBw := bcat BG.bel hB2 BG.bel.size
    obtain ⟨_, y0, y1, fy0, fy1, s0, s1⟩ := Two.mk' (blk_below BG.res hB2)
    clear k0 k1
    go_wp2
    exact bodyPost_ret (v := .tuple #[.bool (l == -1), .agg #[.int .i64 0, .int .i64 0]]) (by simp [results, Try.results17, go_sem, y0, y1]) rfl ⟨by rw [show (l == -1) = decide (l = -1) by rw [Bool.eq_iff_iff]; simp], hBw⟩
  · have hcb : (c != 0) = true := by simpa using hc
    clear HCI
    rw [BG.eq] at c0 c1
    go_enter Try.func17, Try.ntmps17
    go_wp2_with fail
    rw [← BG.eq]
    refine (HCK.out).mono ?_
    rintro x w1 ⟨rfl, hb1⟩
    clear c0 c1
    have hB1 := bcat2 hb1 (balloc w1 (.cells #[.int .i64 c, .int .i64 i] 27))
    have hR1 := blk_below BG.res hB1
    have hF1 : Blk (w1.alloc (.cells #[.int .i64 c, .int .i64 i] 27)) w1.heap.size 27 [.int .i64 c, .int .i64 i] := blk0 _ _
    have hBw := bcat BG.bel hB1 BG.bel.size
    have hs9 : w.heap.size + 1 < w1.heap.size := (blk_below BG.res hb1).lt
    obtain ⟨y0, y1, fy0, fy1⟩ := hR1.two
    obtain ⟨t0, t1, _, _⟩ := hF1.two
    go_wp2_with fail
    generalize w1.alloc (.cells #[.int .i64 c, .int .i64 i] 27) = w2 at *
    go_region
    go_wp2
    obtain ⟨hR6, hB6⟩ := put2 hR1 hBw (by omega) c i
    have hB7 := bdrew hB6
    have hR7 : Blk ((w2.setCell ⟨w.heap.size + 1, 0, none⟩ (.int .i64 c)).setCell ⟨w.heap.size + 1, 1, none⟩ (.int .i64 i)).drew (w.heap.size + 1) 27 [.int .i64 c, .int .i64 i] := hR6
    generalize ((w2.setCell ⟨w.heap.size + 1, 0, none⟩ (.int .i64 c)).setCell ⟨w.heap.size + 1, 1, none⟩ (.int .i64 i)).drew = W at hR7 hB7 ⊢
    obtain ⟨z0, z1, _, _⟩ := hR7.two
    exact bodyPost_ret (v := .tuple #[.bool false, .agg #[.int .i64 c, .int .i64 i]]) (by simp [results, Try.results17, go_sem, z0, z1]) rfl ⟨by simp [okB, hc], hB7⟩

set_option maxRecDepth 100000 in
set_option maxHeartbeats 4000000 in
theorem commutes_ok (n : Nat) (v : Value) (zs : List Int) (w : World) (ht : IsTab n zs) (hv : Sl w v zs) :
    Calls Try.prog 21 #[.agg #[.int .i64 n, v]] w fun x w' => x = .returned (.bool (comB n zs)) ∧ Below w.heap.size w w' := by
  have hB0 : Below w.heap.size w (w.alloc (.cells #[.int .i64 n, v] 24)) := balloc w _
  have hg0 : BoxG (w.alloc (.cells #[.int .i64 n, v] 24)) w.heap.size n v := blk0 _ _
  have hv0 := hv.below hB0
  have hle := ht.le
  have HT := hide ht
  obtain ⟨g0, g1, _, _⟩ := hg0.two
  clear ht
  go_enter Try.func21, Try.ntmps21
  go_wp2
  generalize w.alloc (.cells #[.int .i64 n, v] 24) = w0 at *
  go_loopw [3] (fun i wr => ∃ k : Nat, k ≤ n ∧ i = .int .i64 k ∧ (∀ a b, a < k → b < n → tm n zs a b = tm n zs b a) ∧ Below w0.heap.size w0 wr) (fun i _ => n - (intOf i).toNat)
  case atStart => exact ⟨0, Nat.zero_le _, rfl, fun a b ha => by omega, Below.refl _ _⟩
  case round =>
    obtain ⟨a, hk, rfl, hno, hB⟩ := hrel
    have HN := hide hno
    have d0 := below_cell hB g0
    have d1 := below_cell hB g1
    clear hno
    by_cases hlt : a < n
    · go_wp2
      clear d0 d1
      go_loopw [4] (fun i wr => ∃ k : Nat, k ≤ n ∧ i = .int .i64 k ∧ (∀ b, b < k → tm n zs a b = tm n zs b a) ∧ Below w0.heap.size w0 wr) (fun i _ => n - (intOf i).toNat)
      case atStart => exact ⟨0, Nat.zero_le _, rfl, fun b hb => by omega, hB⟩
      case round =>
        obtain ⟨b, hk2, rfl, hno2, hB2⟩ := hrel
        have HN2 := hide hno2
        have d0 := below_cell hB2 g0
        have d1 := below_cell hB2 g1
        clear hno2
        by_cases hlt2 : b < n
        · have hS : ∀ W, Below w0.heap.size w0 W → (Below w0.heap.size w0 W ∧ W.cell? ⟨w.heap.size, 0, none⟩ = some (.int .i64 n) ∧ W.cell? ⟨w.heap.size, 1, none⟩ = some v) := fun W h => ⟨h, below_cell h g0, below_cell h g1⟩
          have hS0 := hS _ (bdrew hB2)
          go_wp2_with fail
          clear d0 d1
          go_region_held3 (fun W => Below w0.heap.size w0 W ∧ W.cell? ⟨w.heap.size, 0, none⟩ = some (.int .i64 n) ∧ W.cell? ⟨w.heap.size, 1, none⟩ = some v)
            (first | exact hS0 | assumption | exact hS _ (bcat2 (And.left ‹_›) hl1))
            (first | (go_at_call 40; refine (M_ok n v zs _ _ _ HT.out (hv0.below (And.left ‹_›)) (by assumption) (by assumption)).mono ?_; rintro e W1 ⟨rfl, hl1⟩))
          obtain ⟨hB3, _⟩ := ‹Below w0.heap.size w0 W1 ∧ _›
          clear hS hS0 hl1
          by_cases hxy : tm n zs a b = tm n zs b a
          · have hbe : ((tm n zs a b : Int) != (tm n zs b a : Int)) = false := by simp [hxy]
            have HXY := hide hxy
            clear hxy
            go_wp2
            go_roundw
            case rel => exact ⟨b + 1, by omega, by go_num, fun d hd => by
              by_cases e : d = b
              · rw [e]; exact HXY.out
              · exact HN2.out d (by omega), hB3⟩
            case measure => simp [intOf]; omega
          · have hbe : ((tm n zs a b : Int) != (tm n zs b a : Int)) = true := by simp; omega
            go_wp2
            go_ret
            refine ⟨retB ?_, bcat hB0 hB3 hB0.size⟩
            cases hq : comB n zs with
            | false => rfl
            | true => exact absurd (comB_iff.1 hq a b hlt hlt2) hxy
        · have hcn : b = n := by omega
          subst hcn
          go_wp2
          go_roundw
          case rel => exact ⟨a + 1, by omega, by go_num, fun d c hd hc => by
            by_cases e : d = a
            · rw [e]; exact HN2.out c hc
            · exact HN.out d c (by omega) hc, hB2⟩
          case measure => simp [intOf]; omega
    · have hbn : a = n := by omega
      subst hbn
      go_wp2
      go_ret
      exact ⟨retB (comB_iff.2 (fun d c hd hc => HN.out d c hd hc)).symm, bcat hB0 hB hB0.size⟩
end Go.Proofs.Ytpcgacelljbkdaa
