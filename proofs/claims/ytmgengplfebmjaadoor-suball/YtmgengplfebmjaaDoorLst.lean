/- What a set's list is. Condition: the library's table of places lies as its text lays it. -/
import Derived.Test.YtmgengplfebmjaaDoorSet
import Derived.OwnWalk
namespace Go.Proofs
open Go.Shelf
def Tryd.lays29_ren : Go.Shelf.Ren := ⟨fun | 29 => 85 | n => n, fun | 22 => 72 | 25 => 108 | 54 => 118 | n => n, fun | 1 => 0 | n => n⟩
theorem Tryd.lays29 : Go.Proofs.Lays7.n29 Tryd.prog Tryd.lays29_ren := {
  mixed := by kernel_rfl
  f29 := Tryd.func85.trans (congrArg some (by kernel_rfl))
  t0 := by kernel_rfl
  a0 := fun _ => by kernel_rfl
  z0 := fun _ => by kernel_rfl
  v0 := fun _ => by kernel_rfl
  i0 := by kernel_rfl
  t3 := by kernel_rfl
  a3 := fun _ => by kernel_rfl
  z3 := fun _ => by kernel_rfl
  v3 := fun _ => by kernel_rfl
  i3 := by kernel_rfl
  t4 := by kernel_rfl
  a4 := fun _ => by kernel_rfl
  z4 := fun _ => by kernel_rfl
  v4 := fun _ => by kernel_rfl
  i4 := by kernel_rfl
  t5 := by kernel_rfl
  a5 := fun _ => by kernel_rfl
  z5 := fun _ => by kernel_rfl
  v5 := fun _ => by kernel_rfl
  i5 := by kernel_rfl
  t22 := by kernel_rfl
  a22 := fun _ => by kernel_rfl
  z22 := fun _ => by kernel_rfl
  v22 := fun _ => by kernel_rfl
  i22 := by kernel_rfl
  t25 := by kernel_rfl
  a25 := fun _ => by kernel_rfl
  z25 := fun _ => by kernel_rfl
  v25 := fun _ => by kernel_rfl
  i25 := by kernel_rfl
  t54 := by kernel_rfl
  a54 := fun _ => by kernel_rfl
  z54 := fun _ => by kernel_rfl
  g1 := by kernel_rfl }
end Go.Proofs
namespace Go.Proofs.YtmgengplfebmjaaDoor
open Go Go.RowKit

/-- The library's table of places, as its text lays it. -/
def Tab (w : World) : Prop := TabAt 0 Lib.deBruijn64tab w
theorem Tab.below {w w' : World} (h : Tab w) (hb : Below w.heap.size w w') : Tab w' := fun j hj => below_cell hb (h j hj)
theorem Tab.lt {w : World} (h : Tab w) : 0 < w.heap.size := World.block_lt_of_cell? w ⟨0, 0, none⟩ (h 0 (by decide))
theorem Tab.of {w w' : World} (h : Tab w) (hb : w'.heap[0]? = w.heap[0]?) : Tab w' := fun j hj => (World.cell?_of_block (a := ⟨0, j, none⟩) hb).trans (h j hj)

theorem tz_ok (x : Nat) (w : World) (hx : x < 18446744073709551616) (hT : Tab w) :
    Calls Tryd.prog 85 #[.int .u64 x] w fun e w' => e = .returned (.int .i64 (Lib.ctz 64 x)) ∧ w' = w :=
  Any7.bits_TrailingZeros64 Tryd.lays29 x hx w (fun _ => hT)

/-- A slice of ints that reads as zs, and lies in a block from base on. -/
def SlF (base : Nat) (w : World) (v : Value) (zs : List Int) : Prop := ∃ a cap pb po, v = .slice a zs.length cap ∧ Reads w a pb po zs ∧ pb < w.heap.size ∧ zs.length ≤ cap ∧ cap ≤ maxLen ∧ base ≤ pb
theorem SlF.sl {base : Nat} {w : World} {v : Value} {zs : List Int} (h : SlF base w v zs) : Sl w v zs := by
  obtain ⟨a, cap, pb, po, h1, h2, h3, h4, h5, _⟩ := h
  exact ⟨a, cap, pb, po, h1, h2, h3, h4, h5⟩
theorem SlF.keep {base : Nat} {w w' : World} {v : Value} {zs : List Int} (h : SlF base w v zs) (hk : ∀ b, base ≤ b → b < w.heap.size → w'.heap[b]? = w.heap[b]?) (hs : w.heap.size ≤ w'.heap.size) : SlF base w' v zs := by
  obtain ⟨a, cap, pb, po, h1, h2, h3, h4, h5, h6⟩ := h
  exact ⟨a, cap, pb, po, h1, h2.of_eq (hk pb h6 h3), by omega, h4, h5, h6⟩
theorem SlF.below {base : Nat} {w w' : World} {v : Value} {zs : List Int} (h : SlF base w v zs) (hb : Below w.heap.size w w') : SlF base w' v zs := h.keep (fun b _ h2 => hb.block b h2) hb.size
theorem SlF.mono {base base' : Nat} {w : World} {v : Value} {zs : List Int} (h : SlF base w v zs) (hb : base' ≤ base) : SlF base' w v zs := by
  obtain ⟨a, cap, pb, po, h1, h2, h3, h4, h5, h6⟩ := h
  exact ⟨a, cap, pb, po, h1, h2, h3, h4, h5, by omega⟩
theorem SlF.of_own {w : World} {base : Nat} {g len cap : Nat} {zs : List Int} (hl : len = zs.length) (h : w.ownsRow base 3 1 (.slice (some ⟨g, 0, none⟩) len cap) len (zs.map (Value.int .i64))) : SlF base w (.slice (some ⟨g, 0, none⟩) len cap) zs := by
  subst hl
  rcases h.2 with ⟨hv, _⟩ | ⟨g', cap', cur, hv, hge, hh, h1, h2, _⟩
  · cases hv
  · cases hv
    refine ⟨some ⟨g, 0, none⟩, cap, g, 0, rfl, ⟨fun _ => rfl, fun j hj => ?_⟩, (Array.getElem?_eq_some_iff.1 hh).1, h1, h2, hge⟩
    have h3 := h.cells (g := g) rfl j (.int .i64 (zs[j]?.getD 0)) (by simp [hj])
    rw [show (⟨g, 0, none⟩ : Addr).add j = ⟨g, j, none⟩ by unfold Addr.add; split <;> simp_all] at h3
    rw [Nat.zero_add]; exact h3
/-- A slice of ints that a function has made, and lengthens. -/
def Row (w : World) (base : Nat) (v : Value) (zs : List Int) : Prop := w.ownsRow base 3 1 v zs.length (zs.map (Value.int .i64))

/-- What a set has, in order. -/
def lst (n : Nat) (p : Nat → Bool) : List Nat := (List.range n).filter p
theorem mem_lst {n : Nat} {p : Nat → Bool} {a : Nat} : a ∈ lst n p ↔ a < n ∧ p a = true := by simp [lst]
theorem lst_len (n : Nat) (p : Nat → Bool) : (lst n p).length ≤ n := Nat.le_trans (List.length_filter_le _ _) (by simp)

set_option maxRecDepth 100000 in
set_option maxHeartbeats 2000000 in
theorem list_ok (n : Nat) (p : Nat → Bool) (w : World) (hn : n ≤ 60) (hT : Tab w) :
    Calls Tryd.prog 50 #[.int .u64 (bs p n)] w fun e w' => ∃ r, e = .returned r ∧ SlF w.heap.size w' r (li (lst n p)) ∧ Below w.heap.size w w' := by
  obtain ⟨i0, hi, hz0, hz1, hz2⟩ := info_parts info3b
  have HT := hide hT
  clear hT
  go_enter Tryd.func50, Tryd.ntmps50
  go_wp2_with fail
  refine (len_ok _ w).mono ?_
  rintro e w1 ⟨⟨c, hc, rfl⟩, rfl⟩
  go_wp2_with (first
    | (at_make; refine wpList_make_own _ rfl _ _ 22 rfl w1.heap.size 3 i0 (.int .i64 0) 1 under22b hi hz0 hz1 _ _ _ c rfl rfl rfl (by rw [hz2]; omega) (by unfold maxLen; omega) (Nat.le_refl _) ?_))
  intro w2 hown hg
  have hB2 : Below w1.heap.size w1 w2 := (Below.refl _ w1).grown hg (Nat.le_refl _) (by simp)
  have hs2 : w1.heap.size < w2.heap.size := by
    rcases hown.2 with ⟨hv, _⟩ | ⟨g', cap', cur, hv, hge, hh, _⟩
    · cases hv
    · cases hv; exact (Array.getElem?_eq_some_iff.1 hh).1
  clear hg
  go_wp2
  go_loopw [3, 4] (fun v s wr => ∃ j : Nat, ∃ g len cap : Nat, j ≤ n ∧ s = .int .u64 (bs (fun a => p a && decide (j ≤ a)) n) ∧ v = .slice (some ⟨g, 0, none⟩) len cap ∧ len = (lst j p).length ∧ wr.ownsRow w1.heap.size 3 1 (.slice (some ⟨g, 0, none⟩) len cap) len ((li (lst j p)).map (Value.int .i64)) ∧ Below w1.heap.size w1 wr) (fun _ s _ => (intOf s).toNat)
  case atStart => exact ⟨0, w1.heap.size, 0, c, Nat.zero_le _, by simp, rfl, rfl, hown, hB2⟩
  case round =>
    obtain ⟨j, g, len, cap, hj, rfl, rfl, hlen, hown, hB⟩ := hrel
    have hBs := hB.size
    have hlj := lst_len j p
    by_cases h0 : bs (fun a => p a && decide (j ≤ a)) n = 0
    · have hz := bs_zero h0
      have HE : Hid (lst n p = lst j p) := range_rest hj hz
      have h0i : ((bs (fun a => p a && decide (j ≤ a)) n : Nat) : Int) = 0 := by omega
      have HO := hide (SlF.of_own (by rw [li_len]; exact hlen) hown)
      clear hown hlen
      rw [h0i]
      go_wp2
      go_ret
      exact ⟨_, rfl, by rw [HE.out]; exact HO.out, hB⟩
    · obtain ⟨k, hkn, hpk, hno, hctz, hand⟩ := low_bit hn h0
      simp only [Bool.and_eq_true, decide_eq_true_eq] at hpk
      have hrl : lst (k + 1) p = lst j p ++ [k] := range_low hpk.2 hpk.1 hno
      have hbe : bs (fun a => (p a && decide (j ≤ a)) && decide (k < a)) n = bs (fun a => p a && decide (k + 1 ≤ a)) n := bs_ext fun a _ => by
        by_cases hka : k < a
        · have h1 : j ≤ a := by omega
          have h2 : k + 1 ≤ a := by omega
          simp [hka, h1, h2]
        · have h2 : ¬ k + 1 ≤ a := by omega
          simp [hka, h2]
      rw [hbe] at hand
      have hTx := tz_ok (bs (fun a => p a && decide (j ≤ a)) n) wr (bs_64 hn) (HT.out.below hB)
      rw [hctz] at hTx
      have hlt1 : bs (fun a => p a && decide (j ≤ a)) n < 18446744073709551616 := bs_64 hn
      have hless : bs (fun a => p a && decide (k + 1 ≤ a)) n < bs (fun a => p a && decide (j ≤ a)) n := by
        rw [← hand]
        have := Nat.and_le_right (n := bs (fun a => p a && decide (j ≤ a)) n) (m := bs (fun a => p a && decide (j ≤ a)) n - 1)
        omega
      generalize hX : bs (fun a => p a && decide (j ≤ a)) n = X at *
      generalize hY : bs (fun a => p a && decide (k + 1 ≤ a)) n = Y at *
      have hsub : IntKind.u64.wrap ((X : Int) - 1) = ((X - 1 : Nat) : Int) := by rw [IntKind.wrap_u64]; omega
      have hb : bits BinOp.and IntKind.u64 (X : Int) ((X - 1 : Nat) : Int) = (Y : Int) := by
        rw [bits_and_u64_nat X (X - 1) hlt1 (by omega), hand]
      have hX0 : ¬ (X : Int) = 0 := by omega
      have HTX := hide hTx
      have HRL := hide hrl
      have HLEN := hide hlen
      have HY := hide hY
      clear hTx hrl hlen hno hctz hand hbe hX hY
      have hown2 := hown
      go_wp2_with fail
      refine HTX.out.mono ?_
      rintro e w3 ⟨rfl, rfl⟩
      go_wp2_with (first
        | (at_builtin; refine wpList_append_own _ rfl _ _ 22 rfl w1.heap.size 3 i0 (.int .i64 0) 1 8 under22b hi hz0 hz1 hz2 rfl (by decide) _ _ _ rfl (World.ownsRow.alloc hown2 _) ⟨w3.heap.size, 0, none⟩ 1 1 [.int .i64 k] rfl rfl ?c1 ?c2 ?c3 ?c4 ?c5 ?_))
      case c1 => exact cell_one_new _ _ _
      case c2 => simp [Value.oneCell']
      case c3 => unfold maxLen; have := HLEN.out; omega
      case c4 => have := HLEN.out; omega
      case c5 => simp; omega
      intro v' w4 hown' hgrow _
      obtain ⟨g', cap', rfl⟩ := ownsRow_succ hown'
      have hB4 : Below w1.heap.size w1 w4 := (hB.alloc hBs _).grown hgrow (by simp; omega) (fun j e => owns_ge hown2 j e)
      have hown5 : w4.ownsRow w1.heap.size 3 1 (.slice (some ⟨g', 0, none⟩) (len + 1) cap') (len + 1) ((li (lst (k + 1) p)).map (Value.int .i64)) := by
        rw [HRL.out]; simpa [li] using hown'
      have HL2 := hide (show len + 1 = (lst (k + 1) p).length by rw [HRL.out, HLEN.out, List.length_append]; rfl)
      clear hown' hgrow hown2 hown
      go_wp2_with (simp only [hb])
      go_roundw
      case rel => exact ⟨k + 1, g', len + 1, cap', hkn, (by rw [HY.out]), rfl, HL2.out, hown5, hB4⟩
      case measure => simp [intOf]; omega
end Go.Proofs.YtmgengplfebmjaaDoor
