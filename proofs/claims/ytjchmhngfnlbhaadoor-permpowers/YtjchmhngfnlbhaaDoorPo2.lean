/- The statements' big numbers: DivMod and Mod of a number of one word by whatever number above nought. -/
import Derived.Test.YtjchmhngfnlbhaaDoorPo1
namespace Go.Proofs.YtjchmhngfnlbhaaDoor
open Go Go.RowKit

theorem sg_neg {b : Bool} {k : Nat} (h : sg b k < 0) : sg b k = -(k : Int) ∧ 0 < k := by
  unfold sg at *
  cases b with
  | false => simp at h; omega
  | true => simp at *; omega
theorem sg_zero {b : Bool} {k : Nat} : sg b k = 0 ↔ k = 0 := by
  unfold sg; cases b <;> simp

set_option maxRecDepth 100000 in
set_option maxHeartbeats 8000000 in
theorem divMod_z (bz bm bx by_ m m' n : Nat) (x : Int) (z1 z2 r1 r2 : Value) (w : World) (hZ : Blk w bz 57 [z1, z2]) (hR : Blk w bm 57 [r1, r2]) (hne : bz ≠ bm) (hx : BigZ w bx x m) (hy : BigZ w by_ (n : Int) m') (hn : 0 < n) (hxs : x.natAbs < 4294967296) (hm : m' ≤ 1000000) :
    Calls Tryd.prog 66 #[.pointer (some ⟨bz, 0, none⟩), .pointer (some ⟨bx, 0, none⟩), .pointer (some ⟨by_, 0, none⟩), .pointer (some ⟨bm, 0, none⟩)] w fun e w' => e = .returned (.tuple #[.pointer (some ⟨bz, 0, none⟩), .pointer (some ⟨bm, 0, none⟩)]) ∧ (∃ r : Int, BigZ w' bm r (m' + 4) ∧ 0 ≤ r ∧ (r = 0 ↔ n ∣ x.natAbs)) ∧ ∀ B, B ≤ bz → B ≤ bm → B ≤ w.heap.size → Below B w w' := by
  have hzl := hZ.lt
  have hrl := hR.lt
  have hyl := hy.lt
  have hb1 : Below w.heap.size w (w.alloc (.cells #[.bool false, .slice none 0 0] 57)) := balloc w _
  have HZS := hide (zset_ok w.heap.size by_ m' (n : Int) _ _ _ (World.alloc_heap_new w (.cells #[.bool false, .slice none 0 0] 57)) (hy.below hb1) (by omega) (by omega))
  have HZ := hide (And.intro hZ (And.intro hR (And.intro hx hy)))
  have HB1 := hide hb1
  have HDV : Hid (n ∣ x.natAbs ↔ x.natAbs % n = 0) := hide (Nat.dvd_iff_mod_eq_zero)
  have HXS := hide hxs
  clear hZ hR hx hy hb1 hxs
  go_enter Tryd.func66, Tryd.ntmps66
  go_wp2_with fail
  refine HZS.out.mono ?_
  rintro e w1 ⟨rfl, hd1, hg1⟩
  have hB1 : Below w.heap.size w w1 := HB1.out.grown hg1 (by simp) (fun j e => by cases e; exact Nat.le_refl _)
  obtain ⟨hZ0, hR0, hx0, hy0⟩ := HZ.out
  have hZ1 : Blk w1 bz 57 [z1, z2] := hZ0.of_eq (hB1.block _ hzl)
  have hR1 : Blk w1 bm 57 [r1, r2] := hR0.of_eq (hB1.block _ hrl)
  have HQ := hide (quoRem_z bz bm bx by_ m m' n x z1 z2 r1 r2 w1 hZ1 hR1 hne (hx0.below hB1) (hy0.below hB1) hn HXS.out hm)
  clear hZ0 hR0 hx0 hy0 hg1 HZ HZS HB1
  go_wp2_with fail
  refine HQ.out.mono ?_
  rintro e w2 ⟨rfl, hz2, hr2, hf2, ho2⟩
  have hd2 := ho2 _ _ _ (by omega) (by omega) hd1
  have hB2 : ∀ B, B ≤ bz → B ≤ bm → B ≤ w.heap.size → Below B w w2 := fun B c1 c2 c3 => (hB1.mono c3).trans (hf2 B c1 c2 (Nat.le_trans c3 hB1.size))
  have hs2 : w.heap.size < w2.heap.size := hd2.lt
  clear HQ hf2 ho2 hZ1 hR1
  obtain ⟨am, lm, cm, hM, _, _⟩ := hr2.size0
  have cm0 := hM.cell 0
  by_cases hneg : sg (decide (x < 0)) (x.natAbs % n) < 0
  · obtain ⟨hv, hpos⟩ := sg_neg hneg
    have hlt : x.natAbs % n < n := Nat.mod_lt _ hn
    have cm0' : w2.cell? ⟨bm, 0, none⟩ = some (.bool true) := by rw [← decide_eq_true hneg]; exact cm0
    obtain ⟨ad, ld, cd, hD, _, _⟩ := hd2.size0
    have cd0 := hD.cell 0
    have cd0' : w2.cell? ⟨w.heap.size, 0, none⟩ = some (.bool false) := by rw [← decide_eq_false (show ¬ (n : Int) < 0 by omega)]; exact cd0
    have HV := hide (And.intro hv (And.intro hpos hlt))
    clear cm0 cd0 hM hD hv hneg hpos hlt
    go_wp2_with fail
    refine (newInt_ok 1 w2 (by omega) (by omega)).mono ?_
    rintro e w3 ⟨⟨bs, rfl, hbs, hs3⟩, hb3⟩
    have hz3 := hz2.below hb3
    have hr3 := hr2.below hb3
    have hd3 := hd2.below hb3
    have hB3 : ∀ B, B ≤ bz → B ≤ bm → B ≤ w.heap.size → Below B w w3 := fun B c1 c2 c3 => (hB2 B c1 c2 c3).trans (hb3.mono (by omega))
    obtain ⟨zv, zs, hZ3, _⟩ := hz3.ex
    have HS := hide (zsub_ok bz bz bs 3 2 _ 1 _ _ w3 hZ3 hz3 hs3 (by omega) (by omega))
    go_wp2_with fail
    refine HS.out.mono ?_
    rintro e w4 ⟨rfl, hz4, hg4⟩
    have hr4 := hr3.other hZ3 hg4 (by omega)
    have hd4 := hd3.other hZ3 hg4 (by omega)
    have hB4 : ∀ B, B ≤ bz → B ≤ bm → B ≤ w.heap.size → Below B w w4 := fun B c1 c2 c3 => (hB3 B c1 c2 c3).grown hg4 (by have := (hB3 B c1 c2 c3).size; omega) (fun j e => by cases e; exact c1)
    obtain ⟨rv, rs, hR4, _⟩ := hr4.ex
    have HA := hide (zadd_ok bm bm w.heap.size 3 m' _ (n : Int) _ _ w4 hR4 hr4 hd4 (by omega) (by omega))
    clear HS hZ3 hz3 hr3 hd3
    go_wp2_with fail
    refine HA.out.mono ?_
    rintro e w5 ⟨rfl, hr5, hg5⟩
    have hB5 : ∀ B, B ≤ bz → B ≤ bm → B ≤ w.heap.size → Below B w w5 := fun B c1 c2 c3 => (hB4 B c1 c2 c3).grown hg5 (by have := (hB4 B c1 c2 c3).size; omega) (fun j e => by cases e; exact c2)
    obtain ⟨hv, hpos, hlt⟩ := HV.out
    rw [hv] at hr5
    have HF : Hid (∃ r : Int, BigZ w5 bm r (m' + 4) ∧ 0 ≤ r ∧ (r = 0 ↔ n ∣ x.natAbs)) := hide ⟨_, hr5.mono (by omega), by omega, by rw [HDV.out]; omega⟩
    have HB5 := hide hB5
    clear hr5 hv hpos hlt hB5 hB4 hB3 hB2
    go_wp2
    go_ret2
    exact ⟨rfl, HF.out, HB5.out⟩
  · have cm0' : w2.cell? ⟨bm, 0, none⟩ = some (.bool false) := by rw [← decide_eq_false hneg]; exact cm0
    have HF : Hid (∃ r : Int, BigZ w2 bm r (m' + 4) ∧ 0 ≤ r ∧ (r = 0 ↔ n ∣ x.natAbs)) := hide ⟨_, hr2.mono (by omega), by omega, by rw [HDV.out]; exact sg_zero⟩
    have HB2 := hide hB2
    clear cm0 hM hneg hB2 hr2 hz2
    go_wp2
    go_ret2
    exact ⟨rfl, HF.out, HB2.out⟩

set_option maxRecDepth 100000 in
set_option maxHeartbeats 4000000 in
theorem mod_z (bm bx by_ m m' n : Nat) (x : Int) (r1 r2 : Value) (w : World) (hR : Blk w bm 57 [r1, r2]) (hx : BigZ w bx x m) (hy : BigZ w by_ (n : Int) m') (hn : 0 < n) (hxs : x.natAbs < 4294967296) (hm : m' ≤ 1000000) :
    Calls Tryd.prog 38 #[.pointer (some ⟨bm, 0, none⟩), .pointer (some ⟨bx, 0, none⟩), .pointer (some ⟨by_, 0, none⟩)] w fun e w' => e = .returned (.pointer (some ⟨bm, 0, none⟩)) ∧ (∃ r : Int, BigZ w' bm r (m' + 4) ∧ 0 ≤ r ∧ (r = 0 ↔ n ∣ x.natAbs)) ∧ ∀ B, B ≤ bm → B ≤ w.heap.size → Below B w w' := by
  have hrl := hR.lt
  have hb1 : Below w.heap.size w (w.alloc (.cells #[.bool false, .slice none 0 0] 57)) := balloc w _
  have HD := hide (divMod_z w.heap.size bm bx by_ m m' n x _ _ _ _ _ (World.alloc_heap_new w (.cells #[.bool false, .slice none 0 0] 57)) (hR.of_eq (hb1.block _ hrl)) (by omega) (hx.below hb1) (hy.below hb1) hn hxs hm)
  have HB1 := hide hb1
  clear hR hx hy hb1 hxs
  go_enter Tryd.func38, Tryd.ntmps38
  go_wp2_with fail
  refine HD.out.mono ?_
  rintro e w1 ⟨rfl, h1, h2⟩
  have HF := hide h1
  have HB : Hid (∀ B, B ≤ bm → B ≤ w.heap.size → Below B w w1) := hide fun B c1 c2 => (HB1.out.mono c2).trans (h2 B c2 c1 (by simp; omega))
  clear h1 h2
  go_wp2
  go_ret
  exact ⟨rfl, HF.out, HB.out⟩
end Go.Proofs.YtjchmhngfnlbhaaDoor
