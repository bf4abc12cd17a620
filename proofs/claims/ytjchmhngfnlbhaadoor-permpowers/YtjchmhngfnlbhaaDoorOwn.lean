/- What the law's own copy of a list is, at every list that fits the machine; what Mul, Inv and Pow answer at every list, faults too. -/
import Derived.Test.YtjchmhngfnlbhaaDoorCycles
import Derived.ArgAppend
namespace Go.Proofs.YtjchmhngfnlbhaaDoor
open Go Go.RowKit Go.Shelf

theorem Sl.nil {w : World} (h0 : 0 < w.heap.size) : Sl w (.slice none 0 0) [] := ⟨none, 0, 0, 0, rfl, ⟨by simp, by simp⟩, h0, by simp, by unfold maxLen; omega⟩

set_option maxRecDepth 100000 in
set_option maxHeartbeats 2000000 in
theorem own_any (u : Value) (zs : List Int) (w : World) (hu : Sl w u zs) (hb : zs.length * 8 ≤ 140737488355328) :
    Calls Tryd.prog 9 #[u] w fun e w' => ∃ r, e = .returned r ∧ Sl w' r zs ∧ Below w.heap.size w w' := by
  obtain ⟨i0, hi, hz0, hz1, hz2⟩ := info_parts info3b
  obtain ⟨a, cap, pb, po, rfl, hr, hp, hq3, hq4⟩ := id hu
  have h0 : 0 < w.heap.size := by omega
  rcases Nat.eq_zero_or_pos zs.length with hz | hpos
  · have hz : zs = [] := List.length_eq_zero_iff.1 hz
    subst hz
    cases a with
    | none =>
      go_enter Tryd.func9, Tryd.ntmps9
      go_wp2
      go_ret
      exact ⟨_, rfl, Sl.nil h0, Below.refl _ _⟩
    | some x =>
      go_enter Tryd.func9, Tryd.ntmps9
      go_wp2
      go_ret
      exact ⟨_, rfl, Sl.nil h0, Below.refl _ _⟩
  · obtain rfl := hr.at_ hpos
    go_enter Tryd.func9, Tryd.ntmps9
    go_wp2_with (first
      | (at_builtin; refine wpList_append_grows _ rfl _ _ 22 rfl 3 i0 (.int .i64 0) 1 8 under22b hi hz0 hz1 hz2 rfl (by decide) none 0 0 [] rfl (fun _ => ⟨rfl, rfl⟩) rfl (fun b hb => by cases hb) ⟨pb, po, none⟩ zs.length cap (zs.map (Value.int .i64)) rfl (by simp) ?c1 ?c2 ?c3 ?c4 ?c5 ?_))
    case c1 =>
      intro j v hj
      rw [List.getElem?_map] at hj
      obtain ⟨z, hz, rfl⟩ := Option.map_eq_some_iff.1 hj
      have hjl := (List.getElem?_eq_some_iff.1 hz).1
      have := hr.cell j hjl
      rw [hz] at this
      rw [show (⟨pb, po, none⟩ : Addr).add j = ⟨pb, po + j, none⟩ by unfold Addr.add; split <;> simp_all]
      exact this
    case c2 => intro v hv; obtain ⟨z, _, rfl⟩ := List.mem_map.1 hv; rfl
    case c3 => omega
    case c4 => unfold maxLen; omega
    case c5 => omega
    intro v' w' hown hg
    have hB : Below w.heap.size w w' := (Below.refl _ w).grown hg (Nat.le_refl _) (by simp)
    go_wp2
    go_ret
    exact ⟨_, rfl, Sl.of_own hown (by have := hB.size; omega), hB⟩

/-- The list that goes with a fault: none where there is one. -/
def okL (c : Int) (xs : List Int) : List Int := if c = 0 then xs else []
theorem okL_zero (xs : List Int) : okL 0 xs = xs := if_pos rfl

set_option maxRecDepth 100000 in
set_option maxHeartbeats 2000000 in
theorem mul_bad (u v : Value) (xs ys : List Int) (w : World) (hu : Sl w u xs) (hv : Sl w v ys) (hf : (twof xs ys).1 ≠ 0) :
    Calls Tryd.prog 32 #[u, v] w fun e w' => e = .returned (.tuple #[.slice none 0 0, .agg #[.int .i64 (twof xs ys).1, .int .i64 (twof xs ys).2]]) ∧ Below w.heap.size w w' := by
  have hB0 : Below w.heap.size w (w.alloc (.cells #[.int .i64 0, .int .i64 0] 26)) := balloc w _
  have hu0 := hu.below hB0
  have hv0 := hv.below hB0
  have T0 := Two.new w
  have hck := checkPair_any _ _ xs ys _ hu0 hv0
  obtain ⟨c, i, hci⟩ : ∃ c i, twof xs ys = (c, i) := ⟨_, _, rfl⟩
  rw [hci] at hck hf ⊢
  obtain ⟨a, cap, pb, po, rfl, hr, hp, hq3, hq4⟩ := hu
  obtain ⟨a', cap', pb', po', rfl, hr', hp', hq3', hq4'⟩ := hv
  have hbe : (c != 0) = true := by simpa using hf
  have HCK := hide hck
  clear hci hf hu0 hv0 hck
  go_enter Tryd.func32, Tryd.ntmps32
  go_wp2_with fail
  refine HCK.out.mono ?_
  rintro e w1 ⟨rfl, hl1⟩
  have hB1 := bcat hB0 hl1 (by simp)
  have T1 := T0.below hl1
  have hs1 : w.heap.size < w1.heap.size := T1.blk.lt
  have R2 : Blk (w1.alloc (.cells #[.int .i64 c, .int .i64 i] 26)) w.heap.size 26 [.int .i64 0, .int .i64 0] := T1.blk.alloc _
  have N2 : Blk (w1.alloc (.cells #[.int .i64 c, .int .i64 i] 26)) w1.heap.size 26 [.int .i64 c, .int .i64 i] := blk0 _ _
  have hB2 := hB1.alloc hB1.size (.cells #[.int .i64 c, .int .i64 i] 26)
  obtain ⟨hc0, hc1, hf0, hf1⟩ := R2.two
  obtain ⟨hd0, hd1, hg0, hg1⟩ := N2.two
  clear hl1 hB0 T0 HCK
  go_wp2_with fail
  generalize w1.alloc (.cells #[.int .i64 c, .int .i64 i] 26) = w2 at *
  go_region
  go_wp2
  have hR3 : Blk ((w2.setCell ⟨w.heap.size, 0, none⟩ (.int .i64 c)).setCell ⟨w.heap.size, 1, none⟩ (.int .i64 i)).drew w.heap.size 26 [.int .i64 c, .int .i64 i] := (R2.set 0 _).set 1 _
  have hB3 : Below w.heap.size w ((w2.setCell ⟨w.heap.size, 0, none⟩ (.int .i64 c)).setCell ⟨w.heap.size, 1, none⟩ (.int .i64 i)).drew := bdrew ((hB2.setCell (p := ⟨w.heap.size, 0, none⟩) (by simp) _).setCell (p := ⟨w.heap.size, 1, none⟩) (by simp) _)
  generalize ((w2.setCell ⟨w.heap.size, 0, none⟩ (.int .i64 c)).setCell ⟨w.heap.size, 1, none⟩ (.int .i64 i)).drew = W at hR3 hB3 ⊢
  obtain ⟨k0, k1, _, _⟩ := hR3.two
  exact bodyPost_ret (v := .tuple #[.slice none 0 0, .agg #[.int .i64 c, .int .i64 i]]) (by simp [results, Tryd.results32, go_sem, k0, k1]) rfl ⟨rfl, hB3⟩

set_option maxRecDepth 100000 in
set_option maxHeartbeats 2000000 in
theorem inv_bad (u : Value) (zs : List Int) (w : World) (hu : Sl w u zs) (hf : (fault zs).1 ≠ 0) :
    Calls Tryd.prog 33 #[u] w fun e w' => e = .returned (.tuple #[.slice none 0 0, .agg #[.int .i64 (fault zs).1, .int .i64 (fault zs).2]]) ∧ Below w.heap.size w w' := by
  have hB0 : Below w.heap.size w (w.alloc (.cells #[.int .i64 0, .int .i64 0] 26)) := balloc w _
  have hu0 := hu.below hB0
  have T0 := Two.new w
  have hck := check_sl _ zs _ hu0
  obtain ⟨c, i, hci⟩ : ∃ c i, fault zs = (c, i) := ⟨_, _, rfl⟩
  rw [hci] at hck hf ⊢
  obtain ⟨a, cap, pb, po, rfl, hr, hp, hq3, hq4⟩ := hu
  have hbe : (c != 0) = true := by simpa using hf
  have HCK := hide hck
  clear hci hf hu0 hck
  go_enter Tryd.func33, Tryd.ntmps33
  go_wp2_with fail
  refine HCK.out.mono ?_
  rintro e w1 ⟨rfl, hl1⟩
  have hB1 := bcat hB0 hl1 (by simp)
  have T1 := T0.below hl1
  have hs1 : w.heap.size < w1.heap.size := T1.blk.lt
  have R2 : Blk (w1.alloc (.cells #[.int .i64 c, .int .i64 i] 26)) w.heap.size 26 [.int .i64 0, .int .i64 0] := T1.blk.alloc _
  have N2 : Blk (w1.alloc (.cells #[.int .i64 c, .int .i64 i] 26)) w1.heap.size 26 [.int .i64 c, .int .i64 i] := blk0 _ _
  have hB2 := hB1.alloc hB1.size (.cells #[.int .i64 c, .int .i64 i] 26)
  obtain ⟨hc0, hc1, hf0, hf1⟩ := R2.two
  obtain ⟨hd0, hd1, hg0, hg1⟩ := N2.two
  clear hl1 hB0 T0 HCK
  go_wp2_with fail
  generalize w1.alloc (.cells #[.int .i64 c, .int .i64 i] 26) = w2 at *
  go_region
  go_wp2
  have hR3 : Blk ((w2.setCell ⟨w.heap.size, 0, none⟩ (.int .i64 c)).setCell ⟨w.heap.size, 1, none⟩ (.int .i64 i)).drew w.heap.size 26 [.int .i64 c, .int .i64 i] := (R2.set 0 _).set 1 _
  have hB3 : Below w.heap.size w ((w2.setCell ⟨w.heap.size, 0, none⟩ (.int .i64 c)).setCell ⟨w.heap.size, 1, none⟩ (.int .i64 i)).drew := bdrew ((hB2.setCell (p := ⟨w.heap.size, 0, none⟩) (by simp) _).setCell (p := ⟨w.heap.size, 1, none⟩) (by simp) _)
  generalize ((w2.setCell ⟨w.heap.size, 0, none⟩ (.int .i64 c)).setCell ⟨w.heap.size, 1, none⟩ (.int .i64 i)).drew = W at hR3 hB3 ⊢
  obtain ⟨k0, k1, _, _⟩ := hR3.two
  exact bodyPost_ret (v := .tuple #[.slice none 0 0, .agg #[.int .i64 c, .int .i64 i]]) (by simp [results, Tryd.results33, go_sem, k0, k1]) rfl ⟨rfl, hB3⟩

theorem mul_any (u v : Value) (xs ys : List Int) (w : World) (hu : Sl w u xs) (hv : Sl w v ys) :
    Calls Tryd.prog 32 #[u, v] w fun e w' => ∃ r, e = .returned (.tuple #[r, .agg #[.int .i64 (twof xs ys).1, .int .i64 (twof xs ys).2]]) ∧ Sl w' r (okL (twof xs ys).1 (mulL xs ys)) ∧ Below w.heap.size w w' := by
  by_cases hf : (twof xs ys).1 = 0
  · obtain ⟨px, py, lxy, l1000⟩ := twof_zero hf
    have e1 := twof_ok px py lxy l1000
    rw [e1, okL_zero]
    exact mul_ok u v xs ys w hu hv px py lxy l1000
  · have h0 : 0 < w.heap.size := by obtain ⟨_, _, _, _, _, _, hp, _, _⟩ := hu; omega
    refine (mul_bad u v xs ys w hu hv hf).mono ?_
    rintro e w' ⟨rfl, hb⟩
    refine ⟨_, rfl, ?_, hb⟩
    unfold okL; rw [if_neg hf]
    exact Sl.nil (by have := hb.size; omega)

theorem inv_any (u : Value) (xs : List Int) (w : World) (hu : Sl w u xs) :
    Calls Tryd.prog 33 #[u] w fun e w' => ∃ r, e = .returned (.tuple #[r, .agg #[.int .i64 (fault xs).1, .int .i64 (fault xs).2]]) ∧ Sl w' r (okL (fault xs).1 (invL xs)) ∧ Below w.heap.size w w' := by
  by_cases hf : (fault xs).1 = 0
  · obtain ⟨px, l1000⟩ := fault_perm hf
    rw [fault_of_perm px l1000, okL_zero]
    exact inv_ok u xs w hu px l1000
  · have h0 : 0 < w.heap.size := by obtain ⟨_, _, _, _, _, _, hp, _, _⟩ := hu; omega
    refine (inv_bad u xs w hu hf).mono ?_
    rintro e w' ⟨rfl, hb⟩
    refine ⟨_, rfl, ?_, hb⟩
    unfold okL; rw [if_neg hf]
    exact Sl.nil (by have := hb.size; omega)
end Go.Proofs.YtjchmhngfnlbhaaDoor
