/- What package sub's made makes: what the makers make, all products of them. What package sub's opened answers: at every table. What is wrong with a list as a set of a group of n things: the program's answer and the document's. What package sub's openedSet answers: at every table and every list. Primes and powers: package sylow's isPrime and isPower; the law's isPrime and powerIn. What package sylow's opened answers. What package sub's Made and Is answer, and its openedSubgroup: at every table and every list. Condition: the library's table of places lies as its text lays it. How many bits a number of 64 bits has, counted as math/bits.OnesCount64 does: pairs of fields are added, side by side. Pure mathematics. The last steps of the count of bits: eight bytes are added into the lowest. The count of a set's bits is how many things it has. math/bits.OnesCount64 and (set.Set).Len: how many things a set has. What the document's ListFault and SetFault tell. What package sub's all, central and commutator answer, and Central, Centre: at every table and every list. Condition: the library's table of places lies as its text lays it. What the document's Has, Those, Parted, Both and Stays answer. -/
import Derived.Test.YtolbpjjjoafkkaaDoorZ2
import Derived.Test.YtolbpjjjoafkkaaDoorZ1
namespace Go.Proofs.YtolbpjjjoafkkaaDoor
open Go Go.RowKit

/-- What the set q makes in the group. -/
abbrev Mkd (n : Nat) (zs : List Int) (e : Nat) (q : Nat → Bool) (a : Nat) : Prop := Fin.Gen (List.range n) (tm n zs) e (fun x => q x = true) a
/-- How far it has come: of the things ahead of k all products with makers are found, of the one at k those with the first j makers. -/
structure Inv (n : Nat) (zs : List Int) (e : Nat) (q : Nat → Bool) (F : List Nat) (k j : Nat) : Prop where
  nd : F.Nodup
  mem : ∀ x, x ∈ F → x < n ∧ Mkd n zs e q x
  one : e ∈ F
  done : ∀ i, i < k → ∀ y, F[i]? = some y → ∀ x, x < n → q x = true → tm n zs y x ∈ F
  part : ∀ y, F[k]? = some y → ∀ i, i < j → ∀ x, (lst n q)[i]? = some x → tm n zs y x ∈ F
theorem Inv.start {n : Nat} {zs : List Int} {e : Nat} {q : Nat → Bool} (g : IsGrp n zs e) : Inv n zs e q [e] 0 0 :=
  ⟨by simp, fun x hx => by simp at hx; subst hx; exact ⟨g.elt, (Fin.Gen.sg _).one⟩, by simp, fun i hi => by omega, fun _ _ i hi => by omega⟩
theorem Inv.step {n : Nat} {zs : List Int} {e : Nat} {q : Nat → Bool} {F : List Nat} {k j x y : Nat} (g : IsGrp n zs e) (h : Inv n zs e q F k j) (hy : F[k]? = some y) (hx : (lst n q)[j]? = some x) :
    Inv n zs e q (if tm n zs y x ∈ F then F else F ++ [tm n zs y x]) k (j + 1) := by
  have hkl := (List.getElem?_eq_some_iff.1 hy).1
  have hyF : y ∈ F := List.mem_of_getElem? hy
  have hxl := mem_lst.1 (List.mem_of_getElem? hx)
  obtain ⟨hyn, hyg⟩ := h.mem y hyF
  have hsub : ∀ z, z ∈ F → z ∈ (if tm n zs y x ∈ F then F else F ++ [tm n zs y x]) := fun z hz => by split <;> simp [hz]
  have hnew : tm n zs y x ∈ (if tm n zs y x ∈ F then F else F ++ [tm n zs y x]) := by split <;> simp_all
  have hget : ∀ i, i < F.length → (if tm n zs y x ∈ F then F else F ++ [tm n zs y x])[i]? = F[i]? := fun i hi => by
    split
    · rfl
    · rw [List.getElem?_append_left hi]
  refine ⟨?_, ?_, hsub _ h.one, ?_, ?_⟩
  · split
    · exact h.nd
    · rename_i hn
      exact List.nodup_append.2 ⟨h.nd, by simp, fun a ha b hb => by simp at hb; subst hb; exact fun e => hn (e ▸ ha)⟩
  · intro z hz
    have : z ∈ F ∨ z = tm n zs y x := by split at hz <;> simp_all
    rcases this with h1 | rfl
    · exact h.mem z h1
    · exact ⟨tm_lt g.tab hyn hxl.1, (Fin.Gen.sg _).mul _ _ (List.mem_range.2 hyn) (List.mem_range.2 hxl.1) hyg (Fin.Gen.base (List.mem_range.2 hxl.1) hxl.2)⟩
  · intro i hi z hz a ha hq
    rw [hget i (by omega)] at hz
    exact hsub _ (h.done i hi z hz a ha hq)
  · intro z hz i hi a ha
    rw [hget k hkl, hy] at hz
    obtain rfl := Option.some.inj hz
    by_cases hij : i = j
    · subst hij
      rw [hx] at ha
      obtain rfl := Option.some.inj ha
      exact hnew
    · exact hsub _ (h.part y hy i (by omega) a ha)
theorem Inv.next {n : Nat} {zs : List Int} {e : Nat} {q : Nat → Bool} {F : List Nat} {k j : Nat} (h : Inv n zs e q F k j) (hj : (lst n q).length ≤ j) : Inv n zs e q F (k + 1) 0 := by
  refine ⟨h.nd, h.mem, h.one, ?_, fun _ _ i hi => by omega⟩
  intro i hi y hy x hx hq
  by_cases hik : i = k
  · subst hik
    obtain ⟨t, ht⟩ := List.mem_iff_getElem?.1 (mem_lst.2 ⟨hx, hq⟩)
    exact h.part y hy t (by have := (List.getElem?_eq_some_iff.1 ht).1; omega) x ht
  · exact h.done i (by omega) y hy x hx hq
theorem Inv.fin {n : Nat} {zs : List Int} {e : Nat} {q : Nat → Bool} {F : List Nat} {k j : Nat} (g : IsGrp n zs e) (h : Inv n zs e q F k j) (hk : F.length ≤ k) : ∀ a, a < n → (a ∈ F ↔ Mkd n zs e q a) := by
  intro a ha
  refine ⟨fun hm => (h.mem a hm).2, fun hg => ?_⟩
  refine closed_gen (P := fun z => z ∈ F) (grp_fg g) h.one (fun y x _ hx hy hX => ?_) (List.mem_range.2 ha) hg
  obtain ⟨t, ht⟩ := List.mem_iff_getElem?.1 hy
  exact h.done t (by have := (List.getElem?_eq_some_iff.1 ht).1; omega) y ht x (List.mem_range.1 hx) hX
theorem Inv.len {n : Nat} {zs : List Int} {e : Nat} {q : Nat → Bool} {F : List Nat} {k j : Nat} (h : Inv n zs e q F k j) : F.length ≤ n := nodup_fits h.nd (fun x hx => (h.mem x hx).1)
theorem take_len (F : List Nat) (a : Nat) : F.length ≤ (if a ∈ F then F else F ++ [a]).length := by split <;> simp
theorem take_get {F : List Nat} {k y : Nat} (a : Nat) (h : F[k]? = some y) : (if a ∈ F then F else F ++ [a])[k]? = some y := by
  split
  · exact h
  · rw [List.getElem?_append_left (List.getElem?_eq_some_iff.1 h).1]; exact h

set_option maxRecDepth 100000 in
set_option maxHeartbeats 4000000 in
theorem made_ok (n : Nat) (v u : Value) (zs : List Int) (e : Nat) (q p : Nat → Bool) (w : World) (hG : GA w n v e u zs) (hT : Tab w) (hp : ∀ a, a < n → (p a = true ↔ Mkd n zs e q a)) :
    Calls Tryd.prog 71 #[.agg #[.int .i64 n, v, .int .i64 e, u], .int .u64 (bs q n)] w fun x w' => x = .returned (.int .u64 (bs p n)) ∧ Below w.heap.size w w' := by
  have hn := hG.le
  have hgrp := hG.grp
  have helt := hgrp.elt
  obtain ⟨w1, hw1⟩ : ∃ w1, w1 = ((w.alloc (.cells #[.int .i64 n, v, .int .i64 e, u] 64)).alloc (.cells #[.int .u64 0] 70)).alloc (.cells #[.slice none 0 0] 22) := ⟨_, rfl⟩
  have hB1 : Below w.heap.size w w1 := by
    rw [hw1]
    exact (((balloc w _).alloc (by simp) _).alloc (by simp; omega) _)
  have hz1 : w1.heap.size = w.heap.size + 3 := by rw [hw1]; simp
  have hX4 : Box4 w1 w.heap.size n e v u := by rw [hw1]; exact ⟨((blk4 _ _ _ _).alloc _).alloc _⟩
  have hXs : Boxed w1 (w.heap.size + 1) 70 (.int .u64 0) := by
    rw [hw1]
    have := (Boxed.new (w.alloc (.cells #[.int .i64 n, v, .int .i64 e, u] 64)) 70 (.int .u64 0)).alloc (.cells #[.slice none 0 0] 22)
    simpa using this
  have hXf : Boxed w1 (w.heap.size + 1 + 1) 22 (.slice none 0 0) := by
    rw [hw1]
    have := Boxed.new ((w.alloc (.cells #[.int .i64 n, v, .int .i64 e, u] 64)).alloc (.cells #[.int .u64 0] 70)) 22 (.slice none 0 0)
    simpa using this
  have HL := hide (list_ok n q w1 hn (hT.below hB1))
  obtain ⟨c0, c1, c2, c3⟩ := hX4.cells
  have HZ := hide hz1
  clear hz1
  go_enter Tryd.func71, Tryd.ntmps71
  go_wp2_with fail
  rw [← hw1]
  clear hw1
  refine HL.out.mono ?_
  rintro e1 w3 ⟨mk, rfl, hmk, hb3⟩
  have hB3 := bcat hB1 hb3 hB1.size
  have hX4 := hX4.below hb3
  have hXs := Boxed.below hXs hb3
  have hXf := Boxed.below hXf hb3
  have hG3 := hG.below hB3
  have HZ3 := hide (show w.heap.size + 3 ≤ w3.heap.size by rw [← HZ.out]; exact hb3.size)
  have hF0 : Fnd w3 w3.heap.size (w.heap.size + 1) (w.heap.size + 1 + 1) n [] := ⟨by simpa [bs_none] using hXs, ⟨_, hXf, World.ownsRow_nil _ _ _ _⟩, by omega, by have := HZ3.out; omega, by have := HZ3.out; omega⟩
  have HT0 := hide (take_ok w3.heap.size (w.heap.size + 1) (w.heap.size + 1 + 1) n e [] w3 hF0 (Nat.le_refl _) hn helt (by simp))
  obtain ⟨c0, c1, c2, c3⟩ := hX4.cells
  obtain ⟨ma, mcap, mpb, mpo, rfl, hmr, hmp, hm3, hm4, hmb⟩ := hmk
  rw [li_len] at hm3
  have HMB := hide (show w.heap.size + 3 ≤ mpb by rw [← HZ.out]; exact hmb)
  have HMR := hide hmr
  have hml := lst_len n q
  rw [li_len]
  have HLen := hide (li_len (lst n q))
  clear hmr hmb hF0 hXs hXf HL HZ hm4
  go_wp2_with fail
  refine HT0.out.mono ?_
  rintro e2 w4 ⟨rfl, hF4, hC4⟩
  have hF4 : Fnd w4 w3.heap.size (w.heap.size + 1) (w.heap.size + 1 + 1) n [e] := by simpa using hF4
  have hI4 : Inv n zs e q [e] 0 0 := Inv.start hgrp
  clear HT0 c0 c1 c2 c3
  go_wp2
  go_loopw [9] (fun i wr => ∃ (k : Nat) (F : List Nat), i = .int .i64 k ∧ k ≤ F.length ∧ Fnd wr w3.heap.size (w.heap.size + 1) (w.heap.size + 1 + 1) n F ∧ Inv n zs e q F k 0 ∧ Chg w3.heap.size (w.heap.size + 1) (w.heap.size + 1 + 1) w3 wr) (fun i _ => n - (intOf i).toNat)
  case atStart => exact ⟨0, [e], rfl, by simp, hF4, hI4, hC4⟩
  case round =>
    obtain ⟨k, F, rfl, hk, hF, hI, hC⟩ := hrel
    have hFl := hI.len
    obtain ⟨fv, hfb, hrow⟩ := hF.fnd
    obtain ⟨fa, fcap, rfl⟩ := own_slice hrow
    have hfc := hfb.cell
    have hsc := hF.sub.cell
    clear hfb hrow
    by_cases hlt : k < F.length
    · obtain ⟨y, hy⟩ : ∃ y, F[k]? = some y := ⟨F[k], List.getElem?_eq_getElem hlt⟩
      have HY := hide hy
      clear hy
      go_wp2
      clear hsc hfc
      go_loopw [27] (fun i wr => ∃ (j : Nat) (F' : List Nat), i = .int .i64 j ∧ j ≤ (lst n q).length ∧ F'[k]? = some y ∧ Fnd wr w3.heap.size (w.heap.size + 1) (w.heap.size + 1 + 1) n F' ∧ Inv n zs e q F' k j ∧ Chg w3.heap.size (w.heap.size + 1) (w.heap.size + 1 + 1) w3 wr) (fun i _ => (lst n q).length - (intOf i).toNat)
      case atStart => exact ⟨0, F, rfl, by omega, HY.out, hF, hI, hC⟩
      case round =>
        obtain ⟨j, F', rfl, hj, hy', hF', hI', hC'⟩ := hrel
        clear hF hI hC
        have hFl' := hI'.len
        by_cases hltj : j < (lst n q).length
        · obtain ⟨x, hx⟩ : ∃ x, (lst n q)[j]? = some x := ⟨(lst n q)[j], List.getElem?_eq_getElem hltj⟩
          have hxl := mem_lst.1 (List.mem_of_getElem? hx)
          obtain ⟨hyn, _⟩ := hI'.mem y (List.mem_of_getElem? hy')
          have hkl := (List.getElem?_eq_some_iff.1 hy').1
          have hBw : Below w.heap.size w wr := by
            have h1 := hC'.below (g := w.heap.size) (by omega) (by omega) (by have := HZ3.out; omega)
            exact hB3.trans h1
          have hmc : wr.cell? ⟨mpb, mpo + j, none⟩ = some (.int .i64 x) := by
            have h1 := HMR.out.cell j (by rw [HLen.out]; exact hltj)
            rw [li_get hltj, (List.getElem?_eq_some_iff.1 hx).2] at h1
            rw [← h1]
            exact World.cell?_of_block (a := ⟨mpb, mpo + j, none⟩) (hC'.block mpb hmp (by have := HMB.out; omega) (by have := HMB.out; omega))
          obtain rfl := HMR.out.at_ (by rw [HLen.out]; omega)
          have hX4' : Box4 wr w.heap.size n e v u := ⟨(hX4.blk).of_eq (hC'.block _ (by have := HZ3.out; omega) (by omega) (by omega))⟩
          have hGr := hG.below hBw
          obtain ⟨fv', hfb', hrow'⟩ := hF'.fnd
          have hsl := Sl.of_own (base := w3.heap.size) (v := fv') (zs := li F') (by rw [li_len]; exact hrow') (Nat.lt_of_le_of_lt (Nat.zero_le _) hfb'.lt)
          obtain ⟨fa', fcap', fpb, fpo, rfl, hfr, hfp, hf3, hf4⟩ := hsl
          have hfk : wr.cell? ⟨fpb, fpo + k, none⟩ = some (.int .i64 y) := by
            have h1 := hfr.cell k (by rw [li_len]; exact hkl)
            rw [li_get hkl, (List.getElem?_eq_some_iff.1 hy').2] at h1
            exact h1
          obtain rfl := hfr.at_ (by rw [li_len]; omega)
          have hfc' := hfb'.cell
          rw [li_len] at hfc' hf3 hfb' hrow'
          obtain ⟨c0, c1, c2, c3⟩ := hX4'.cells
          have HP := hide (prd_ok n v u zs e y x wr.drew hgrp.tab (hGr.mul.below (bdrew (Below.refl _ wr))) hyn hxl.1)
          have htl := tm_lt hgrp.tab hyn hxl.1
          have HTK := hide (fun W (h : Below wr.heap.size wr W) => take_ok w3.heap.size (w.heap.size + 1) (w.heap.size + 1 + 1) n (tm n zs y x) F' W (hF'.below h) (Nat.le_trans hC'.size h.size) hn htl (by omega))
          have HST := hide (Inv.step hgrp hI' hy' hx)
          have HGT := hide (take_get (tm n zs y x) hy')
          have HC' := hide hC'
          clear hfb' hrow' hfr hF' hI' hX4' hGr hx hy' hBw hC'
          generalize tm n zs y x = t at *
          have hkF : (k : Int) < (F'.length : Int) := by omega
          go_wp2_with fail
          go_region_with (first
            | (go_at_call 103; refine HP.out.mono ?_; rintro e8 w8 ⟨rfl, hb8⟩; have hb9 : Below wr.heap.size wr w8 := ⟨hb8.os, hb8.tape, hb8.output, hb8.size, hb8.block⟩)
            | (go_at_call 100; refine (HTK.out _ hb9).mono ?_; rintro e9 w9 ⟨rfl, hF9, hC9⟩))
          all_goals (
            have hC10 := (HC'.out.trans (Chg.of_below hb9 HC'.out.size)).trans hC9
            go_wp2
            go_roundw
            case rel => exact ⟨j + 1, _, by go_num, by omega, HGT.out, hF9, HST.out, hC10⟩
            case measure => simp [intOf]; omega)
        · have HN := hide (hI'.next (by omega))
          have HL2 := hide (List.getElem?_eq_some_iff.1 hy').1
          go_wp2
          go_roundw
          case rel => exact ⟨k + 1, F', by go_num, HL2.out, hF', HN.out, hC'⟩
          case measure => simp [intOf]; omega
    · have HE := hide (show bs (fun a => decide (a ∈ F)) n = bs p n from bs_ext fun a ha => by
        rw [Bool.eq_iff_iff, decide_eq_true_eq, hI.fin hgrp (by omega) a ha, hp a ha])
      have HB := hide (hB3.trans (hC.below (g := w.heap.size) (by omega) (by omega) (by have := HZ3.out; omega)))
      go_wp2
      go_ret
      exact ⟨by rw [← HE.out]; rfl, HB.out⟩
end Go.Proofs.YtolbpjjjoafkkaaDoor

namespace Go.Proofs.YtolbpjjjoafkkaaDoor
open Go Go.RowKit

theorem SlF.of_blk {base : Nat} {w : World} {g n : Nat} {zs : List Int} (h : Blk w g 3 (zs.map (Value.int .i64))) (hn : n = zs.length) (hl : zs.length ≤ 1000000) (hb : base ≤ g) : SlF base w (.slice (some ⟨g, 0, none⟩) n n) zs := by
  subst hn
  refine ⟨some ⟨g, 0, none⟩, zs.length, g, 0, rfl, ⟨fun _ => rfl, fun j hj => ?_⟩, h.lt, Nat.le_refl _, by unfold maxLen; omega, hb⟩
  rw [Nat.zero_add]; exact h.int hj
/-- Six stores, into a group and a fault that a function answers. -/
theorem put6 {W w : World} {x y z t a b : Value} (hG : Blk W (w.heap.size + 1) 64 [x, y, z, t]) (hR : Blk W (w.heap.size + 1 + 1) 27 [a, b]) (hB : Below w.heap.size w W) (n v e u c d : Value) :
    ∃ W', W' = (((((W.setCell ⟨w.heap.size + 1, 0, none⟩ n).setCell ⟨w.heap.size + 1, 1, none⟩ v).setCell ⟨w.heap.size + 1, 2, none⟩ e).setCell ⟨w.heap.size + 1, 3, none⟩ u).setCell ⟨w.heap.size + 1 + 1, 0, none⟩ c).setCell ⟨w.heap.size + 1 + 1, 1, none⟩ d ∧
      Blk W' (w.heap.size + 1) 64 [n, v, e, u] ∧ Blk W' (w.heap.size + 1 + 1) 27 [c, d] ∧ Below w.heap.size w W' ∧ W'.heap.size = W.heap.size ∧ ∀ k, w.heap.size + 3 ≤ k → W'.heap[k]? = W.heap[k]? := by
  refine ⟨_, rfl, ?_, ?_, ?_, by simp [World.setCell], ?_⟩
  · exact (((((hG.set 0 n).set 1 v).set 2 e).set 3 u).other (p := ⟨w.heap.size + 1 + 1, 0, none⟩) (by simp) c).other (p := ⟨w.heap.size + 1 + 1, 1, none⟩) (by simp) d
  · exact ((((((hR.other (p := ⟨w.heap.size + 1, 0, none⟩) (by simp) n).other (p := ⟨w.heap.size + 1, 1, none⟩) (by simp) v).other (p := ⟨w.heap.size + 1, 2, none⟩) (by simp) e).other (p := ⟨w.heap.size + 1, 3, none⟩) (by simp) u)).set 0 c).set 1 d
  · exact (((((hB.setCell (p := ⟨w.heap.size + 1, 0, none⟩) (by simp) n).setCell (p := ⟨w.heap.size + 1, 1, none⟩) (by simp) v).setCell (p := ⟨w.heap.size + 1, 2, none⟩) (by simp) e).setCell (p := ⟨w.heap.size + 1, 3, none⟩) (by simp) u).setCell (p := ⟨w.heap.size + 1 + 1, 0, none⟩) (by simp; omega) c).setCell (p := ⟨w.heap.size + 1 + 1, 1, none⟩) (by simp; omega) d
  · intro k hk
    rw [Below.heap_setCell _ _ _ k (by simp; omega), Below.heap_setCell _ _ _ k (by simp; omega), Below.heap_setCell _ _ _ k (by simp; omega), Below.heap_setCell _ _ _ k (by simp; omega), Below.heap_setCell _ _ _ k (by simp; omega), Below.heap_setCell _ _ _ k (by simp; omega)]
/-- The value of no group. -/
def zg : Value := .agg #[.int .i64 0, .slice none 0 0, .int .i64 0, .slice none 0 0]
theorem Blk.self4 {W : World} {b : Nat} {T : TypeId} {x y z t : Value} (h : Blk W b T [x, y, z, t]) : W.setCell ⟨b, 0, none⟩ x = W ∧ W.setCell ⟨b, 1, none⟩ y = W ∧ W.setCell ⟨b, 2, none⟩ z = W ∧ W.setCell ⟨b, 3, none⟩ t = W :=
  ⟨setCell_self h (by simp), setCell_self h (by simp), setCell_self h (by simp), setCell_self h (by simp)⟩
/-- A block of four cells, with all that the walk asks of it. -/
structure Four (W : World) (b : Nat) (x y z t : Value) : Prop where
  blk : Blk W b 64 [x, y, z, t]
  c0 : W.cell? ⟨b, 0, none⟩ = some x
  c1 : W.cell? ⟨b, 1, none⟩ = some y
  c2 : W.cell? ⟨b, 2, none⟩ = some z
  c3 : W.cell? ⟨b, 3, none⟩ = some t
  f0 : W.frozen? ⟨b, 0, none⟩ = false
  f1 : W.frozen? ⟨b, 1, none⟩ = false
  f2 : W.frozen? ⟨b, 2, none⟩ = false
  f3 : W.frozen? ⟨b, 3, none⟩ = false
  s0 : W.setCell ⟨b, 0, none⟩ x = W
  s1 : W.setCell ⟨b, 1, none⟩ y = W
  s2 : W.setCell ⟨b, 2, none⟩ z = W
  s3 : W.setCell ⟨b, 3, none⟩ t = W
theorem Four.mk' {W : World} {b : Nat} {x y z t : Value} (h : Blk W b 64 [x, y, z, t]) : Four W b x y z t :=
  ⟨h, h.cell 0, h.cell 1, h.cell 2, h.cell 3, h.frozen 0, h.frozen 1, h.frozen 2, h.frozen 3, h.self4.1, h.self4.2.1, h.self4.2.2.1, h.self4.2.2.2⟩
/-- What lies where a function begins that takes a table and answers a group and a fault. -/
structure Beg4 (w w0 : World) (N : Int) (v : Value) : Prop where
  eq : w0 = ((w.alloc (.cells #[.int .i64 N, v] 24)).alloc (.cells #[.int .i64 0, .slice none 0 0, .int .i64 0, .slice none 0 0] 64)).alloc (.cells #[.int .i64 0, .int .i64 0] 27)
  bel : Below w.heap.size w w0
  box : BoxG w0 w.heap.size N v
  grp : Blk w0 (w.heap.size + 1) 64 [.int .i64 0, .slice none 0 0, .int .i64 0, .slice none 0 0]
  res : Blk w0 (w.heap.size + 1 + 1) 27 [.int .i64 0, .int .i64 0]
  size : w0.heap.size = w.heap.size + 3
theorem Beg4.new (w : World) (N : Int) (v : Value) : ∃ w0, Beg4 w w0 N v := by
  refine ⟨_, rfl, ((balloc w _).alloc (by simp) _).alloc (by simp; omega) _, ((blk0 _ _).alloc _).alloc _, ?_, ?_, by simp⟩
  · have := (blk4 (w := w.alloc (.cells #[.int .i64 N, v] 24)) (T := 64) (.int .i64 0) (.slice none 0 0) (.int .i64 0) (.slice none 0 0)).alloc (.cells #[.int .i64 0, .int .i64 0] 27)
    rw [World.size_alloc] at this; exact this
  · have := Two.new ((w.alloc (.cells #[.int .i64 N, v] 24)).alloc (.cells #[.int .i64 0, .slice none 0 0, .int .i64 0, .slice none 0 0] 64))
    rw [World.size_alloc, World.size_alloc] at this; exact this.blk

set_option maxRecDepth 100000 in
set_option maxHeartbeats 4000000 in
theorem opened_bad (N : Int) (v : Value) (zs : List Int) (w : World) (hv : Sl w v zs) (hc : (gfault N zs).1 ≠ 0) :
    Calls Tryd.prog 86 #[.agg #[.int .i64 N, v]] w fun x w' => x = .returned (.tuple #[.agg #[.int .i64 0, .slice none 0 0, .int .i64 0, .slice none 0 0], .agg #[.int .i64 (gfault N zs).1, .int .i64 (gfault N zs).2]]) ∧ Below w.heap.size w w' := by
  obtain ⟨w0, BG⟩ := Beg4.new w N v
  have hv0 := hv.below BG.bel
  obtain ⟨c0, c1, _, _⟩ := BG.box.two
  have hck := one_any N v zs w0 hv0
  obtain ⟨c, i, hci⟩ : ∃ c i, gfault N zs = (c, i) := ⟨_, _, rfl⟩
  rw [hci] at hck hc ⊢
  simp only at hc hck
  rw [show okI c (one N.toNat zs) = 0 from if_neg hc] at hck
  have HCK := hide hck
  clear hck hci
  have hcb : (c != 0) = true := by simpa using hc
  rw [BG.eq] at c0 c1
  go_enter Tryd.func86, Tryd.ntmps86
  go_wp2_with fail
  rw [← BG.eq]
  refine HCK.out.mono ?_
  rintro x w1 ⟨rfl, hb1⟩
  clear c0 c1
  have hB1 := bcat2 hb1 (balloc w1 (.cells #[.int .i64 c, .int .i64 i] 27))
  obtain ⟨hG1, g0, g1, g2, g3, gf0, gf1, gf2, gf3, gs0, gs1, gs2, gs3⟩ := Four.mk' (blk_below BG.grp hB1)
  have hR1 := blk_below BG.res hB1
  have hF1 : Blk (w1.alloc (.cells #[.int .i64 c, .int .i64 i] 27)) w1.heap.size 27 [.int .i64 c, .int .i64 i] := blk0 _ _
  have hBw := bcat BG.bel hB1 BG.bel.size
  obtain ⟨y0, y1, fy0, fy1⟩ := hR1.two
  obtain ⟨t0, t1, _, _⟩ := hF1.two
  go_wp2_with fail
  generalize w1.alloc (.cells #[.int .i64 c, .int .i64 i] 27) = w2 at *
  go_region
  go_wp2
  obtain ⟨hR6, hB6⟩ := put2 hR1 hBw (by omega) c i
  have hB7 := bdrew hB6
  have hR7 : Blk ((w2.setCell ⟨w.heap.size + 1 + 1, 0, none⟩ (.int .i64 c)).setCell ⟨w.heap.size + 1 + 1, 1, none⟩ (.int .i64 i)).drew (w.heap.size + 1 + 1) 27 [.int .i64 c, .int .i64 i] := hR6
  have hG7 : Blk ((w2.setCell ⟨w.heap.size + 1 + 1, 0, none⟩ (.int .i64 c)).setCell ⟨w.heap.size + 1 + 1, 1, none⟩ (.int .i64 i)).drew (w.heap.size + 1) 64 [.int .i64 0, .slice none 0 0, .int .i64 0, .slice none 0 0] :=
    (hG1.other (p := ⟨w.heap.size + 1 + 1, 0, none⟩) (by simp) (.int .i64 c)).other (p := ⟨w.heap.size + 1 + 1, 1, none⟩) (by simp) (.int .i64 i)
  generalize ((w2.setCell ⟨w.heap.size + 1 + 1, 0, none⟩ (.int .i64 c)).setCell ⟨w.heap.size + 1 + 1, 1, none⟩ (.int .i64 i)).drew = W at hR7 hB7 hG7 ⊢
  obtain ⟨z0, z1, _, _⟩ := hR7.two
  obtain ⟨_, q0, q1, q2, q3, _⟩ := Four.mk' hG7
  exact bodyPost_ret (v := .tuple #[.agg #[.int .i64 0, .slice none 0 0, .int .i64 0, .slice none 0 0], .agg #[.int .i64 c, .int .i64 i]]) (by simp [results, Tryd.results86, go_sem, z0, z1, q0, q1, q2, q3]) rfl ⟨rfl, hB7⟩

/-- Inverses, as far as they are found ahead of the place k. -/
def ivl (n : Nat) (zs : List Int) (e k : Nat) : List Int := (List.range n).map fun a => if a * n + iv n zs e a < k then (iv n zs e a : Int) else 0
theorem ivl_len (n : Nat) (zs : List Int) (e k : Nat) : (ivl n zs e k).length = n := by simp [ivl]
theorem ivl_zero (n : Nat) (zs : List Int) (e : Nat) : ivl n zs e 0 = List.replicate n 0 := by
  unfold ivl
  apply List.ext_getElem <;> simp
theorem ivl_all {n : Nat} {zs : List Int} {e : Nat} (g : IsGrp n zs e) : ivl n zs e (n * n) = li ((List.range n).map (iv n zs e)) := by
  unfold ivl li
  rw [List.map_map]
  apply List.map_congr_left
  intro a ha
  have ha := List.mem_range.1 ha
  rw [if_pos (place_lt ha (iv_spec g ha).1)]; rfl
theorem dm' {n a b : Nat} (hb : b < n) : (a * n + b) / n = a ∧ (a * n + b) % n = b := by
  constructor
  · rw [Nat.mul_comm, Nat.mul_add_div (by omega), Nat.div_eq_of_lt hb, Nat.add_zero]
  · rw [Nat.mul_comm, Nat.mul_add_mod, Nat.mod_eq_of_lt hb]
/-- A place whose product is the one. -/
theorem ivl_hit {n : Nat} {zs : List Int} {e k : Nat} (g : IsGrp n zs e) (hk : k < n * n) (h : zs[k]?.getD 0 = (e : Int)) : ivl n zs e (k + 1) = (ivl n zs e k).set (k / n) ((k % n : Nat) : Int) ∧ k / n < n := by
  have hn := g.tab.pos
  have h1 : k / n < n := Nat.div_lt_of_lt_mul hk
  have h2 : k % n < n := Nat.mod_lt _ (by omega)
  have h3 : k / n * n + k % n = k := by rw [Nat.mul_comm]; exact Nat.div_add_mod k n
  have h4 := tm_get g.tab h1 h2
  rw [h3, h] at h4
  have h5 : k % n = iv n zs e (k / n) := iv_only g h1 h2 (by omega)
  refine ⟨?_, h1⟩
  apply List.ext_getElem
  · simp [ivl]
  · intro i hi1 hi2
    simp [ivl] at hi1
    rw [List.getElem_set]
    by_cases hik : k / n = i
    · subst hik
      simp only [ivl, List.getElem_map, List.getElem_range, if_true]
      rw [← h5, if_pos (by omega)]
    · simp only [ivl, List.getElem_map, List.getElem_range, if_neg hik]
      have h6 := (iv_spec g hi1).1
      have : i * n + iv n zs e i < k + 1 ↔ i * n + iv n zs e i < k := by
        constructor
        · intro h7
          apply Classical.byContradiction
          intro h8
          have h9 : i * n + iv n zs e i = k := by omega
          exact hik (by rw [← h9]; exact (dm' h6).1)
        · omega
      simp only [this]
theorem ivl_miss {n : Nat} {zs : List Int} {e k : Nat} (g : IsGrp n zs e) (h : zs[k]?.getD 0 ≠ (e : Int)) : ivl n zs e (k + 1) = ivl n zs e k := by
  unfold ivl
  apply List.map_congr_left
  intro a ha
  have ha := List.mem_range.1 ha
  obtain ⟨h1, h2, _⟩ := iv_spec g ha
  have : a * n + iv n zs e a < k + 1 ↔ a * n + iv n zs e a < k := by
    constructor
    · intro h7
      apply Classical.byContradiction
      intro h8
      have h9 : a * n + iv n zs e a = k := by omega
      have h4 := tm_get g.tab ha h1
      rw [h9, h2] at h4
      exact h h4
    · omega
  simp only [this]
theorem grp_fault {n e : Nat} {zs : List Int} (g : IsGrp n zs e) : gfault n zs = (0, 0) := by
  unfold gfault
  rw [efault_of_tab g.tab, if_neg (by simp), Int.toNat_natCast, if_neg (by rw [g.one]; omega), if_neg, if_neg]
  · rw [Decidable.not_not, least_neg]
    intro a ha
    rw [g.one, (iv_spec g ha).2.2.2]
    simp
  · rw [Decidable.not_not, least_neg]
    intro a ha
    simp only [Bool.not_eq_false']
    exact assB_iff.2 fun b c hb hc => g.ass a b c ha hb hc

set_option maxRecDepth 100000 in
set_option maxHeartbeats 4000000 in
theorem opened_good (n e : Nat) (v : Value) (zs : List Int) (w : World) (hv : Sl w v zs) (hg : IsGrp n zs e) :
    Calls Tryd.prog 86 #[.agg #[.int .i64 n, v]] w fun x w' => ∃ u, x = .returned (.tuple #[.agg #[.int .i64 n, v, .int .i64 e, u], .agg #[.int .i64 0, .int .i64 0]]) ∧ SlF w.heap.size w' u (li ((List.range n).map (iv n zs e))) ∧ Below w.heap.size w w' := by
  obtain ⟨i0, hi, hz0, hz1, hz2⟩ := info_parts info3b
  obtain ⟨w0, BG⟩ := Beg4.new w n v
  have hv0 := hv.below BG.bel
  obtain ⟨c0, c1, _, _⟩ := BG.box.two
  have hck := one_any n v zs w0 hv0
  rw [grp_fault hg] at hck
  simp only [okI_zero, Int.toNat_natCast] at hck
  rw [hg.one] at hck
  have HCK := hide hck
  have hle := hg.tab.le
  have hpos := hg.tab.pos
  have hlen := hg.tab.len
  have hnn : 1 * 1 ≤ n * n := Nat.mul_le_mul hpos hpos
  have hnn2 : n * n ≤ 60 * 60 := Nat.mul_le_mul hle hle
  obtain ⟨a, cap, pb, po, rfl, hr, hp, hq3, hq4⟩ := id hv
  obtain rfl := hr.at_ (by omega)
  have HLN := hide hlen
  have hz5 : zs.length ≤ 3600 := by omega
  clear hck hlen hnn hnn2
  rw [BG.eq] at c0 c1
  go_enter Tryd.func86, Tryd.ntmps86
  go_wp2_with fail
  rw [← BG.eq]
  refine HCK.out.mono ?_
  rintro x w1 ⟨rfl, hb1⟩
  clear c0 c1
  have hB1 := bcat2 hb1 (balloc w1 (.cells #[.int .i64 0, .int .i64 0] 27))
  have hG1 := blk_below BG.grp hB1
  have hR1 := blk_below BG.res hB1
  have hX1 := blk_below BG.box hB1
  have hF1 : Blk (w1.alloc (.cells #[.int .i64 0, .int .i64 0] 27)) w1.heap.size 27 [.int .i64 0, .int .i64 0] := blk0 _ _
  have hBw := bcat BG.bel hB1 BG.bel.size
  obtain ⟨t0, t1, _, _⟩ := hF1.two
  obtain ⟨k0, k1, _, _⟩ := hX1.two
  have hsz : w.heap.size + 3 ≤ w1.heap.size := by rw [← BG.size]; exact hb1.size
  go_wp2_with (first
    | (at_make; refine wpList_make_full _ rfl _ _ 22 rfl (w1.heap.size + 1) 3 i0 (.int .i64 0) 1 under22b hi hz0 hz1 _ _ _ _ n rfl rfl rfl rfl (by rw [hz2]; omega) (by unfold maxLen; omega) (by simp) ?_))
  intro w2 hown hgr
  have hM : Blk w2 (w1.heap.size + 1) 3 ((ivl n zs e 0).map (Value.int .i64)) := by
    have := Blk.of_owns hown
    rw [made_rep] at this
    rw [ivl_zero, List.map_replicate]; exact this
  have hB2 : Below w.heap.size w w2 := hBw.grown hgr hBw.size (by simp)
  have hX2 := hX1.grown hgr (by simp)
  have hG2 := hG1.grown hgr (by simp)
  have hR2 := hR1.grown hgr (by simp)
  clear hown hgr t0 t1 k0 k1
  obtain ⟨k0, k1, _, _⟩ := hX2.two
  go_wp2
  clear k0 k1
  go_loopw [25] (fun i wr => ∃ k : Nat, k ≤ zs.length ∧ i = .int .i64 k ∧ Blk wr (w1.heap.size + 1) 3 ((ivl n zs e k).map (Value.int .i64)) ∧ Blk wr w.heap.size 24 [.int .i64 n, .slice (some ⟨pb, po, none⟩) zs.length cap] ∧ Blk wr (w.heap.size + 1) 64 [.int .i64 0, .slice none 0 0, .int .i64 0, .slice none 0 0] ∧ Blk wr (w.heap.size + 1 + 1) 27 [.int .i64 0, .int .i64 0] ∧ Below w.heap.size w wr) (fun i _ => zs.length - (intOf i).toNat)
  case atStart => exact ⟨0, Nat.zero_le _, rfl, hM, hX2, hG2, hR2, hB2⟩
  case round =>
    obtain ⟨k, hk, rfl, hMk, hXk, hGk, hRk, hBk⟩ := hrel
    by_cases hlt : k < zs.length
    · have hck := (hr.below hBk hp).cell k hlt
      by_cases hce : zs[k]?.getD 0 = (e : Int)
      · obtain ⟨hset, hx⟩ := ivl_hit hg (by rw [← HLN.out]; exact hlt) hce
        rw [hce] at hck
        have hq := Int.tdiv_eq_ediv_of_nonneg (a := (k : Int)) (b := (n : Int)) (by omega)
        rw [← Int.natCast_ediv] at hq
        have hm := Int.tmod_eq_emod_of_nonneg (a := (k : Int)) (b := (n : Int)) (by omega)
        rw [← Int.natCast_emod] at hm
        have hy : k % n < n := Nat.mod_lt _ (by omega)
        have hset : ivl n zs e (k + 1) = (ivl n zs e k).set (k / n) ((k % n : Nat) : Int) := hset
        generalize k / n = x at *
        generalize k % n = y at *
        have HSET := hide hset
        have hxi : (x : Int) < (n : Int) := by omega
        have hn0 : ¬ ((n : Int) = 0) := by omega
        have hn1 : ¬ (n = 0) := by omega
        have hMc := hMk.int (y := x) (by rw [ivl_len]; exact hx)
        have hMf := hMk.frozen x
        obtain ⟨k0, k1, _, _⟩ := hXk.two
        have hM6 := hMk.setInt x (y : Int)
        rw [← HSET.out] at hM6
        have hX6 := hXk.other (p := ⟨w1.heap.size + 1, x, none⟩) (by simp; omega) (.int .i64 (y : Int))
        have hG6 := hGk.other (p := ⟨w1.heap.size + 1, x, none⟩) (by simp; omega) (.int .i64 (y : Int))
        have hR6 := hRk.other (p := ⟨w1.heap.size + 1, x, none⟩) (by simp; omega) (.int .i64 (y : Int))
        have hB6 := bdrew (hBk.setCell (p := ⟨w1.heap.size + 1, x, none⟩) (by simp; omega) (.int .i64 (y : Int)))
        clear hset
        have hwx : IntKind.i64.wrap (x : Int) = (x : Int) := by rw [IntKind.wrap_i64]; omega
        have hwy : IntKind.i64.wrap (y : Int) = (y : Int) := by rw [IntKind.wrap_i64]; omega
        go_wp2_with fail
        go_region
        all_goals (
          clear hMc hMf k0 k1 hck
          go_wp2
          go_roundw
          case rel => exact ⟨k + 1, by omega, by go_num, hM6, hX6, hG6, hR6, hB6⟩
          case measure => simp [intOf]; omega)
      · have HM := hide (ivl_miss hg hce)
        have hne : ¬ (zs[k]?.getD 0 = (e : Int)) := hce
        generalize zs[k]?.getD 0 = c at *
        go_wp2
        go_roundw
        case rel => exact ⟨k + 1, by omega, by go_num, by rw [HM.out]; exact hMk, hXk, hGk, hRk, hBk⟩
        case measure => simp [intOf]; omega
    · have hkk : k = zs.length := by omega
      have hMz : Blk wr (w1.heap.size + 1) 3 ((li ((List.range n).map (iv n zs e))).map (Value.int .i64)) := by
        rw [hkk, HLN.out, ivl_all hg] at hMk; exact hMk
      clear hMk
      obtain ⟨k0, k1, _, _⟩ := hXk.two
      obtain ⟨_, g0, g1, g2, g3, gf0, gf1, gf2, gf3, _⟩ := Four.mk' hGk
      obtain ⟨_, y0, y1, fy0, fy1, s0, s1⟩ := Two.mk' hRk
      go_wp2
      have hG8 : Blk ((((((wr.setCell ⟨w.heap.size + 1, 0, none⟩ (.int .i64 n)).setCell ⟨w.heap.size + 1, 1, none⟩ (.slice (some ⟨pb, po, none⟩) zs.length cap)).setCell ⟨w.heap.size + 1, 2, none⟩ (.int .i64 e)).setCell ⟨w.heap.size + 1, 3, none⟩ (.slice (some ⟨w1.heap.size + 1, 0, none⟩) n n)).setCell ⟨w.heap.size + 1 + 1, 0, none⟩ (.int .i64 0)).setCell ⟨w.heap.size + 1 + 1, 1, none⟩ (.int .i64 0)) (w.heap.size + 1) 64 [.int .i64 n, .slice (some ⟨pb, po, none⟩) zs.length cap, .int .i64 e, .slice (some ⟨w1.heap.size + 1, 0, none⟩) n n] := (Blk.other (Blk.other (Blk.set (Blk.set (Blk.set (Blk.set hGk 0 (.int .i64 n)) 1 (.slice (some ⟨pb, po, none⟩) zs.length cap)) 2 (.int .i64 e)) 3 (.slice (some ⟨w1.heap.size + 1, 0, none⟩) n n)) (p := ⟨w.heap.size + 1 + 1, 0, none⟩) (by simp <;> omega) (.int .i64 0)) (p := ⟨w.heap.size + 1 + 1, 1, none⟩) (by simp <;> omega) (.int .i64 0))
      have hR8 : Blk ((((((wr.setCell ⟨w.heap.size + 1, 0, none⟩ (.int .i64 n)).setCell ⟨w.heap.size + 1, 1, none⟩ (.slice (some ⟨pb, po, none⟩) zs.length cap)).setCell ⟨w.heap.size + 1, 2, none⟩ (.int .i64 e)).setCell ⟨w.heap.size + 1, 3, none⟩ (.slice (some ⟨w1.heap.size + 1, 0, none⟩) n n)).setCell ⟨w.heap.size + 1 + 1, 0, none⟩ (.int .i64 0)).setCell ⟨w.heap.size + 1 + 1, 1, none⟩ (.int .i64 0)) (w.heap.size + 1 + 1) 27 [.int .i64 0, .int .i64 0] := (Blk.set (Blk.set (Blk.other (Blk.other (Blk.other (Blk.other hRk (p := ⟨w.heap.size + 1, 0, none⟩) (by simp <;> omega) (.int .i64 n)) (p := ⟨w.heap.size + 1, 1, none⟩) (by simp <;> omega) (.slice (some ⟨pb, po, none⟩) zs.length cap)) (p := ⟨w.heap.size + 1, 2, none⟩) (by simp <;> omega) (.int .i64 e)) (p := ⟨w.heap.size + 1, 3, none⟩) (by simp <;> omega) (.slice (some ⟨w1.heap.size + 1, 0, none⟩) n n)) 0 (.int .i64 0)) 1 (.int .i64 0))
      have hM8 : Blk ((((((wr.setCell ⟨w.heap.size + 1, 0, none⟩ (.int .i64 n)).setCell ⟨w.heap.size + 1, 1, none⟩ (.slice (some ⟨pb, po, none⟩) zs.length cap)).setCell ⟨w.heap.size + 1, 2, none⟩ (.int .i64 e)).setCell ⟨w.heap.size + 1, 3, none⟩ (.slice (some ⟨w1.heap.size + 1, 0, none⟩) n n)).setCell ⟨w.heap.size + 1 + 1, 0, none⟩ (.int .i64 0)).setCell ⟨w.heap.size + 1 + 1, 1, none⟩ (.int .i64 0)) (w1.heap.size + 1) 3 ((li ((List.range n).map (iv n zs e))).map (Value.int .i64)) := (Blk.other (Blk.other (Blk.other (Blk.other (Blk.other (Blk.other hMz (p := ⟨w.heap.size + 1, 0, none⟩) (by simp <;> omega) (.int .i64 n)) (p := ⟨w.heap.size + 1, 1, none⟩) (by simp <;> omega) (.slice (some ⟨pb, po, none⟩) zs.length cap)) (p := ⟨w.heap.size + 1, 2, none⟩) (by simp <;> omega) (.int .i64 e)) (p := ⟨w.heap.size + 1, 3, none⟩) (by simp <;> omega) (.slice (some ⟨w1.heap.size + 1, 0, none⟩) n n)) (p := ⟨w.heap.size + 1 + 1, 0, none⟩) (by simp <;> omega) (.int .i64 0)) (p := ⟨w.heap.size + 1 + 1, 1, none⟩) (by simp <;> omega) (.int .i64 0))
      have hB8 : Below w.heap.size w ((((((wr.setCell ⟨w.heap.size + 1, 0, none⟩ (.int .i64 n)).setCell ⟨w.heap.size + 1, 1, none⟩ (.slice (some ⟨pb, po, none⟩) zs.length cap)).setCell ⟨w.heap.size + 1, 2, none⟩ (.int .i64 e)).setCell ⟨w.heap.size + 1, 3, none⟩ (.slice (some ⟨w1.heap.size + 1, 0, none⟩) n n)).setCell ⟨w.heap.size + 1 + 1, 0, none⟩ (.int .i64 0)).setCell ⟨w.heap.size + 1 + 1, 1, none⟩ (.int .i64 0)) := (Below.setCell (Below.setCell (Below.setCell (Below.setCell (Below.setCell (Below.setCell hBk (p := ⟨w.heap.size + 1, 0, none⟩) (by simp <;> omega) (.int .i64 n)) (p := ⟨w.heap.size + 1, 1, none⟩) (by simp <;> omega) (.slice (some ⟨pb, po, none⟩) zs.length cap)) (p := ⟨w.heap.size + 1, 2, none⟩) (by simp <;> omega) (.int .i64 e)) (p := ⟨w.heap.size + 1, 3, none⟩) (by simp <;> omega) (.slice (some ⟨w1.heap.size + 1, 0, none⟩) n n)) (p := ⟨w.heap.size + 1 + 1, 0, none⟩) (by simp <;> omega) (.int .i64 0)) (p := ⟨w.heap.size + 1 + 1, 1, none⟩) (by simp <;> omega) (.int .i64 0))
      generalize ((((((wr.setCell ⟨w.heap.size + 1, 0, none⟩ (.int .i64 n)).setCell ⟨w.heap.size + 1, 1, none⟩ (.slice (some ⟨pb, po, none⟩) zs.length cap)).setCell ⟨w.heap.size + 1, 2, none⟩ (.int .i64 e)).setCell ⟨w.heap.size + 1, 3, none⟩ (.slice (some ⟨w1.heap.size + 1, 0, none⟩) n n)).setCell ⟨w.heap.size + 1 + 1, 0, none⟩ (.int .i64 0)).setCell ⟨w.heap.size + 1 + 1, 1, none⟩ (.int .i64 0)) = W at hG8 hR8 hM8 hB8 ⊢
      obtain ⟨z0, z1, _, _⟩ := hR8.two
      obtain ⟨_, q0, q1, q2, q3, _⟩ := Four.mk' hG8
      have hGA := SlF.of_blk (base := w.heap.size) hM8 ivs_len.symm (by rw [ivs_len]; omega) (by omega)
      exact bodyPost_ret (v := .tuple #[.agg #[.int .i64 n, .slice (some ⟨pb, po, none⟩) zs.length cap, .int .i64 e, .slice (some ⟨w1.heap.size + 1, 0, none⟩) n n], .agg #[.int .i64 0, .int .i64 0]]) (by simp [results, Tryd.results86, go_sem, z0, z1, q0, q1, q2, q3]) rfl ⟨_, rfl, hGA, hB8⟩
end Go.Proofs.YtolbpjjjoafkkaaDoor

namespace Go.Proofs.YtolbpjjjoafkkaaDoor
open Go Go.RowKit

def rbad (n : Nat) (ls : List Int) (i : Nat) : Bool := decide (ls[i]?.getD 0 < 0 ∨ (n : Int) ≤ ls[i]?.getD 0)
def fbad (ls : List Int) (i : Nat) : Bool := decide (0 < i ∧ ls[i]?.getD 0 ≤ ls[i - 1]?.getD 0)
/-- What is wrong with a list as a set. -/
def lfault (n : Nat) (ls : List Int) : Int × Int :=
  if n < ls.length then (2, 0)
  else if least ls.length (fun i => rbad n ls i || fbad ls i) = -1 then (0, 0)
  else (if rbad n ls (least ls.length (fun i => rbad n ls i || fbad ls i)).toNat then 3 else 5, least ls.length (fun i => rbad n ls i || fbad ls i))
/-- The set of a list. -/
def pset (ls : List Int) (a : Nat) : Bool := decide ((a : Int) ∈ ls)
theorem lfault_many {n : Nat} {ls : List Int} (h : n < ls.length) : lfault n ls = (2, 0) := if_pos h
theorem lfault_ok {n : Nat} {ls : List Int} (h : ls.length ≤ n) (hno : ∀ t, t < ls.length → (rbad n ls t || fbad ls t) = false) : lfault n ls = (0, 0) := by
  unfold lfault
  rw [if_neg (by omega), least_none hno, if_pos rfl]
theorem lfault_r {n k : Nat} {ls : List Int} (h : ls.length ≤ n) (hk : k < ls.length) (hno : ∀ t, t < k → (rbad n ls t || fbad ls t) = false) (hb : rbad n ls k = true) : lfault n ls = (3, (k : Int)) := by
  unfold lfault
  rw [if_neg (by omega), least_at hk (by simp [hb]) hno, if_neg (by omega), Int.toNat_natCast, if_pos hb]
theorem lfault_f {n k : Nat} {ls : List Int} (h : ls.length ≤ n) (hk : k < ls.length) (hno : ∀ t, t < k → (rbad n ls t || fbad ls t) = false) (hb : rbad n ls k = false) (hf : fbad ls k = true) : lfault n ls = (5, (k : Int)) := by
  unfold lfault
  rw [if_neg (by omega), least_at hk (by simp [hf]) hno, if_neg (by omega), Int.toNat_natCast, if_neg (by simp [hb])]
theorem lfault_zero {n : Nat} {ls : List Int} (h : (lfault n ls).1 = 0) : lfault n ls = (0, 0) ∧ ls.length ≤ n ∧ ∀ t, t < ls.length → (rbad n ls t || fbad ls t) = false := by
  unfold lfault at h ⊢
  by_cases h1 : n < ls.length
  · rw [if_pos h1] at h; cases h
  · rw [if_neg h1] at h ⊢
    by_cases h2 : least ls.length (fun i => rbad n ls i || fbad ls i) = -1
    · rw [if_pos h2]
      exact ⟨rfl, by omega, least_neg.1 h2⟩
    · rw [if_neg h2] at h
      exfalso
      revert h
      split <;> simp
/-- Lists that rise, and have the same numbers, are the same. -/
theorem rise_eq : ∀ {xs ys : List Nat}, xs.Pairwise (· < ·) → ys.Pairwise (· < ·) → (∀ a, a ∈ xs ↔ a ∈ ys) → xs = ys
  | [], ys, _, _, h => (List.eq_nil_iff_forall_not_mem.2 fun a ha => by have := (h a).2 ha; simp at this).symm
  | x :: xs, [], _, _, h => by have := (h x).1 (by simp); simp at this
  | x :: xs, y :: ys, hx, hy, h => by
    rw [List.pairwise_cons] at hx hy
    have h1 := (h x).1 (by simp)
    have h2 := (h y).2 (by simp)
    have e : x = y := by
      rcases List.mem_cons.1 h1 with h3 | h3
      · exact h3
      · rcases List.mem_cons.1 h2 with h4 | h4
        · exact h4.symm
        · have := hx.1 y h4
          have := hy.1 x h3
          omega
    subst e
    congr 1
    refine rise_eq hx.2 hy.2 fun a => ⟨fun ha => ?_, fun ha => ?_⟩
    · rcases List.mem_cons.1 ((h a).1 (List.mem_cons_of_mem _ ha)) with h3 | h3
      · subst h3; have := hx.1 a ha; omega
      · exact h3
    · rcases List.mem_cons.1 ((h a).2 (List.mem_cons_of_mem _ ha)) with h3 | h3
      · subst h3; have := hy.1 a ha; omega
      · exact h3
theorem lst_rise (n : Nat) (p : Nat → Bool) : (lst n p).Pairwise (· < ·) := (List.pairwise_lt_range).sublist (List.filter_sublist)
/-- A list with which nothing is wrong is the list of its set. -/
theorem set_lst {n : Nat} {ls : List Int} (h : (lfault n ls).1 = 0) : ls = li (lst n (pset ls)) := by
  obtain ⟨_, hl, hno⟩ := lfault_zero h
  have hno' : ∀ t, t < ls.length → rbad n ls t = false ∧ fbad ls t = false := fun t ht => by have := hno t ht; simpa using this
  have hr : ∀ t, (ht : t < ls.length) → 0 ≤ ls[t] ∧ ls[t] < n := fun t ht => by
    have := (hno' t ht).1
    unfold rbad at this
    rw [decide_eq_false_iff_not] at this
    simp [ht] at this; omega
  have hf : ∀ t, (ht : t + 1 < ls.length) → ls[t] < ls[t + 1] := fun t ht => by
    have := (hno' (t + 1) ht).2
    unfold fbad at this
    rw [decide_eq_false_iff_not] at this
    have h2 : t < ls.length := by omega
    simp [ht, h2] at this; omega
  have hmono : ∀ d t, (ht : t + d + 1 < ls.length) → ls[t] < ls[t + d + 1] := fun d => by
    induction d with
    | zero => exact fun t ht => hf t ht
    | succ d ih =>
      intro t ht
      have h1 := ih t (by omega)
      have h2 := hf (t + d + 1) (by omega)
      have : t + (d + 1) + 1 = t + d + 1 + 1 := by omega
      simp only [this]
      omega
  have hxs : ls = li (ls.map Int.toNat) := by
    unfold li
    rw [List.map_map]
    conv => lhs; rw [← List.map_id ls]
    apply List.map_congr_left
    intro z hz
    obtain ⟨t, ht, rfl⟩ := List.mem_iff_getElem.1 hz
    have := hr t ht
    show ls[t] = ((ls[t].toNat : Nat) : Int)
    omega
  rw [hxs]
  congr 1
  refine rise_eq ?_ (lst_rise _ _) fun a => ?_
  · rw [List.pairwise_iff_getElem]
    intro i j hi hj hij
    simp only [List.length_map] at hi hj
    simp only [List.getElem_map]
    obtain ⟨d, rfl⟩ : ∃ d, j = i + d + 1 := ⟨j - i - 1, by omega⟩
    have h1 := hmono d i hj
    have h2 := hr i hi
    omega
  · rw [mem_lst]
    unfold pset
    rw [decide_eq_true_eq, ← hxs, List.mem_map]
    constructor
    · rintro ⟨z, hz, rfl⟩
      obtain ⟨t, ht, rfl⟩ := List.mem_iff_getElem.1 hz
      have h1 := hr t ht
      refine ⟨by omega, ?_⟩
      rw [show ((ls[t].toNat : Nat) : Int) = ls[t] by omega]
      exact hz
    · rintro ⟨_, h2⟩
      exact ⟨(a : Int), h2, by simp⟩

/-- A number that goes with a fault: none where there is one. -/
def okN (c : Int) (x : Nat) : Nat := if c = 0 then x else 0

end Go.Proofs.YtolbpjjjoafkkaaDoor

namespace Go.Proofs.YtolbpjjjoafkkaaDoor
open Go Go.RowKit

theorem Sl.isSlice {w : World} {v : Value} {zs : List Int} (h : Sl w v zs) : ∃ a l c, v = .slice a l c := by
  obtain ⟨a, cap, _, _, rfl, _⟩ := h
  exact ⟨a, _, cap, rfl⟩
/-- What is wrong with a table and then with a list as its set. -/
def sfault (N : Int) (zs ls : List Int) : Int × Int := if (gfault N zs).1 ≠ 0 then gfault N zs else lfault N.toNat ls
theorem sfault_g {N : Int} {zs ls : List Int} (h : (gfault N zs).1 ≠ 0) : sfault N zs ls = gfault N zs := if_pos h
theorem sfault_l {n e : Nat} {zs ls : List Int} (g : IsGrp n zs e) : sfault n zs ls = lfault n ls := by
  unfold sfault
  rw [grp_fault g, if_neg (by simp), Int.toNat_natCast]
theorem sfault_zero {N : Int} {zs ls : List Int} (h : (sfault N zs ls).1 = 0) : ∃ n e : Nat, N = n ∧ IsGrp n zs e ∧ lfault n ls = (0, 0) ∧ sfault N zs ls = (0, 0) := by
  by_cases hg : (gfault N zs).1 = 0
  · obtain ⟨n, e, rfl, hgr, _⟩ := gfault_grp hg
    rw [sfault_l hgr] at h ⊢
    exact ⟨n, e, rfl, hgr, (lfault_zero h).1, (lfault_zero h).1⟩
  · rw [sfault_g hg] at h
    exact absurd h hg
theorem sfault_cases (N : Int) (zs ls : List Int) (h : (sfault N zs ls).1 ≠ 0) : ((gfault N zs).1 ≠ 0 ∧ sfault N zs ls = gfault N zs) ∨ ∃ n e : Nat, N = n ∧ IsGrp n zs e ∧ (lfault n ls).1 ≠ 0 ∧ sfault N zs ls = lfault n ls := by
  by_cases hg : (gfault N zs).1 = 0
  · obtain ⟨n, e, rfl, hgr, _⟩ := gfault_grp hg
    rw [sfault_l hgr] at h ⊢
    exact .inr ⟨n, e, rfl, hgr, h, rfl⟩
  · exact .inl ⟨hg, sfault_g hg⟩

end Go.Proofs.YtolbpjjjoafkkaaDoor

namespace Go.Proofs.YtolbpjjjoafkkaaDoor
open Go Go.RowKit

/-- A prime from 2 to 100. -/
def primeB (p : Int) : Bool := decide (2 ≤ p ∧ p ≤ 100 ∧ ∀ d : Nat, d < p.toNat → 2 ≤ d → p.toNat % d ≠ 0)
theorem prime_root : ∀ p : Nat, p < 101 → 2 ≤ p → (∀ d : Nat, d < p → 2 ≤ d → d * d ≤ p → p % d ≠ 0) → ∀ d : Nat, d < p → 2 ≤ d → p % d ≠ 0 := by
  intro p hp h2 h d hd hd2 hm
  by_cases hle : d * d ≤ p
  · exact h d hd hd2 hle hm
  · obtain ⟨k, hk⟩ := Nat.dvd_of_mod_eq_zero hm
    have hkd : k < d := by
      refine Nat.lt_of_not_le fun h9 => ?_
      have := Nat.mul_le_mul_left d h9
      omega
    have hk2 : 2 ≤ k := by
      match k, hk with
      | 0, hk => simp at hk; omega
      | 1, hk => simp at hk; omega
      | k + 2, _ => omega
    have hkk : k * k ≤ p := by
      have := Nat.mul_le_mul_right k (Nat.le_of_lt hkd)
      omega
    refine h k (by omega) hk2 hkk ?_
    rw [hk]
    exact Nat.mul_mod_left d k
set_option maxRecDepth 100000 in
set_option maxHeartbeats 2000000 in
theorem isPrime_ok (p : Int) (w : World) : Calls Tryd.prog 88 #[.int .i64 p] w fun x w' => x = .returned (.bool (primeB p)) ∧ Below w.heap.size w w' := by
  by_cases h1 : p < 2
  · have hb : primeB p = false := by unfold primeB; simp; omega
    rw [hb]
    go_enter Tryd.func88, Tryd.ntmps88
    go_wp2
    go_ret
    exact ⟨rfl, Below.refl _ _⟩
  · by_cases h2 : (100 : Int) < p
    · have hb : primeB p = false := by unfold primeB; simp; omega
      rw [hb]
      go_enter Tryd.func88, Tryd.ntmps88
      go_wp2
      go_ret
      exact ⟨rfl, Below.refl _ _⟩
    · obtain ⟨n, rfl⟩ : ∃ n : Nat, p = n := ⟨p.toNat, by omega⟩
      have hn2 : 2 ≤ n := by omega
      have hn1 : n ≤ 100 := by omega
      go_enter Tryd.func88, Tryd.ntmps88
      go_wp2
      go_loopw [3] (fun i wr => ∃ k : Nat, 2 ≤ k ∧ k ≤ 101 ∧ i = .int .i64 k ∧ (∀ d : Nat, d < k → 2 ≤ d → d < n → n % d ≠ 0) ∧ Below w.heap.size w wr) (fun i _ => 102 - (intOf i).toNat)
      case atStart => exact ⟨2, Nat.le_refl _, by omega, rfl, fun d h1 h2 => by omega, Below.refl _ _⟩
      case round =>
        obtain ⟨k, hk, hk2, rfl, hno, hB⟩ := hrel
        have HN := hide hno
        clear hno
        have hkk : (k : Int) * (k : Int) = ((k * k : Nat) : Int) := by rw [Int.natCast_mul]
        have hk4 : k * k ≤ 101 * 101 := Nat.mul_le_mul hk2 hk2
        by_cases hle : k * k ≤ n
        · have hle1 : ((k * k : Nat) : Int) ≤ (n : Int) := by omega
          have hkn : k < n := by
            have := Nat.mul_le_mul_right k hk
            omega
          have hkz : ¬ ((k : Int) = 0) := by omega
          have hm := Int.tmod_eq_emod_of_nonneg (a := (n : Int)) (b := (k : Int)) (by omega)
          rw [← Int.natCast_emod] at hm
          generalize hkq : k * k = q at *
          by_cases hr : n % k = 0
          · have HF := hide (show primeB n = false by
              unfold primeB
              rw [decide_eq_false_iff_not]
              rintro ⟨_, _, h9⟩
              exact h9 k (by simpa using hkn) hk (by simpa using hr))
            have hri : ((n % k : Nat) : Int) = 0 := by omega
            rw [hri] at hm
            clear hri hr
            go_wp2
            go_ret
            exact ⟨retB HF.out.symm, hB⟩
          · have HR := hide hr
            have hri : ¬ ((n % k : Nat) : Int) = 0 := by omega
            generalize hrr : n % k = r at *
            go_wp2
            go_roundw
            case rel => exact ⟨k + 1, by omega, by
              have : k * 1 ≤ k * k := Nat.mul_le_mul_left k (by omega)
              omega, by go_num, fun d h1 h2 h3 => by
              by_cases hd : d = k
              · rw [hd, hrr]; exact HR.out
              · exact HN.out d (by omega) h2 h3, hB⟩
            case measure => simp [intOf]; omega
        · have hle1 : ¬ ((k * k : Nat) : Int) ≤ (n : Int) := by omega
          have HF := hide (show primeB n = true by
            unfold primeB
            rw [decide_eq_true_eq]
            refine ⟨by omega, by omega, ?_⟩
            simp only [Int.toNat_natCast]
            refine prime_root n (by omega) hn2 fun d h1 h2 h3 => HN.out d (Nat.lt_of_not_le fun h9 => ?_) h2 h1
            have := Nat.mul_le_mul h9 h9
            omega)
          generalize k * k = q at *
          go_wp2
          go_ret
          exact ⟨retB HF.out.symm, hB⟩
set_option maxRecDepth 100000 in
set_option maxHeartbeats 2000000 in
theorem lprime_ok (p : Int) (w : World) : Calls Tryd.prog 51 #[.int .i64 p] w fun x w' => x = .returned (.bool (primeB p)) ∧ Below w.heap.size w w' := by
  by_cases h1 : p < 2
  · have hb : primeB p = false := by unfold primeB; simp; omega
    rw [hb]
    go_enter Tryd.func51, Tryd.ntmps51
    go_wp2
    go_ret
    exact ⟨rfl, Below.refl _ _⟩
  · by_cases h2 : (100 : Int) < p
    · have hb : primeB p = false := by unfold primeB; simp; omega
      rw [hb]
      go_enter Tryd.func51, Tryd.ntmps51
      go_wp2
      go_ret
      exact ⟨rfl, Below.refl _ _⟩
    · obtain ⟨n, rfl⟩ : ∃ n : Nat, p = n := ⟨p.toNat, by omega⟩
      have hn2 : 2 ≤ n := by omega
      have hn1 : n ≤ 100 := by omega
      go_enter Tryd.func51, Tryd.ntmps51
      go_wp2
      go_loopw [3] (fun i wr => ∃ k : Nat, 2 ≤ k ∧ k ≤ 101 ∧ i = .int .i64 k ∧ (∀ d : Nat, d < k → 2 ≤ d → d < n → n % d ≠ 0) ∧ Below w.heap.size w wr) (fun i _ => 102 - (intOf i).toNat)
      case atStart => exact ⟨2, Nat.le_refl _, by omega, rfl, fun d h1 h2 => by omega, Below.refl _ _⟩
      case round =>
        obtain ⟨k, hk, hk2, rfl, hno, hB⟩ := hrel
        have HN := hide hno
        clear hno
        by_cases hle : k < n
        · have hle1 : (k : Int) < (n : Int) := by omega
          have hkz : ¬ ((k : Int) = 0) := by omega
          have hm := Int.tmod_eq_emod_of_nonneg (a := (n : Int)) (b := (k : Int)) (by omega)
          rw [← Int.natCast_emod] at hm
          by_cases hr : n % k = 0
          · have HF := hide (show primeB n = false by
              unfold primeB
              rw [decide_eq_false_iff_not]
              rintro ⟨_, _, h9⟩
              exact h9 k (by simpa using hle) hk (by simpa using hr))
            have hri : ((n % k : Nat) : Int) = 0 := by omega
            rw [hri] at hm
            clear hri hr
            go_wp2
            go_ret
            exact ⟨retB HF.out.symm, hB⟩
          · have HR := hide hr
            have hri : ¬ ((n % k : Nat) : Int) = 0 := by omega
            generalize hrr : n % k = r at *
            go_wp2
            go_roundw
            case rel => exact ⟨k + 1, by omega, by omega, by go_num, fun d h1 h2 h3 => by
              by_cases hd : d = k
              · rw [hd, hrr]; exact HR.out
              · exact HN.out d (by omega) h2 h3, hB⟩
            case measure => simp [intOf]; omega
        · have hle1 : ¬ (k : Int) < (n : Int) := by omega
          have HF := hide (show primeB n = true by
            unfold primeB
            rw [decide_eq_true_eq]
            refine ⟨by omega, by omega, ?_⟩
            simp only [Int.toNat_natCast]
            exact fun d h1 h2 => HN.out d (by omega) h2 h1)
          go_wp2
          go_ret
          exact ⟨retB HF.out.symm, hB⟩
/-- A power of p. -/
def isPw (n p : Nat) : Prop := ∃ k, n = p ^ k
theorem pw_strip {p v j k : Nat} (hp : 2 ≤ p) (hv : ¬ p ∣ v) (h : v * p ^ j = p ^ k) : v = 1 := by
  have hpos : 0 < p := by omega
  rcases Nat.lt_trichotomy j k with h1 | h1 | h1
  · refine absurd ?_ hv
    obtain ⟨t, rfl⟩ : ∃ t, k = j + t + 1 := ⟨k - j - 1, by omega⟩
    have h2 : v = p ^ (t + 1) := by
      refine Nat.eq_of_mul_eq_mul_right (Nat.pow_pos (n := j) hpos) ?_
      rw [h, ← Nat.pow_add]
      congr 1
      omega
    rw [h2, Nat.pow_succ]
    exact Nat.dvd_mul_left _ _
  · subst h1
    exact Nat.eq_of_mul_eq_mul_right (Nat.pow_pos (n := j) hpos) (by rw [h, Nat.one_mul])
  · exfalso
    obtain ⟨t, rfl⟩ : ∃ t, j = k + t + 1 := ⟨j - k - 1, by omega⟩
    have h2 : v * p ^ (t + 1) = 1 := by
      refine Nat.eq_of_mul_eq_mul_right (Nat.pow_pos (n := k) hpos) ?_
      rw [Nat.one_mul, Nat.mul_assoc, ← Nat.pow_add, show t + 1 + k = k + t + 1 by omega]
      exact h
    have h3 := Nat.eq_one_of_mul_eq_one_left h2
    rw [Nat.pow_succ] at h3
    have h4 := Nat.eq_one_of_mul_eq_one_left h3
    omega
set_option maxRecDepth 100000 in
set_option maxHeartbeats 2000000 in
theorem isPower_ok (n p : Nat) (w : World) (hn : 1 ≤ n) (hn6 : n ≤ 60) (hp : 2 ≤ p) (hp1 : p ≤ 100) :
    Calls Tryd.prog 116 #[.int .i64 n, .int .i64 p] w fun x w' => ∃ b, x = .returned (.bool b) ∧ (b = true ↔ isPw n p) ∧ Below w.heap.size w w' := by
  have hpz : ¬ ((p : Int) = 0) := by omega
  go_enter Tryd.func116, Tryd.ntmps116
  go_wp2
  go_loopw [0] (fun i wr => ∃ v j : Nat, 1 ≤ v ∧ v ≤ 60 ∧ i = .int .i64 v ∧ v * p ^ j = n ∧ Below w.heap.size w wr) (fun i _ => (intOf i).toNat)
  case atStart => exact ⟨n, 0, hn, hn6, rfl, by simp, Below.refl _ _⟩
  case round =>
    obtain ⟨v, j, hv, hv6, rfl, hvj, hB⟩ := hrel
    have HV := hide hvj
    clear hvj
    have hm := Int.tmod_eq_emod_of_nonneg (a := (v : Int)) (b := (p : Int)) (by omega)
    rw [← Int.natCast_emod] at hm
    have hq := Int.tdiv_eq_ediv_of_nonneg (a := (v : Int)) (b := (p : Int)) (by omega)
    rw [← Int.natCast_ediv] at hq
    by_cases hr : v % p = 0
    · have hdv : p * (v / p) = v := Nat.mul_div_cancel' (Nat.dvd_of_mod_eq_zero hr)
      have hlt : v / p < v := Nat.div_lt_self (by omega) (by omega)
      have h1 : 1 ≤ v / p := Nat.div_pos (Nat.le_of_dvd (by omega) (Nat.dvd_of_mod_eq_zero hr)) (by omega)
      have HE := hide (show (v / p) * p ^ (j + 1) = n by rw [Nat.pow_succ, Nat.mul_comm (p ^ j), ← Nat.mul_assoc, Nat.mul_comm (v / p), hdv, HV.out])
      have hri : ((v % p : Nat) : Int) = 0 := by omega
      rw [hri] at hm
      clear hri hr hdv
      generalize v / p = u at *
      go_wp2
      go_roundw
      case rel => exact ⟨u, j + 1, h1, by omega, rfl, HE.out, hB⟩
      case measure => simp [intOf]; omega
    · have hri : ¬ ((v % p : Nat) : Int) = 0 := by omega
      have HR := hide (show ¬ p ∣ v from fun h9 => hr (Nat.mod_eq_zero_of_dvd h9))
      clear hr
      generalize v % p = r at *
      generalize v / p = u at *
      go_wp2
      go_ret
      refine ⟨_, rfl, ?_, hB⟩
      constructor
      · intro h
        have h1 : v = 1 := by
          have h2 : (v : Int) = 1 := by simpa using h
          omega
        exact ⟨j, by rw [← HV.out, h1, Nat.one_mul]⟩
      · rintro ⟨k, hk⟩
        have h1 := pw_strip hp HR.out (HV.out.trans hk)
        subst h1
        rfl
end Go.Proofs.YtolbpjjjoafkkaaDoor

namespace Go.Proofs.YtolbpjjjoafkkaaDoor
open Go Go.RowKit

set_option maxRecDepth 100000 in
set_option maxHeartbeats 4000000 in
theorem sopen_bad (N p : Int) (v : Value) (zs : List Int) (w : World) (hv : Sl w v zs) (hc : (gfault N zs).1 ≠ 0) :
    Calls Tryd.prog 54 #[.agg #[.int .i64 N, v], .int .i64 p] w fun x w' => x = .returned (.tuple #[.agg #[.int .i64 0, .slice none 0 0, .int .i64 0, .slice none 0 0], .agg #[.int .i64 (gfault N zs).1, .int .i64 (gfault N zs).2]]) ∧ Below w.heap.size w w' := by
  obtain ⟨w0, BG⟩ := Beg4.new w N v
  have hv0 := hv.below BG.bel
  obtain ⟨c0, c1, _, _⟩ := BG.box.two
  have hck := opened_bad N v zs w0 hv0 hc
  obtain ⟨c, i, hci⟩ : ∃ c i, gfault N zs = (c, i) := ⟨_, _, rfl⟩
  rw [hci] at hck hc ⊢
  simp only at hc hck
  have HCK := hide hck
  clear hck hci
  have hcb : (c != 0) = true := by simpa using hc
  rw [BG.eq] at c0 c1
  go_enter Tryd.func54, Tryd.ntmps54
  go_wp2_with fail
  rw [← BG.eq]
  refine HCK.out.mono ?_
  rintro x w1 ⟨rfl, hb1⟩
  clear c0 c1
  obtain ⟨w2, hw2⟩ : ∃ w2, w2 = (w1.alloc (.cells #[.int .i64 0, .slice none 0 0, .int .i64 0, .slice none 0 0] 64)).alloc (.cells #[.int .i64 c, .int .i64 i] 27) := ⟨_, rfl⟩
  have hB1 : Below w0.heap.size w0 w2 := by rw [hw2]; exact bcat2 hb1 ((balloc w1 _).alloc (by simp) _)
  have hF1 : Blk w2 (w1.heap.size + 1) 27 [.int .i64 c, .int .i64 i] := by
    rw [hw2]
    have := blk0 (w := w1.alloc (.cells #[.int .i64 0, .slice none 0 0, .int .i64 0, .slice none 0 0] 64)) (T := 27) (.int .i64 c) (.int .i64 i)
    rwa [World.size_alloc] at this
  obtain ⟨hG1, g0, g1, g2, g3, gf0, gf1, gf2, gf3, gs0, gs1, gs2, gs3⟩ := Four.mk' (blk_below BG.grp hB1)
  have hR1 := blk_below BG.res hB1
  have hBw := bcat BG.bel hB1 BG.bel.size
  obtain ⟨y0, y1, fy0, fy1⟩ := hR1.two
  obtain ⟨t0, t1, _, _⟩ := hF1.two
  rw [hw2] at t0 t1
  go_wp2_with fail
  rw [← hw2]
  rw [← hw2] at t0 t1
  clear hw2
  go_region
  all_goals (
    go_wp2
    obtain ⟨hR6, hB6⟩ := put2 hR1 hBw (by omega) c i
    have hB7 := bdrew hB6
    have hR7 : Blk ((w2.setCell ⟨w.heap.size + 1 + 1, 0, none⟩ (.int .i64 c)).setCell ⟨w.heap.size + 1 + 1, 1, none⟩ (.int .i64 i)).drew (w.heap.size + 1 + 1) 27 [.int .i64 c, .int .i64 i] := hR6
    have hG7 : Blk ((w2.setCell ⟨w.heap.size + 1 + 1, 0, none⟩ (.int .i64 c)).setCell ⟨w.heap.size + 1 + 1, 1, none⟩ (.int .i64 i)).drew (w.heap.size + 1) 64 [.int .i64 0, .slice none 0 0, .int .i64 0, .slice none 0 0] :=
      (hG1.other (p := ⟨w.heap.size + 1 + 1, 0, none⟩) (by simp) (.int .i64 c)).other (p := ⟨w.heap.size + 1 + 1, 1, none⟩) (by simp) (.int .i64 i)
    generalize ((w2.setCell ⟨w.heap.size + 1 + 1, 0, none⟩ (.int .i64 c)).setCell ⟨w.heap.size + 1 + 1, 1, none⟩ (.int .i64 i)).drew = W at hR7 hB7 hG7 ⊢
    obtain ⟨z0, z1, _, _⟩ := hR7.two
    obtain ⟨_, q0, q1, q2, q3, _⟩ := Four.mk' hG7
    exact bodyPost_ret (v := .tuple #[.agg #[.int .i64 0, .slice none 0 0, .int .i64 0, .slice none 0 0], .agg #[.int .i64 c, .int .i64 i]]) (by simp [results, Tryd.results54, go_sem, z0, z1, q0, q1, q2, q3]) rfl ⟨rfl, hB7⟩)

set_option maxRecDepth 100000 in
set_option maxHeartbeats 4000000 in
theorem sopen_good (n e : Nat) (p : Int) (v : Value) (zs : List Int) (w : World) (hv : Sl w v zs) (hg : IsGrp n zs e) (hpr : primeB p = true) :
    Calls Tryd.prog 54 #[.agg #[.int .i64 n, v], .int .i64 p] w fun x w' => ∃ iv9, x = .returned (.tuple #[.agg #[.int .i64 n, v, .int .i64 e, iv9], .agg #[.int .i64 0, .int .i64 0]]) ∧ SlF w.heap.size w' iv9 (li ((List.range n).map (iv n zs e))) ∧ Below w.heap.size w w' := by
  obtain ⟨va, vl, vc, rfl⟩ := hv.isSlice
  obtain ⟨w0, BG⟩ := Beg4.new w n (.slice va vl vc)
  have hv0 := hv.below BG.bel
  obtain ⟨c0, c1, _, _⟩ := BG.box.two
  have HCK := hide (opened_good n e (.slice va vl vc) zs w0 hv0 hg)
  rw [BG.eq] at c0 c1
  go_enter Tryd.func54, Tryd.ntmps54
  go_wp2_with fail
  rw [← BG.eq]
  refine HCK.out.mono ?_
  rintro x w1 ⟨iv9, rfl, hGA, hb1⟩
  obtain ⟨ia, il, ic, rfl⟩ := hGA.sl.isSlice
  clear c0 c1 HCK
  obtain ⟨w2, hw2⟩ : ∃ w2, w2 = (w1.alloc (.cells #[.int .i64 n, (.slice va vl vc), .int .i64 e, (.slice ia il ic)] 64)).alloc (.cells #[.int .i64 0, .int .i64 0] 27) := ⟨_, rfl⟩
  have hb2 : Below w1.heap.size w1 w2 := by rw [hw2]; exact (balloc w1 _).alloc (by simp) _
  have hB1 : Below w0.heap.size w0 w2 := bcat2 hb1 hb2
  have hF1 : Blk w2 (w1.heap.size + 1) 27 [.int .i64 0, .int .i64 0] := by
    rw [hw2]
    have := blk0 (w := w1.alloc (.cells #[.int .i64 n, (.slice va vl vc), .int .i64 e, (.slice ia il ic)] 64)) (T := 27) (.int .i64 0) (.int .i64 0)
    rwa [World.size_alloc] at this
  have hH1 : Blk w2 w1.heap.size 64 [.int .i64 n, (.slice va vl vc), .int .i64 e, (.slice ia il ic)] := by
    rw [hw2]; exact (blk4 _ _ _ _).alloc _
  obtain ⟨t0, t1, _, _⟩ := hF1.two
  rw [hw2] at t0 t1
  have hz9 : w.heap.size + 3 ≤ w1.heap.size := by rw [← BG.size]; exact hb1.size
  have HPR := hide (isPrime_ok p w2)
  rw [hpr] at HPR
  go_wp2_with fail
  rw [← hw2]
  clear hw2 t0 t1
  refine HPR.out.mono ?_
  rintro x w3 ⟨rfl, hb3⟩
  have hB1 := bcat2 hB1 hb3
  have hH1 := blk_below hH1 hb3
  have hb2 := bcat2 hb2 hb3
  have hBw3 := bcat BG.bel hB1 BG.bel.size
  have hG3 := blk_below BG.grp hB1
  obtain ⟨_, h0, h1, h2, h3, _⟩ := Four.mk' hH1
  obtain ⟨_, g0, g1, g2, g3, gf0, gf1, gf2, gf3, gself⟩ := Four.mk' hG3
  clear gself
  obtain ⟨hR3, y0, y1, fy0, fy1, s0, s1⟩ := Two.mk' (blk_below BG.res hB1)
  have hGA3 := (hGA.below hb2).mono (show w.heap.size + 3 ≤ w0.heap.size by rw [BG.size]; exact Nat.le_refl _)
  go_wp2
  obtain ⟨W, hW, hG8, hR8, hB8, hS8, hK8⟩ := put6 hG3 hR3 hBw3 (.int .i64 n) (.slice va vl vc) (.int .i64 e) (.slice ia il ic) (.int .i64 0) (.int .i64 0)
  rw [← hW]
  clear hW
  obtain ⟨z0, z1, _, _⟩ := hR8.two
  obtain ⟨_, q0, q1, q2, q3, _⟩ := Four.mk' hG8
  have hGA9 := (hGA3.keep (fun b h1 _ => hK8 b h1) (by omega)).mono (show w.heap.size ≤ w.heap.size + 3 by omega)
  exact bodyPost_ret (v := .tuple #[.agg #[.int .i64 n, .slice va vl vc, .int .i64 e, .slice ia il ic], .agg #[.int .i64 0, .int .i64 0]]) (by simp [results, Tryd.results54, go_sem, z0, z1, q0, q1, q2, q3]) rfl ⟨_, rfl, hGA9, hB8⟩
set_option maxRecDepth 100000 in
set_option maxHeartbeats 4000000 in
theorem sopen_range (n e : Nat) (p : Int) (v : Value) (zs : List Int) (w : World) (hv : Sl w v zs) (hg : IsGrp n zs e) (hpr : primeB p = false) :
    Calls Tryd.prog 54 #[.agg #[.int .i64 n, v], .int .i64 p] w fun x w' => x = .returned (.tuple #[.agg #[.int .i64 0, .slice none 0 0, .int .i64 0, .slice none 0 0], .agg #[.int .i64 3, .int .i64 1]]) ∧ Below w.heap.size w w' := by
  obtain ⟨va, vl, vc, rfl⟩ := hv.isSlice
  obtain ⟨w0, BG⟩ := Beg4.new w n (.slice va vl vc)
  have hv0 := hv.below BG.bel
  obtain ⟨c0, c1, _, _⟩ := BG.box.two
  have HCK := hide (opened_good n e (.slice va vl vc) zs w0 hv0 hg)
  rw [BG.eq] at c0 c1
  go_enter Tryd.func54, Tryd.ntmps54
  go_wp2_with fail
  rw [← BG.eq]
  refine HCK.out.mono ?_
  rintro x w1 ⟨iv9, rfl, hGA, hb1⟩
  obtain ⟨ia, il, ic, rfl⟩ := hGA.sl.isSlice
  clear c0 c1 HCK
  obtain ⟨w2, hw2⟩ : ∃ w2, w2 = (w1.alloc (.cells #[.int .i64 n, (.slice va vl vc), .int .i64 e, (.slice ia il ic)] 64)).alloc (.cells #[.int .i64 0, .int .i64 0] 27) := ⟨_, rfl⟩
  have hb2 : Below w1.heap.size w1 w2 := by rw [hw2]; exact (balloc w1 _).alloc (by simp) _
  have hB1 : Below w0.heap.size w0 w2 := bcat2 hb1 hb2
  have hF1 : Blk w2 (w1.heap.size + 1) 27 [.int .i64 0, .int .i64 0] := by
    rw [hw2]
    have := blk0 (w := w1.alloc (.cells #[.int .i64 n, (.slice va vl vc), .int .i64 e, (.slice ia il ic)] 64)) (T := 27) (.int .i64 0) (.int .i64 0)
    rwa [World.size_alloc] at this
  have hH1 : Blk w2 w1.heap.size 64 [.int .i64 n, (.slice va vl vc), .int .i64 e, (.slice ia il ic)] := by
    rw [hw2]; exact (blk4 _ _ _ _).alloc _
  obtain ⟨t0, t1, _, _⟩ := hF1.two
  rw [hw2] at t0 t1
  have hz9 : w.heap.size + 3 ≤ w1.heap.size := by rw [← BG.size]; exact hb1.size
  have HPR := hide (isPrime_ok p w2)
  rw [hpr] at HPR
  go_wp2_with fail
  rw [← hw2]
  clear hw2 t0 t1
  refine HPR.out.mono ?_
  rintro x w3 ⟨rfl, hb3⟩
  have hB1 := bcat2 hB1 hb3
  have hH1 := blk_below hH1 hb3
  have hb2 := bcat2 hb2 hb3
  have hBw3 := bcat BG.bel hB1 BG.bel.size
  have hG3 := blk_below BG.grp hB1
  obtain ⟨_, h0, h1, h2, h3, _⟩ := Four.mk' hH1
  obtain ⟨_, g0, g1, g2, g3, gf0, gf1, gf2, gf3, gself⟩ := Four.mk' hG3
  clear gself
  obtain ⟨hR3, y0, y1, fy0, fy1, s0, s1⟩ := Two.mk' (blk_below BG.res hB1)
  have hGA3 := (hGA.below hb2).mono (show w.heap.size + 3 ≤ w0.heap.size by rw [BG.size]; exact Nat.le_refl _)
  go_wp2
  obtain ⟨W, hW, hG8, hR8, hB8, hS8, hK8⟩ := put6 hG3 hR3 hBw3 (.int .i64 0) (.slice none 0 0) (.int .i64 0) (.slice none 0 0) (.int .i64 3) (.int .i64 1)
  rw [← hW]
  clear hW
  obtain ⟨z0, z1, _, _⟩ := hR8.two
  obtain ⟨_, q0, q1, q2, q3, _⟩ := Four.mk' hG8
  exact bodyPost_ret (v := .tuple #[.agg #[.int .i64 0, .slice none 0 0, .int .i64 0, .slice none 0 0], .agg #[.int .i64 3, .int .i64 1]]) (by simp [results, Tryd.results54, go_sem, z0, z1, q0, q1, q2, q3]) rfl ⟨rfl, hB8⟩
end Go.Proofs.YtolbpjjjoafkkaaDoor

namespace Go.Proofs.YtolbpjjjoafkkaaDoor
open Go Go.RowKit

/-- Is a set a subgroup? -/
def subT (n : Nat) (zs : List Int) (e : Nat) (q : Nat → Bool) : Bool := q e && (List.range n).all fun a => (List.range n).all fun b => !(q a && q b) || q (tm n zs a b)
theorem subT_iff {n : Nat} {zs : List Int} {e : Nat} {q : Nat → Bool} : subT n zs e q = true ↔ Fin.Sg (List.range n) (tm n zs) e (fun a => q a = true) := by
  unfold subT
  simp only [Bool.and_eq_true, List.all_eq_true]
  constructor
  · rintro ⟨h1, h2⟩
    refine ⟨h1, fun a b ha hb hqa hqb => ?_⟩
    have := h2 a ha b hb
    simpa [hqa, hqb] using this
  · rintro ⟨h1, h2⟩
    refine ⟨h1, fun a ha b hb => ?_⟩
    have := h2 a b ha hb
    cases hqa : q a <;> cases hqb : q b <;> simp_all
/-- A set is a subgroup just where it is all that it makes. -/
theorem subT_made {n : Nat} {zs : List Int} {e : Nat} {q p : Nat → Bool} (hp : ∀ a, a < n → (p a = true ↔ Mkd n zs e q a)) (he : e < n) (hm : ∀ a b, a < n → b < n → tm n zs a b < n) : subT n zs e q = decide (bs p n = bs q n) := by
  rw [Bool.eq_iff_iff, subT_iff, decide_eq_true_eq]
  constructor
  · intro S
    refine bs_ext fun a ha => ?_
    rw [Bool.eq_iff_iff, hp a ha]
    exact ⟨fun h => gen_self S h, fun h => Fin.Gen.base (List.mem_range.2 ha) h⟩
  · intro h
    have h1 := bs_inj h
    have S := Fin.Gen.sg (l := List.range n) (m := tm n zs) (e := e) (fun x => q x = true)
    refine ⟨?_, fun a b ha hb hqa hqb => ?_⟩
    · rw [← h1 e he, hp e he]; exact S.one
    · have ha := List.mem_range.1 ha
      have hb := List.mem_range.1 hb
      rw [← h1 _ (hm a b ha hb), hp _ (hm a b ha hb)]
      exact S.mul a b (List.mem_range.2 ha) (List.mem_range.2 hb) ((hp a ha).1 (by rw [h1 a ha]; exact hqa)) ((hp b hb).1 (by rw [h1 b hb]; exact hqb))
theorem mkd_test (n : Nat) (zs : List Int) (e : Nat) (q : Nat → Bool) : ∃ p : Nat → Bool, ∀ a, a < n → (p a = true ↔ Mkd n zs e q a) := by
  obtain ⟨p, hp⟩ := Fin.test_of (Mkd n zs e q)
  exact ⟨p, fun a _ => hp a⟩
/-- What is wrong with a table, then with a list as its set, then with that as a subgroup. -/
def ufault (N : Int) (zs ls : List Int) : Int × Int := if (sfault N zs ls).1 ≠ 0 then sfault N zs ls else if subT N.toNat zs (one N.toNat zs).toNat (pset ls) then (0, 0) else (7, 0)
theorem ufault_s {N : Int} {zs ls : List Int} (h : (sfault N zs ls).1 ≠ 0) : ufault N zs ls = sfault N zs ls := if_pos h
theorem ufault_u {n e : Nat} {zs ls : List Int} (g : IsGrp n zs e) (h : lfault n ls = (0, 0)) : ufault n zs ls = if subT n zs e (pset ls) then (0, 0) else (7, 0) := by
  unfold ufault
  rw [sfault_l g, h, if_neg (by simp), Int.toNat_natCast, g.one, Int.toNat_natCast]
theorem ufault_cases (N : Int) (zs ls : List Int) (h : (ufault N zs ls).1 ≠ 0) : ((sfault N zs ls).1 ≠ 0 ∧ ufault N zs ls = sfault N zs ls) ∨ ∃ n e : Nat, N = n ∧ IsGrp n zs e ∧ lfault n ls = (0, 0) ∧ subT n zs e (pset ls) = false ∧ ufault N zs ls = (7, 0) := by
  by_cases hs : (sfault N zs ls).1 = 0
  · obtain ⟨n, e, rfl, hg, hl, _⟩ := sfault_zero hs
    rw [ufault_u hg hl] at h ⊢
    cases hb : subT n zs e (pset ls)
    · exact .inr ⟨n, e, rfl, hg, hl, hb, rfl⟩
    · rw [hb] at h; simp at h
  · exact .inl ⟨hs, ufault_s hs⟩
theorem ufault_zero {N : Int} {zs ls : List Int} (h : (ufault N zs ls).1 = 0) : ∃ n e : Nat, N = n ∧ IsGrp n zs e ∧ lfault n ls = (0, 0) ∧ subT n zs e (pset ls) = true ∧ ufault N zs ls = (0, 0) := by
  by_cases hs : (sfault N zs ls).1 = 0
  · obtain ⟨n, e, rfl, hg, hl, _⟩ := sfault_zero hs
    rw [ufault_u hg hl] at h ⊢
    cases hb : subT n zs e (pset ls)
    · rw [hb] at h; simp at h
    · exact ⟨n, e, rfl, hg, hl, hb, rfl⟩
  · rw [ufault_s hs] at h
    exact absurd h hs

end Go.Proofs.YtolbpjjjoafkkaaDoor

namespace Go.Proofs.YtolbpjjjoafkkaaDoor.Pop
open Go

/-- A number of these digits, the lowest first. -/
def val (B : Nat) : List Nat → Nat
  | [] => 0
  | d :: ds => d + B * val B ds
/-- Fields of k bits, every other one full. -/
def mask (k : Nat) : Nat → Nat
  | 0 => 0
  | n + 1 => (2 ^ k - 1) + 2 ^ (2 * k) * mask k n
def pairs : List Nat → List Nat
  | d :: c :: ds => (d + c) :: pairs ds
  | _ => []
theorem and_split {k a b c d : Nat} (ha : a < 2 ^ k) (hc : c < 2 ^ k) : (a + 2 ^ k * b) &&& (c + 2 ^ k * d) = (a &&& c) + 2 ^ k * (b &&& d) := by
  have hac : a &&& c < 2 ^ k := Nat.lt_of_le_of_lt Nat.and_le_left ha
  apply Nat.eq_of_testBit_eq
  intro i
  rw [Nat.testBit_and, Nat.add_comm a, Nat.add_comm c, Nat.add_comm (a &&& c), Nat.testBit_two_pow_mul_add _ ha, Nat.testBit_two_pow_mul_add _ hc, Nat.testBit_two_pow_mul_add _ hac]
  by_cases h : i < k
  · rw [if_pos h, if_pos h, if_pos h, Nat.testBit_and]
  · rw [if_neg h, if_neg h, if_neg h, Nat.testBit_and]
theorem two_fields {k d c : Nat} (hd : d < 2 ^ k) (hc : c < 2 ^ k) : d + 2 ^ k * c < 2 ^ (2 * k) := by
  have h1 : 2 ^ (2 * k) = 2 ^ k * 2 ^ k := by rw [Nat.two_mul, Nat.pow_add]
  have h2 : 2 ^ k * (c + 1) ≤ 2 ^ k * 2 ^ k := Nat.mul_le_mul_left _ hc
  rw [h1]
  rw [Nat.mul_add] at h2
  omega
theorem low_field {k d c : Nat} (hd : d < 2 ^ k) : (d + 2 ^ k * c) &&& (2 ^ k - 1) = d := by
  rw [Nat.and_two_pow_sub_one_eq_mod, Nat.add_mul_mod_self_left, Nat.mod_eq_of_lt hd]
theorem mask_lt (k : Nat) : 2 ^ k - 1 < 2 ^ (2 * k) := Nat.lt_of_lt_of_le (Nat.sub_lt (Nat.two_pow_pos k) (by omega)) (Nat.pow_le_pow_right (by omega) (by omega))
theorem sq (k x : Nat) : 2 ^ k * (2 ^ k * x) = 2 ^ (2 * k) * x := by rw [← Nat.mul_assoc, ← Nat.pow_add, Nat.two_mul]
/-- One step: fields that stand side by side are added. -/
theorem step (k : Nat) : ∀ (n : Nat) (ds : List Nat), ds.length = 2 * n → (∀ d, d ∈ ds → d < 2 ^ k) →
    ((val (2 ^ k) ds / 2 ^ k) &&& mask k n) + (val (2 ^ k) ds &&& mask k n) = val (2 ^ (2 * k)) (pairs ds)
  | 0, ds, hl, _ => by
    obtain rfl : ds = [] := List.length_eq_zero_iff.1 (by omega)
    simp [mask, pairs, val]
  | n + 1, ds, hl, hd => by
    match ds, hl, hd with
    | d :: c :: ds, hl, hd =>
      have h1 : d < 2 ^ k := hd d (by simp)
      have h2 : c < 2 ^ k := hd c (by simp)
      have ih := step k n ds (by simp at hl; omega) (fun x hx => hd x (by simp [hx]))
      have hp := Nat.two_pow_pos k
      have hV := Nat.mod_add_div (val (2 ^ k) ds) (2 ^ k)
      have hm := Nat.mod_lt (val (2 ^ k) ds) hp
      show ((d + 2 ^ k * (c + 2 ^ k * val (2 ^ k) ds)) / 2 ^ k &&& ((2 ^ k - 1) + 2 ^ (2 * k) * mask k n)) + ((d + 2 ^ k * (c + 2 ^ k * val (2 ^ k) ds)) &&& ((2 ^ k - 1) + 2 ^ (2 * k) * mask k n)) = (d + c) + 2 ^ (2 * k) * val (2 ^ (2 * k)) (pairs ds)
      generalize val (2 ^ k) ds = V at *
      have e2 : (d + 2 ^ k * (c + 2 ^ k * V)) = (d + 2 ^ k * c) + 2 ^ (2 * k) * V := by rw [Nat.mul_add, sq, Nat.add_assoc]
      have e3 : (d + 2 ^ k * (c + 2 ^ k * V)) / 2 ^ k = c + 2 ^ k * V := by rw [Nat.add_mul_div_left _ _ hp, Nat.div_eq_of_lt h1, Nat.zero_add]
      have e4 : c + 2 ^ k * V = (c + 2 ^ k * (V % 2 ^ k)) + 2 ^ (2 * k) * (V / 2 ^ k) := by
        rw [← sq, Nat.add_assoc, ← Nat.mul_add, hV]
      rw [e3, e2, e4, and_split (two_fields h2 hm) (mask_lt k), and_split (two_fields h1 h2) (mask_lt k), low_field h2, low_field h1, ← ih, Nat.mul_add]
      omega
theorem pairs_sum : ∀ (n : Nat) (ds : List Nat), ds.length = 2 * n → (pairs ds).sum = ds.sum ∧ (pairs ds).length = n
  | 0, ds, hl => by
    obtain rfl : ds = [] := List.length_eq_zero_iff.1 (by omega)
    simp [pairs]
  | n + 1, ds, hl => by
    match ds, hl with
    | d :: c :: ds, hl =>
      obtain ⟨h1, h2⟩ := pairs_sum n ds (by simp at hl; omega)
      simp [pairs, h1, h2]
      omega
theorem pairs_le {B : Nat} : ∀ (n : Nat) (ds : List Nat), ds.length = 2 * n → (∀ d, d ∈ ds → d ≤ B) → ∀ d, d ∈ pairs ds → d ≤ 2 * B
  | 0, ds, hl, _ => by
    obtain rfl : ds = [] := List.length_eq_zero_iff.1 (by omega)
    simp [pairs]
  | n + 1, ds, hl, hd => by
    match ds, hl, hd with
    | d :: c :: ds, hl, hd =>
      intro x hx
      have h1 := hd d (by simp)
      have h2 := hd c (by simp)
      rcases List.mem_cons.1 hx with rfl | hx
      · omega
      · exact pairs_le n ds (by simp at hl; omega) (fun y hy => hd y (by simp [hy])) x hx
/-- The digit above is added to each digit. -/
def adj : List Nat → List Nat
  | d :: c :: ds => (d + c) :: adj (c :: ds)
  | ds => ds
theorem adj_val {B : Nat} (hB : 0 < B) : ∀ ds : List Nat, (∀ d, d ∈ ds → d < B) → val B ds / B + val B ds = val B (adj ds)
  | [], _ => by simp [adj, val]
  | [d], h => by
    have := h d (by simp)
    simp [adj, val, Nat.div_eq_of_lt this]
  | d :: c :: ds, h => by
    have ih := adj_val hB (c :: ds) (fun x hx => h x (by simp [hx]))
    have hd := h d (by simp)
    have hc := h c (by simp)
    have e1 : val B (c :: ds) = c + B * val B ds := rfl
    have e2 : (c + B * val B ds) / B = val B ds := by rw [Nat.add_mul_div_left _ _ hB, Nat.div_eq_of_lt hc, Nat.zero_add]
    rw [e1, e2] at ih
    have e3 : val B (d :: c :: ds) = d + B * (c + B * val B ds) := rfl
    have e4 : (d + B * (c + B * val B ds)) / B = c + B * val B ds := by rw [Nat.add_mul_div_left _ _ hB, Nat.div_eq_of_lt hd, Nat.zero_add]
    rw [e3, e4]
    show _ = (d + c) + B * val B (adj (c :: ds))
    rw [← ih]
    generalize val B ds = V
    simp only [Nat.mul_add]
    omega
theorem adj_le {M : Nat} : ∀ ds : List Nat, (∀ d, d ∈ ds → d ≤ M) → ∀ d, d ∈ adj ds → d ≤ 2 * M
  | [], _ => by simp [adj]
  | [d], h => fun x hx => by
    have := h x hx
    omega
  | d :: c :: ds, h => fun x hx => by
    have h1 := h d (by simp)
    have h2 := h c (by simp)
    rcases List.mem_cons.1 hx with rfl | hx
    · omega
    · exact adj_le (c :: ds) (fun y hy => h y (by simp [hy])) x hx
theorem adj_len : ∀ ds : List Nat, (adj ds).length = ds.length
  | [] => rfl
  | [_] => rfl
  | _ :: c :: ds => by simp [adj, adj_len (c :: ds)]
/-- Every other digit. -/
def evens : List Nat → List Nat
  | d :: _ :: ds => d :: evens ds
  | _ => []
theorem and_evens (k : Nat) : ∀ (n : Nat) (ds : List Nat), ds.length = 2 * n → (∀ d, d ∈ ds → d < 2 ^ k) → val (2 ^ k) ds &&& mask k n = val (2 ^ (2 * k)) (evens ds)
  | 0, ds, hl, _ => by
    obtain rfl : ds = [] := List.length_eq_zero_iff.1 (by omega)
    simp [mask, evens, val]
  | n + 1, ds, hl, hd => by
    match ds, hl, hd with
    | d :: c :: ds, hl, hd =>
      have h1 : d < 2 ^ k := hd d (by simp)
      have h2 : c < 2 ^ k := hd c (by simp)
      have ih := and_evens k n ds (by simp at hl; omega) (fun x hx => hd x (by simp [hx]))
      show ((d + 2 ^ k * (c + 2 ^ k * val (2 ^ k) ds)) &&& ((2 ^ k - 1) + 2 ^ (2 * k) * mask k n)) = d + 2 ^ (2 * k) * val (2 ^ (2 * k)) (evens ds)
      generalize val (2 ^ k) ds = V at *
      have e2 : (d + 2 ^ k * (c + 2 ^ k * V)) = (d + 2 ^ k * c) + 2 ^ (2 * k) * V := by rw [Nat.mul_add, sq, Nat.add_assoc]
      rw [e2, and_split (two_fields h1 h2) (mask_lt k), low_field h1, ih]
theorem evens_adj : ∀ (n : Nat) (ds : List Nat), ds.length = 2 * n → evens (adj ds) = pairs ds
  | 0, ds, hl => by
    obtain rfl : ds = [] := List.length_eq_zero_iff.1 (by omega)
    rfl
  | n + 1, ds, hl => by
    match ds, hl with
    | [d, c], _ => rfl
    | d :: c :: b :: ds, hl =>
      have ih := evens_adj n (b :: ds) (by simp at hl ⊢; omega)
      show (d + c) :: evens (adj (b :: ds)) = (d + c) :: pairs (b :: ds)
      rw [ih]
end Go.Proofs.YtolbpjjjoafkkaaDoor.Pop

namespace Go.Proofs.YtolbpjjjoafkkaaDoor.Pop
open Go

theorem last_one {a b c d e f g h y : Nat} (ha : a ≤ 8)
    (hy : y = a + 256 * (b + 256 * (c + 256 * (d + 256 * (e + 256 * (f + 256 * (g + 256 * h))))))) : y + y / 256 = (a + b) + 256 * ((b + c) + 256 * ((c + d) + 256 * ((d + e) + 256 * ((e + f) + 256 * ((f + g) + 256 * ((g + h) + 256 * h)))))) := by
  have e1 : y / 256 = b + 256 * (c + 256 * (d + 256 * (e + 256 * (f + 256 * (g + 256 * h))))) := by
    rw [hy, Nat.add_mul_div_left _ _ (by decide), Nat.div_eq_of_lt (by omega), Nat.zero_add]
  rw [e1, hy]
  clear e1 hy
  omega
theorem last_two {a b c d e f g h y : Nat} (ha : a ≤ 16) (hb : b ≤ 16)
    (hy : y = a + 256 * (b + 256 * (c + 256 * (d + 256 * (e + 256 * (f + 256 * (g + 256 * h))))))) : y + y / 65536 = (a + c) + 256 * ((b + d) + 256 * ((c + e) + 256 * ((d + f) + 256 * ((e + g) + 256 * ((f + h) + 256 * (g + 256 * h)))))) := by
  have e1 : y / 65536 = c + 256 * (d + 256 * (e + 256 * (f + 256 * (g + 256 * h)))) := by
    rw [hy, show a + 256 * (b + 256 * (c + 256 * (d + 256 * (e + 256 * (f + 256 * (g + 256 * h)))))) = (a + 256 * b) + 65536 * (c + 256 * (d + 256 * (e + 256 * (f + 256 * (g + 256 * h))))) by omega, Nat.add_mul_div_left _ _ (by decide), Nat.div_eq_of_lt (by omega), Nat.zero_add]
  rw [e1, hy]
  clear e1 hy
  omega
theorem last_four {a b c d e f g h y : Nat} (ha : a ≤ 32) (hb : b ≤ 32) (hc : c ≤ 32) (hd : d ≤ 32)
    (hy : y = a + 256 * (b + 256 * (c + 256 * (d + 256 * (e + 256 * (f + 256 * (g + 256 * h))))))) : y + y / 4294967296 = (a + e) + 256 * ((b + f) + 256 * ((c + g) + 256 * ((d + h) + 256 * (e + 256 * (f + 256 * (g + 256 * h)))))) := by
  have e1 : y / 4294967296 = e + 256 * (f + 256 * (g + 256 * h)) := by
    rw [hy, show a + 256 * (b + 256 * (c + 256 * (d + 256 * (e + 256 * (f + 256 * (g + 256 * h)))))) = (a + 256 * (b + 256 * (c + 256 * d))) + 4294967296 * (e + 256 * (f + 256 * (g + 256 * h))) by omega, Nat.add_mul_div_left _ _ (by decide), Nat.div_eq_of_lt (by omega), Nat.zero_add]
  rw [e1, hy]
  clear e1 hy
  omega
/-- Eight bytes, none greater than eight, are added into the lowest one. -/
theorem last_steps {a b c d e f g h : Nat} (ha : a ≤ 8) (hb : b ≤ 8) (hc : c ≤ 8) (hd : d ≤ 8) (he : e ≤ 8) (hf : f ≤ 8) (hg : g ≤ 8) (hh : h ≤ 8) {y y1 y2 : Nat}
    (hy : y = val 256 [a, b, c, d, e, f, g, h]) (h1 : y1 = y + y / 256) (h2 : y2 = y1 + y1 / 65536) : (y2 + y2 / 4294967296) % 128 = a + b + c + d + e + f + g + h := by
  have e0 : y = a + 256 * (b + 256 * (c + 256 * (d + 256 * (e + 256 * (f + 256 * (g + 256 * h)))))) := by
    rw [hy]
    simp only [val]
    omega
  rw [last_one ha e0] at h1
  rw [last_two (by omega) (by omega) h1] at h2
  rw [last_four (by omega) (by omega) (by omega) (by omega) h2]
  clear h1 h2 e0 hy
  omega
/-- The count, as the library's text reckons it, without what is cut off at 64 bits: nothing is. -/
def cnt (x : Nat) : Nat :=
  let x1 := ((x / 2 ^ 1) &&& mask 1 32) + (x &&& mask 1 32)
  let x2 := ((x1 / 2 ^ 2) &&& mask 2 16) + (x1 &&& mask 2 16)
  let x3 := (x2 / 2 ^ 4 + x2) &&& mask 4 8
  let y1 := x3 + x3 / 256
  let y2 := y1 + y1 / 65536
  (y2 + y2 / 4294967296) % 128
theorem cnt_eq (ds : List Nat) (hl : ds.length = 64) (hd : ∀ d, d ∈ ds → d ≤ 1) : cnt (val (2 ^ 1) ds) = ds.sum := by
  have s1 := step 1 32 ds (by omega) (fun d h => by have := hd d h; omega)
  have p1 := pairs_sum 32 ds (by omega)
  have l1 := pairs_le 32 ds (by omega) hd
  have s2 := step 2 16 (pairs ds) (by omega) (fun d h => by have := l1 d h; omega)
  have p2 := pairs_sum 16 (pairs ds) (by omega)
  have l2 := pairs_le 16 (pairs ds) (by omega) l1
  have a3 := adj_val (B := 2 ^ 4) (by decide) (pairs (pairs ds)) (fun d h => by have := l2 d h; omega)
  have m3 := adj_le (pairs (pairs ds)) l2
  have n3 := adj_len (pairs (pairs ds))
  have v3 := and_evens 4 8 (adj (pairs (pairs ds))) (by omega) (fun d h => by have := m3 d h; omega)
  have w3 := evens_adj 8 (pairs (pairs ds)) (by omega)
  have p3 := pairs_sum 8 (pairs (pairs ds)) (by omega)
  have l3 := pairs_le 8 (pairs (pairs ds)) (by omega) l2
  rw [w3] at v3
  rw [← p1.1, ← p2.1, ← p3.1]
  clear p1 p2 l1 l2 m3 n3 w3 hl hd
  unfold cnt
  rw [s1]
  show ((((val (2 ^ (2 * 1)) (pairs ds) / 2 ^ 2) &&& mask 2 16) + (val (2 ^ (2 * 1)) (pairs ds) &&& mask 2 16)) / 2 ^ 4 + (((val (2 ^ (2 * 1)) (pairs ds) / 2 ^ 2) &&& mask 2 16) + (val (2 ^ (2 * 1)) (pairs ds) &&& mask 2 16)) &&& mask 4 8 |> fun x3 => (x3 + x3 / 256 |> fun y1 => (y1 + y1 / 65536 |> fun y2 => (y2 + y2 / 4294967296) % 128))) = _
  rw [show 2 ^ (2 * 1) = 2 ^ 2 from rfl, s2, show 2 ^ (2 * 2) = 2 ^ 4 from rfl, a3, v3]
  generalize pairs (pairs (pairs ds)) = qs at *
  match qs, p3, l3 with
  | [a, b, c, d, e, f, g, h], _, l3 =>
    have hall : ∀ x, x ∈ [a, b, c, d, e, f, g, h] → x ≤ 8 := fun x hx => by have := l3 x hx; omega
    have := last_steps (hall a (by simp)) (hall b (by simp)) (hall c (by simp)) (hall d (by simp)) (hall e (by simp)) (hall f (by simp)) (hall g (by simp)) (hall h (by simp)) rfl rfl rfl
    refine Eq.trans this ?_
    simp
    omega
end Go.Proofs.YtolbpjjjoafkkaaDoor.Pop

namespace Go.Proofs.YtolbpjjjoafkkaaDoor.Pop
open Go

theorem val_snoc (B x : Nat) : ∀ ds : List Nat, val B (ds ++ [x]) = val B ds + B ^ ds.length * x
  | [] => by simp [val]
  | d :: ds => by
    show d + B * val B (ds ++ [x]) = d + B * val B ds + B ^ (ds.length + 1) * x
    rw [val_snoc B x ds, Nat.mul_add, ← Nat.mul_assoc, ← Nat.pow_succ', Nat.add_assoc]
/-- A set's bits, the lowest first. -/
def dig (q : Nat → Bool) (k : Nat) : List Nat := (List.range k).map fun a => if q a then 1 else 0
theorem dig_len (q : Nat → Bool) (k : Nat) : (dig q k).length = k := by simp [dig]
theorem dig_succ (q : Nat → Bool) (k : Nat) : dig q (k + 1) = dig q k ++ [if q k then 1 else 0] := by simp [dig, List.range_succ]
theorem dig_val (q : Nat → Bool) : ∀ k, val (2 ^ 1) (dig q k) = bs q k
  | 0 => rfl
  | k + 1 => by
    rw [dig_succ, val_snoc, dig_len, dig_val q k]
    show bs q k + (2 ^ 1) ^ k * _ = 2 ^ k * _ + bs q k
    rw [Nat.add_comm]
theorem dig_sum (q : Nat → Bool) : ∀ k, (dig q k).sum = (lst k q).length
  | 0 => rfl
  | k + 1 => by
    rw [dig_succ, List.sum_append, dig_sum q k]
    unfold lst
    rw [List.range_succ, List.filter_append, List.length_append]
    cases h : q k <;> simp [h]
theorem dig_le (q : Nat → Bool) (k : Nat) : ∀ d, d ∈ dig q k → d ≤ 1 := fun d h => by
  obtain ⟨a, _, rfl⟩ := List.mem_map.1 h
  split <;> omega
theorem bs_wide (p : Nat → Bool) {n : Nat} : ∀ k, bs (fun a => decide (a < n) && p a) (n + k) = bs p n
  | 0 => bs_ext fun a ha => by simp; omega
  | k + 1 => by
    show 2 ^ (n + k) * (if (decide (n + k < n) && p (n + k)) then 1 else 0) + bs _ (n + k) = _
    rw [bs_wide p k, decide_eq_false (by omega)]
    simp
theorem lst_wide (p : Nat → Bool) {n : Nat} : ∀ k, lst (n + k) (fun a => decide (a < n) && p a) = lst n p
  | 0 => List.filter_congr fun a ha => by
    have h1 := List.mem_range.1 ha
    rw [decide_eq_true (show a < n by omega)]
    rfl
  | k + 1 => by
    have h1 := lst_wide p (n := n) k
    unfold lst at h1 ⊢
    rw [← Nat.add_assoc, List.range_succ, List.filter_append, h1]
    simp
    omega
/-- How many things a set has. -/
theorem cnt_bs (p : Nat → Bool) {n : Nat} (hn : n ≤ 60) : cnt (bs p n) = (lst n p).length := by
  have h1 := bs_wide p (n := n) (64 - n)
  have h2 := lst_wide p (n := n) (64 - n)
  rw [show n + (64 - n) = 64 by omega] at h1 h2
  rw [← h1, ← h2, ← dig_val, cnt_eq _ (dig_len _ _) (dig_le _ _), dig_sum]
end Go.Proofs.YtolbpjjjoafkkaaDoor.Pop

namespace Go.Proofs.YtolbpjjjoafkkaaDoor
open Go Go.RowKit

theorem and_nat (a b : Nat) (ha : a < 18446744073709551616) (hb : b < 18446744073709551616) : bits BinOp.and IntKind.u64 (a : Int) (b : Int) = ((a &&& b : Nat) : Int) := bits_and_u64_nat a b ha hb
theorem and_127 (y : Nat) (hy : y < 9223372036854775808) : bits BinOp.and IntKind.i64 (y : Int) 127 = ((y % 128 : Nat) : Int) := by
  have h1 : (BitVec.ofInt 64 (y : Int) &&& BitVec.ofInt 64 127).toNat = y % 128 := by
    rw [BitVec.toNat_and]
    have e1 : (BitVec.ofInt 64 (y : Int)).toNat = y := by rw [BitVec.toNat_ofInt]; omega
    have e2 : (BitVec.ofInt 64 (127 : Int)).toNat = 2 ^ 7 - 1 := by decide
    rw [e1, e2, Nat.and_two_pow_sub_one_eq_mod]
  show IntKind.i64.wrap ((BitVec.ofInt 64 (y : Int) &&& BitVec.ofInt 64 127).toNat : Int) = _
  rw [h1, IntKind.wrap_i64]
  omega
theorem wrap_nat {z : Int} (y : Nat) (h : z = (y : Int)) (hy : y < 18446744073709551616) : IntKind.u64.wrap z = (y : Int) := by
  rw [h, IntKind.wrap_u64]
  omega
set_option maxRecDepth 100000 in
set_option maxHeartbeats 1000000 in
theorem ones_cnt (x : Nat) (hx : x < 18446744073709551616) (w : World) :
    Calls Tryd.prog 118 #[.int .u64 x] w fun e w' => e = .returned (.int .i64 (Pop.cnt x)) ∧ w' = w := by
  have k1 : Pop.mask 1 32 = 6148914691236517205 := by decide +kernel
  have k2 : Pop.mask 2 16 = 3689348814741910323 := by decide +kernel
  have k3 : Pop.mask 4 8 = 1085102592571150095 := by decide +kernel
  obtain ⟨x1, h1⟩ : ∃ x1, x1 = ((x / 2 ^ 1) &&& Pop.mask 1 32) + (x &&& Pop.mask 1 32) := ⟨_, rfl⟩
  obtain ⟨x2, h2⟩ : ∃ x2, x2 = ((x1 / 2 ^ 2) &&& Pop.mask 2 16) + (x1 &&& Pop.mask 2 16) := ⟨_, rfl⟩
  obtain ⟨x3, h3⟩ : ∃ x3, x3 = (x2 / 2 ^ 4 + x2) &&& Pop.mask 4 8 := ⟨_, rfl⟩
  obtain ⟨y1, h4⟩ : ∃ y1, y1 = x3 + x3 / 256 := ⟨_, rfl⟩
  obtain ⟨y2, h5⟩ : ∃ y2, y2 = y1 + y1 / 65536 := ⟨_, rfl⟩
  obtain ⟨y3, h6⟩ : ∃ y3, y3 = y2 + y2 / 4294967296 := ⟨_, rfl⟩
  have hc : Pop.cnt x = y3 % 128 := by
    unfold Pop.cnt
    rw [h6, h5, h4, h3, h2, h1]
  have b1 : x1 < 18446744073709551616 := by
    have := Nat.and_le_right (n := x / 2 ^ 1) (m := Pop.mask 1 32)
    have := Nat.and_le_right (n := x) (m := Pop.mask 1 32)
    omega
  have b2 : x2 ≤ 7378697629483820646 := by
    have := Nat.and_le_right (n := x1 / 2 ^ 2) (m := Pop.mask 2 16)
    have := Nat.and_le_right (n := x1) (m := Pop.mask 2 16)
    omega
  have b3 : x3 ≤ 1085102592571150095 := by
    have := Nat.and_le_right (n := x2 / 2 ^ 4 + x2) (m := Pop.mask 4 8)
    omega
  have E1 : IntKind.u64.wrap (bits BinOp.and IntKind.u64 ((x : Int) / 2) 6148914691236517205 + bits BinOp.and IntKind.u64 (x : Int) 6148914691236517205) = (x1 : Int) := by
    have a1 := and_nat (x / 2) 6148914691236517205 (by omega) (by decide)
    have a2 := and_nat x 6148914691236517205 hx (by decide)
    rw [Int.natCast_ediv] at a1
    refine wrap_nat x1 ?_ b1
    rw [k1] at h1
    have a1' : bits BinOp.and IntKind.u64 ((x : Int) / 2) 6148914691236517205 = ((x / 2 &&& 6148914691236517205 : Nat) : Int) := a1
    have a2' : bits BinOp.and IntKind.u64 (x : Int) 6148914691236517205 = ((x &&& 6148914691236517205 : Nat) : Int) := a2
    rw [a1', a2', h1, Int.natCast_add, Nat.pow_one]
  have E2 : IntKind.u64.wrap (bits BinOp.and IntKind.u64 ((x1 : Int) / 4) 3689348814741910323 + bits BinOp.and IntKind.u64 (x1 : Int) 3689348814741910323) = (x2 : Int) := by
    have a1 := and_nat (x1 / 4) 3689348814741910323 (by omega) (by decide)
    have a2 := and_nat x1 3689348814741910323 b1 (by decide)
    rw [Int.natCast_ediv] at a1
    refine wrap_nat x2 ?_ (by omega)
    rw [k2] at h2
    have a1' : bits BinOp.and IntKind.u64 ((x1 : Int) / 4) 3689348814741910323 = ((x1 / 4 &&& 3689348814741910323 : Nat) : Int) := a1
    have a2' : bits BinOp.and IntKind.u64 (x1 : Int) 3689348814741910323 = ((x1 &&& 3689348814741910323 : Nat) : Int) := a2
    rw [a1', a2', h2, Int.natCast_add]
  have E3 : bits BinOp.and IntKind.u64 (IntKind.u64.wrap ((x2 : Int) / 16 + (x2 : Int))) 1085102592571150095 = (x3 : Int) := by
    rw [wrap_nat (x2 / 16 + x2) (by rw [Int.natCast_add, Int.natCast_ediv]; rfl) (by omega)]
    rw [k3] at h3
    rw [h3]
    exact and_nat (x2 / 16 + x2) 1085102592571150095 (by omega) (by decide)
  have E4 : IntKind.u64.wrap ((x3 : Int) + (x3 : Int) / 256) = (y1 : Int) := wrap_nat y1 (by omega) (by omega)
  have E5 : IntKind.u64.wrap ((y1 : Int) + (y1 : Int) / 65536) = (y2 : Int) := wrap_nat y2 (by omega) (by omega)
  have E6 : IntKind.u64.wrap ((y2 : Int) + (y2 : Int) / 4294967296) = (y3 : Int) := wrap_nat y3 (by omega) (by omega)
  have b6 : y3 < 9223372036854775808 := by omega
  have E7 : IntKind.i64.wrap (y3 : Int) = (y3 : Int) := by rw [IntKind.wrap_i64]; omega
  have E8 := and_127 y3 b6
  rw [hc]
  clear h1 h2 h3 h4 h5 h6 k1 k2 k3 hc b1 b2 b3 b6
  go_enter Tryd.func118, Tryd.ntmps118
  go_wp2
  go_ret
  exact ⟨rfl, rfl⟩
/-- How many things a set has. -/
theorem len_cnt (n : Nat) (p : Nat → Bool) (hn : n ≤ 60) (w : World) :
    Calls Tryd.prog 91 #[.int .u64 (bs p n)] w fun e w' => e = .returned (.int .i64 (lst n p).length) ∧ w' = w := by
  go_enter Tryd.func91, Tryd.ntmps91
  go_wp2_with fail
  refine (ones_cnt (bs p n) (bs_64 hn) w).mono ?_
  rintro e w1 ⟨rfl, rfl⟩
  rw [Pop.cnt_bs p hn]
  go_wp2
  go_ret
  exact ⟨rfl, rfl⟩
end Go.Proofs.YtolbpjjjoafkkaaDoor

namespace Go.Proofs.YtolbpjjjoafkkaaDoor
open Go Go.RowKit

end Go.Proofs.YtolbpjjjoafkkaaDoor

namespace Go.Proofs.YtolbpjjjoafkkaaDoor
open Go Go.RowKit

theorem list_at (n g : Nat) (p : Nat → Bool) (w : World) (hn : n ≤ 60) (hT : Tab w) (hg : g ≤ w.heap.size) :
    Calls Tryd.prog 56 #[.int .u64 (bs p n)] w fun e w' => ∃ r, e = .returned r ∧ SlF g w' r (li (lst n p)) ∧ Below w.heap.size w w' := by
  refine (list_ok n p w hn hT).mono ?_
  rintro e w' ⟨r, h1, h2, h3⟩
  exact ⟨r, h1, h2.mono hg, h3⟩
theorem call107 (a : Int) (W : World) : Sem.run Tryd.prog (callFunc 97 (#[.int .i64 a] ++ #[])) W = .ok (.enter 97 (#[.int .i64 a] ++ #[])) W := by kernel_rfl
set_option maxRecDepth 100000 in
theorem all1_ok (a : Int) (w : World) : Calls Tryd.prog 97 (#[.int .i64 a] ++ #[]) w fun e w' => e = .returned (.bool true) ∧ Below w.heap.size w w' := by
  show Calls Tryd.prog 97 #[.int .i64 a] w _
  go_enter Tryd.func97, Tryd.ntmps97
  go_wp2
  go_ret
  exact ⟨rfl, Below.refl _ _⟩
set_option maxRecDepth 100000 in
set_option maxHeartbeats 1000000 in
theorem all_ok (n : Nat) (v u : Value) (e : Nat) (w : World) (hn : n ≤ 60) :
    Calls Tryd.prog 60 #[.agg #[.int .i64 n, v, .int .i64 e, u]] w fun x w' => x = .returned (.int .u64 (bs (fun _ => true) n)) ∧ Below w.heap.size w w' := by
  have hB0 : Below w.heap.size w (w.alloc (.cells #[.int .i64 n, v, .int .i64 e, u] 64)) := balloc w _
  obtain ⟨c0, c1, c2, c3⟩ := (Box4.new w n e v u).cells
  go_enter Tryd.func60, Tryd.ntmps60
  go_wp2_with fail
  refine (those_ok n 97 v u e #[] (fun _ => true) _ hn (fun a W => call107 a W) (fun W a _ _ => all1_ok a W)).mono ?_
  rintro x w1 ⟨rfl, hb1⟩
  go_wp2
  go_ret
  exact ⟨rfl, bcat2 hB0 hb1⟩

/-- What commutes with each thing of a set. -/
def cenq (n : Nat) (zs : List Int) (q : Nat → Bool) (a : Nat) : Bool := (lst n q).all fun x => decide (tm n zs a x = tm n zs x a)
end Go.Proofs.YtolbpjjjoafkkaaDoor

namespace Go.Proofs.YtolbpjjjoafkkaaDoor
open Go Go.RowKit

set_option maxRecDepth 100000 in
set_option maxHeartbeats 1000000 in
theorem rhas_ok (v : Value) (zs : List Int) (a : Int) (w : World) (hv : Sl w v zs) :
    Calls Tryd.prog 26 #[v, .int .i64 a] w fun e w' => e = .returned (.bool (decide (a ∈ zs))) ∧ w' = w := by
  obtain ⟨x, cap, pb, po, rfl, hr, hp, hq3, hq4⟩ := hv
  have hm : zs.length ≤ 9223372036854775807 := by unfold maxLen at hq4; omega
  have HR := hide hr
  clear hr hq4
  go_enter Tryd.func26, Tryd.ntmps26
  go_wp2
  go_loopw [5] (fun i wr => ∃ k : Nat, k ≤ zs.length ∧ i = .int .i64 k ∧ (∀ t, t < k → zs[t]?.getD 0 ≠ a) ∧ wr = w) (fun i _ => zs.length - (intOf i).toNat)
  case atStart => exact ⟨0, Nat.zero_le _, rfl, fun t ht => by omega, rfl⟩
  case round =>
    obtain ⟨k, hk, rfl, hno, rfl⟩ := hrel
    have HNO := hide hno
    clear hno
    by_cases hlt : k < zs.length
    · obtain rfl := HR.out.at_ (by omega)
      have hc := HR.out.cell k hlt
      obtain ⟨c, hce⟩ : ∃ c, zs[k]?.getD 0 = c := ⟨_, rfl⟩
      rw [hce] at hc
      have HCE := hide hce
      clear hce
      by_cases hca : c = a
      · have HD := hide (show decide (a ∈ zs) = true by
          rw [decide_eq_true_eq, ← hca, ← HCE.out]
          simp [hlt])
        go_wp2
        go_ret
        exact ⟨by rw [HD.out]; rfl, rfl⟩
      · go_wp2
        go_roundw
        case rel => exact ⟨k + 1, by omega, by go_num, fun t ht => by
          by_cases e : t = k
          · rw [e, HCE.out]; exact hca
          · exact HNO.out t (by omega), trivial⟩
        case measure => simp [intOf]; omega
    · have HD := hide (show decide (a ∈ zs) = false by
        rw [decide_eq_false_iff_not]
        intro hm
        obtain ⟨t, ht, he⟩ := List.mem_iff_getElem.1 hm
        exact HNO.out t (by omega) (by simp [ht, he]))
      go_wp2
      go_ret
      exact ⟨by rw [HD.out]; rfl, rfl⟩

theorem row_keep {W W' : World} {B : Nat} {v : Value} {zs : List Int} (h : Row W B v zs) (hk : ∀ g, B ≤ g → g < W.heap.size → W'.heap[g]? = W.heap[g]?) : Row W' B v zs := by
  refine ⟨h.1, ?_⟩
  rcases h.2 with h0 | ⟨g, cap, cur, hv, hg, hh, rest⟩
  · exact .inl h0
  · exact .inr ⟨g, cap, cur, hv, hg, (hk g hg (Array.getElem?_eq_some_iff.1 hh).1).trans hh, rest⟩
theorem row_below {W W' : World} {B : Nat} {v : Value} {zs : List Int} (h : Row W B v zs) (hb : Below W.heap.size W W') : Row W' B v zs := row_keep h (fun g _ h2 => hb.block g h2)
theorem row_sl {W : World} {B : Nat} {v : Value} {zs : List Int} (h : Row W B v zs) (h0 : 0 < W.heap.size) : Sl W v zs := Sl.of_own h h0
theorem row_len {W : World} {B : Nat} {v : Value} {zs : List Int} (h : Row W B v zs) : ∃ a cap, v = .slice a zs.length cap := own_slice h
theorem lst_snoc {p : Nat → Bool} (j : Nat) : lst (j + 1) p = if p j then lst j p ++ [j] else lst j p := by
  unfold lst
  rw [List.range_succ, List.filter_append]
  cases h : p j <;> simp [h]
theorem nil_row (W : World) (B : Nat) : Row W B (.slice none 0 0) [] := World.ownsRow_nil _ _ _ _

set_option maxRecDepth 100000 in
set_option maxHeartbeats 2000000 in
theorem rthose_ok (n k : Nat) (v : Value) (caps : Array Value) (p : Nat → Bool) (w : World) (hn : n ≤ 60)
    (hcall : ∀ a W, Sem.run Tryd.prog (callFunc k (#[.int .i64 a] ++ caps)) W = .ok (.enter k (#[.int .i64 a] ++ caps)) W)
    (hp : ∀ (W : World) (a : Nat), Below w.heap.size w W → a < n → Calls Tryd.prog k (#[.int .i64 a] ++ caps) W fun e w' => e = .returned (.bool (p a)) ∧ Below W.heap.size W w') :
    Calls Tryd.prog 24 #[.agg #[.int .i64 n, v], .func (.func k) #[] caps] w fun x w' => ∃ r, x = .returned r ∧ Row w' w.heap.size r (li (lst n p)) ∧ Below w.heap.size w w' := by
  obtain ⟨i0, hi, hz0, hz1, hz2⟩ := info_parts info3b
  have HP := hide hp
  clear hp
  have hB0 : Below w.heap.size w (w.alloc (.cells #[.int .i64 n, v] 24)) := balloc w _
  have hX0 : Blk (w.alloc (.cells #[.int .i64 n, v] 24)) w.heap.size 24 [.int .i64 n, v] := blk0 _ _
  have hs0 : (w.alloc (.cells #[.int .i64 n, v] 24)).heap.size = w.heap.size + 1 := by simp
  go_enter Tryd.func24, Tryd.ntmps24
  go_wp2
  go_loopw [5, 6] (fun r i wr => ∃ j : Nat, j ≤ n ∧ i = .int .i64 j ∧ Row wr (w.heap.size + 1) r (li (lst j p)) ∧ Blk wr w.heap.size 24 [.int .i64 n, v] ∧ Below w.heap.size w wr) (fun _ i _ => n - (intOf i).toNat)
  case atStart => exact ⟨0, Nat.zero_le _, rfl, nil_row _ _, hX0, hB0⟩
  case round =>
    obtain ⟨j, hj, rfl, hrow, hX, hB⟩ := hrel
    clear hX0 hs0
    obtain ⟨r, rfl⟩ : ∃ r, r = u5 := ⟨_, rfl⟩
    obtain ⟨c0, c1, _, _⟩ := hX.two
    by_cases hlt : j < n
    · go_wp2_with fail
      refine (HP.out wr j hB hlt).mono ?_
      rintro e1 w1 ⟨rfl, hb1⟩
      clear c0 c1
      have hB1 := bcat hB hb1 hB.size
      have hX1 := blk_below hX hb1
      have hrow1 := row_below hrow hb1
      have hs1 := hX1.lt
      have hll := lst_len j p
      cases hpj : p j with
      | true =>
        have HE := hide (show lst (j + 1) p = lst j p ++ [j] by rw [lst_snoc, if_pos hpj])
        have HLL := hide (show (li (lst j p)).length ≤ 60 by rw [li_len]; omega)
        have hown : w1.ownsRow (w.heap.size + 1) 3 1 r (li (lst j p)).length ((li (lst j p)).map (Value.int .i64)) := hrow1
        clear hrow hrow1
        go_wp2_with (first
          | (at_builtin; refine wpList_append_own _ rfl _ _ 22 rfl (w.heap.size + 1) 3 i0 (.int .i64 0) 1 8 under22b hi hz0 hz1 hz2 rfl (by decide) _ _ _ rfl (World.ownsRow.alloc hown _) ⟨w1.heap.size, 0, none⟩ 1 1 [.int .i64 j] rfl rfl ?c1 ?c2 ?c3 ?c4 ?c5 ?_))
        case c1 => exact cell_one_new _ _ _
        case c2 => simp [Value.oneCell']
        case c3 => unfold maxLen; have := HLL.out; omega
        case c4 => have := HLL.out; omega
        case c5 => simp; omega
        intro v' w2 hown' hgrow _
        obtain ⟨g', cap', rfl⟩ := ownsRow_succ hown'
        have hB2 : Below w.heap.size w w2 := (hB1.alloc hB1.size _).grown hgrow (by simp; omega) (fun t e => by have := owns_ge hown t e; omega)
        have hX2 : Blk w2 w.heap.size 24 [.int .i64 n, v] := (hX1.alloc _).of_eq (hgrow.block _ (by simp; omega) (fun e => by have := owns_ge hown _ e.symm; omega))
        have hrow2 : Row w2 (w.heap.size + 1) (.slice (some ⟨g', 0, none⟩) ((li (lst j p)).length + 1) cap') (li (lst (j + 1) p)) := by
          unfold Row
          rw [HE.out]
          simpa [li] using hown'
        clear hown' hgrow hown
        go_wp2
        go_roundw
        case rel => exact ⟨j + 1, by omega, by go_num, hrow2, hX2, hB2⟩
        case measure => simp [intOf]; omega
      | false =>
        have HE := hide (show lst (j + 1) p = lst j p by rw [lst_snoc, if_neg (by simp [hpj])])
        go_wp2
        go_roundw
        case rel => exact ⟨j + 1, by omega, by go_num, by rw [HE.out]; exact hrow1, hX1, hB1⟩
        case measure => simp [intOf]; omega
    · have hjn : j = n := by omega
      subst hjn
      have hrow9 := owns_mono hrow (show w.heap.size ≤ w.heap.size + 1 by omega)
      go_wp2
      go_ret
      exact ⟨_, rfl, hrow9, hB⟩

set_option maxRecDepth 100000 in
set_option maxHeartbeats 1000000 in
theorem parted_ok (v1 v2 : Value) (zs ys : List Int) (w : World) (h1 : Sl w v1 zs) (h2 : Sl w v2 ys) :
    Calls Tryd.prog 29 #[v1, v2] w fun e w' => e = .returned (.bool (zs.all fun a => decide (a ∈ ys))) ∧ w' = w := by
  obtain ⟨x, cap, pb, po, rfl, hr, hp, hq3, hq4⟩ := h1
  have hm : zs.length ≤ 9223372036854775807 := by unfold maxLen at hq4; omega
  have HR := hide hr
  have HH := hide (fun a => rhas_ok v2 ys a w h2)
  clear hr hq4
  go_enter Tryd.func29, Tryd.ntmps29
  go_wp2
  go_loopw [5] (fun i wr => ∃ k : Nat, k ≤ zs.length ∧ i = .int .i64 k ∧ (∀ t, t < k → zs[t]?.getD 0 ∈ ys) ∧ wr = w) (fun i _ => zs.length - (intOf i).toNat)
  case atStart => exact ⟨0, Nat.zero_le _, rfl, fun t ht => by omega, rfl⟩
  case round =>
    obtain ⟨k, hk, rfl, hno, rfl⟩ := hrel
    have HNO := hide hno
    clear hno
    by_cases hlt : k < zs.length
    · obtain rfl := HR.out.at_ (by omega)
      have hc := HR.out.cell k hlt
      obtain ⟨c, hce⟩ : ∃ c, zs[k]?.getD 0 = c := ⟨_, rfl⟩
      rw [hce] at hc
      have HCE := hide hce
      clear hce
      have HC := hide (HH.out c)
      by_cases hca : c ∈ ys
      · rw [decide_eq_true hca] at HC
        go_wp2_with fail
        refine HC.out.mono ?_
        rintro e1 w1 ⟨rfl, rfl⟩
        go_wp2
        go_roundw
        case rel => exact ⟨k + 1, by omega, by go_num, fun t ht => by
          by_cases e : t = k
          · rw [e, HCE.out]; exact hca
          · exact HNO.out t (by omega), trivial⟩
        case measure => simp [intOf]; omega
      · rw [decide_eq_false hca] at HC
        have HD := hide (show (zs.all fun a => decide (a ∈ ys)) = false by
          rw [List.all_eq_false]
          refine ⟨zs[k], List.getElem_mem hlt, ?_⟩
          have := HCE.out
          simp [hlt] at this
          rw [this]; simpa using hca)
        go_wp2_with fail
        refine HC.out.mono ?_
        rintro e1 w1 ⟨rfl, rfl⟩
        go_wp2
        go_ret
        exact ⟨by rw [HD.out]; rfl, rfl⟩
    · have HD := hide (show (zs.all fun a => decide (a ∈ ys)) = true by
        rw [List.all_eq_true]
        intro z hz
        obtain ⟨t, ht, he⟩ := List.mem_iff_getElem.1 hz
        have := HNO.out t (by omega)
        simp [ht, he] at this
        simpa using this)
      go_wp2
      go_ret
      exact ⟨by rw [HD.out]; rfl, rfl⟩

theorem take_snoc' {zs : List Int} {k : Nat} (hk : k < zs.length) : zs.take (k + 1) = zs.take k ++ [zs[k]?.getD 0] := by
  rw [List.take_succ_eq_append_getElem hk]; simp [hk]

theorem range_snoc (k : Nat) : li (List.range (k + 1)) = li (List.range k) ++ [(k : Int)] := by simp [li, List.range_succ]
end Go.Proofs.YtolbpjjjoafkkaaDoor
