/- What package sub's made makes: what the makers make, all products of them. What package sub's opened answers: at every table. What is wrong with a list as a set of a group of n things: the program's answer and the document's. What package sub's openedSet answers: at every table and every list. What the document's ListFault and SetFault tell. What package sub's Made and Is answer, and its openedSubgroup: at every table and every list. Condition: the library's table of places lies as its text lays it. What package sub's all, central and commutator answer, and Central, Centre: at every table and every list. Condition: the library's table of places lies as its text lays it. What the document's Has, Those, Parted, Both and Stays answer. The example that every law of this chapter begins with: the square's group and its centre. Condition: the library's table of places lies as its text lays it. Products of two subgroups, told by the laws' own searches; lists and their sets. What package sub's commutator and Comm answer. Condition: the library's table of places lies as its text lays it. What package sub's conjugated, normaliser and openedSubgroup answer, and Normaliser, Normal, Core and Closure where nothing is wrong. Condition: the library's table of places lies as its text lays it. What package sub's Normal, Core and Closure answer where nothing is wrong. Condition: the library's table of places lies as its text lays it. Texts of the Sub family that later ones lean on: what stays in memory; normal subgroups, cores and closures as tests. The document's way to what a set makes: products of two until nothing is new, as math. No condition. What the document's Span answers: what a list makes. What the document's Closed answers, and the law's listAs. What the document's C and Commutator answer, and its SubFault. What the document's SubFault tells. What package sub's openedSubgroup answers where something is wrong, and what Normaliser, Normal, Core and Closure answer then. Condition: the library's table of places lies as its text lays it. What the document's SameGroup and ThingFault and the law's numberAs tell. What the law SubMakes answers: true, at every table and every list. Condition: the library's table of places lies as its text lays it. -/
import Derived.Test.YtgejngpioldhpaaGreatDoorZ2
import Derived.Test.YtgejngpioldhpaaGreatDoorZ1
import Derived.Deep.DeepCutAuto
namespace Go.Proofs.YtgejngpioldhpaaGreatDoor
open Go Go.RowKit

/-- What the set q makes in the group. -/
abbrev Mkd (n : Nat) (zs : List Int) (e : Nat) (q : Nat → Bool) (a : Nat) : Prop := Fin.Gen (List.range n) (tm n zs) e (fun x => q x = true) a
/-- How far it has come: of the things ahead of k all products with makers are found, of the one at k those with the first j makers. -/
structure Inv (n : Nat) (zs : List Int) (e : Nat) (q : Nat → Bool) (F : List Nat) (k j : Nat) : Prop where
  nd : F.Nodup
  mem : ∀ x, x ∈ F → x < n ∧ Mkd n zs e q x
  one : e ∈ F
  done : ∀ i, i < k → ∀ y, F[i]? = some y → ∀ x, x < n → q x = true → tm n zs y x ∈ F
  part : ∀ y, F[k]? = some y → ∀ i, i < j → ∀ x, (lst n q)[i]? = some x → tm n zs y x ∈ F
theorem Inv.start {n : Nat} {zs : List Int} {e : Nat} {q : Nat → Bool} (g : IsGrp n zs e) : Inv n zs e q [e] 0 0 :=
  ⟨by simp, fun x hx => by simp at hx; subst hx; exact ⟨g.elt, (Fin.Gen.sg _).one⟩, by simp, fun i hi => by omega, fun _ _ i hi => by omega⟩
theorem Inv.step {n : Nat} {zs : List Int} {e : Nat} {q : Nat → Bool} {F : List Nat} {k j x y : Nat} (g : IsGrp n zs e) (h : Inv n zs e q F k j) (hy : F[k]? = some y) (hx : (lst n q)[j]? = some x) :
    Inv n zs e q (if tm n zs y x ∈ F then F else F ++ [tm n zs y x]) k (j + 1) := by
  have hkl := (List.getElem?_eq_some_iff.1 hy).1
  have hyF : y ∈ F := List.mem_of_getElem? hy
  have hxl := mem_lst.1 (List.mem_of_getElem? hx)
  obtain ⟨hyn, hyg⟩ := h.mem y hyF
  have hsub : ∀ z, z ∈ F → z ∈ (if tm n zs y x ∈ F then F else F ++ [tm n zs y x]) := fun z hz => by split <;> simp [hz]
  have hnew : tm n zs y x ∈ (if tm n zs y x ∈ F then F else F ++ [tm n zs y x]) := by split <;> simp_all
  have hget : ∀ i, i < F.length → (if tm n zs y x ∈ F then F else F ++ [tm n zs y x])[i]? = F[i]? := fun i hi => by
    split
    · rfl
    · rw [List.getElem?_append_left hi]
  refine ⟨?_, ?_, hsub _ h.one, ?_, ?_⟩
  · split
    · exact h.nd
    · rename_i hn
      exact List.nodup_append.2 ⟨h.nd, by simp, fun a ha b hb => by simp at hb; subst hb; exact fun e => hn (e ▸ ha)⟩
  · intro z hz
    have : z ∈ F ∨ z = tm n zs y x := by split at hz <;> simp_all
    rcases this with h1 | rfl
    · exact h.mem z h1
    · exact ⟨tm_lt g.tab hyn hxl.1, (Fin.Gen.sg _).mul _ _ (List.mem_range.2 hyn) (List.mem_range.2 hxl.1) hyg (Fin.Gen.base (List.mem_range.2 hxl.1) hxl.2)⟩
  · intro i hi z hz a ha hq
    rw [hget i (by omega)] at hz
    exact hsub _ (h.done i hi z hz a ha hq)
  · intro z hz i hi a ha
    rw [hget k hkl, hy] at hz
    obtain rfl := Option.some.inj hz
    by_cases hij : i = j
    · subst hij
      rw [hx] at ha
      obtain rfl := Option.some.inj ha
      exact hnew
    · exact hsub _ (h.part y hy i (by omega) a ha)
theorem Inv.next {n : Nat} {zs : List Int} {e : Nat} {q : Nat → Bool} {F : List Nat} {k j : Nat} (h : Inv n zs e q F k j) (hj : (lst n q).length ≤ j) : Inv n zs e q F (k + 1) 0 := by
  refine ⟨h.nd, h.mem, h.one, ?_, fun _ _ i hi => by omega⟩
  intro i hi y hy x hx hq
  by_cases hik : i = k
  · subst hik
    obtain ⟨t, ht⟩ := List.mem_iff_getElem?.1 (mem_lst.2 ⟨hx, hq⟩)
    exact h.part y hy t (by have := (List.getElem?_eq_some_iff.1 ht).1; omega) x ht
  · exact h.done i (by omega) y hy x hx hq
theorem Inv.fin {n : Nat} {zs : List Int} {e : Nat} {q : Nat → Bool} {F : List Nat} {k j : Nat} (g : IsGrp n zs e) (h : Inv n zs e q F k j) (hk : F.length ≤ k) : ∀ a, a < n → (a ∈ F ↔ Mkd n zs e q a) := by
  intro a ha
  refine ⟨fun hm => (h.mem a hm).2, fun hg => ?_⟩
  refine closed_gen (P := fun z => z ∈ F) (grp_fg g) h.one (fun y x _ hx hy hX => ?_) (List.mem_range.2 ha) hg
  obtain ⟨t, ht⟩ := List.mem_iff_getElem?.1 hy
  exact h.done t (by have := (List.getElem?_eq_some_iff.1 ht).1; omega) y ht x (List.mem_range.1 hx) hX
theorem Inv.len {n : Nat} {zs : List Int} {e : Nat} {q : Nat → Bool} {F : List Nat} {k j : Nat} (h : Inv n zs e q F k j) : F.length ≤ n := nodup_fits h.nd (fun x hx => (h.mem x hx).1)
theorem take_len (F : List Nat) (a : Nat) : F.length ≤ (if a ∈ F then F else F ++ [a]).length := by split <;> simp
theorem take_get {F : List Nat} {k y : Nat} (a : Nat) (h : F[k]? = some y) : (if a ∈ F then F else F ++ [a])[k]? = some y := by
  split
  · exact h
  · rw [List.getElem?_append_left (List.getElem?_eq_some_iff.1 h).1]; exact h

set_option maxRecDepth 100000 in
set_option maxHeartbeats 4000000 in
theorem made_ok (n : Nat) (v u : Value) (zs : List Int) (e : Nat) (q p : Nat → Bool) (w : World) (hG : GA w n v e u zs) (hT : Tab w) (hp : ∀ a, a < n → (p a = true ↔ Mkd n zs e q a)) :
    Calls Tryz.prog 54 #[.agg #[.int .i64 n, v, .int .i64 e, u], .int .u64 (bs q n)] w fun x w' => x = .returned (.int .u64 (bs p n)) ∧ Below w.heap.size w w' := by
  have hn := hG.le
  have hgrp := hG.grp
  have helt := hgrp.elt
  obtain ⟨w1, hw1⟩ : ∃ w1, w1 = ((w.alloc (.cells #[.int .i64 n, v, .int .i64 e, u] 51)).alloc (.cells #[.int .u64 0] 55)).alloc (.cells #[.slice none 0 0] 22) := ⟨_, rfl⟩
  have hB1 : Below w.heap.size w w1 := by
    rw [hw1]
    exact (((balloc w _).alloc (by simp) _).alloc (by simp; omega) _)
  have hz1 : w1.heap.size = w.heap.size + 3 := by rw [hw1]; simp
  have hX4 : Box4 w1 w.heap.size n e v u := by rw [hw1]; exact ⟨((blk4 _ _ _ _).alloc _).alloc _⟩
  have hXs : Boxed w1 (w.heap.size + 1) 55 (.int .u64 0) := by
    rw [hw1]
    have := (Boxed.new (w.alloc (.cells #[.int .i64 n, v, .int .i64 e, u] 51)) 55 (.int .u64 0)).alloc (.cells #[.slice none 0 0] 22)
    simpa using this
  have hXf : Boxed w1 (w.heap.size + 1 + 1) 22 (.slice none 0 0) := by
    rw [hw1]
    have := Boxed.new ((w.alloc (.cells #[.int .i64 n, v, .int .i64 e, u] 51)).alloc (.cells #[.int .u64 0] 55)) 22 (.slice none 0 0)
    simpa using this
  have HL := hide (list_ok n q w1 hn (hT.below hB1))
  obtain ⟨c0, c1, c2, c3⟩ := hX4.cells
  have HZ := hide hz1
  clear hz1
  go_enter Tryz.func54, Tryz.ntmps54
  go_wp2_with fail
  rw [← hw1]
  clear hw1
  refine HL.out.mono ?_
  rintro e1 w3 ⟨mk, rfl, hmk, hb3⟩
  have hB3 := bcat hB1 hb3 hB1.size
  have hX4 := hX4.below hb3
  have hXs := Boxed.below hXs hb3
  have hXf := Boxed.below hXf hb3
  have hG3 := hG.below hB3
  have HZ3 := hide (show w.heap.size + 3 ≤ w3.heap.size by rw [← HZ.out]; exact hb3.size)
  have hF0 : Fnd w3 w3.heap.size (w.heap.size + 1) (w.heap.size + 1 + 1) n [] := ⟨by simpa [bs_none] using hXs, ⟨_, hXf, World.ownsRow_nil _ _ _ _⟩, by omega, by have := HZ3.out; omega, by have := HZ3.out; omega⟩
  have HT0 := hide (take_ok w3.heap.size (w.heap.size + 1) (w.heap.size + 1 + 1) n e [] w3 hF0 (Nat.le_refl _) hn helt (by simp))
  obtain ⟨c0, c1, c2, c3⟩ := hX4.cells
  obtain ⟨ma, mcap, mpb, mpo, rfl, hmr, hmp, hm3, hm4, hmb⟩ := hmk
  rw [li_len] at hm3
  have HMB := hide (show w.heap.size + 3 ≤ mpb by rw [← HZ.out]; exact hmb)
  have HMR := hide hmr
  have hml := lst_len n q
  rw [li_len]
  have HLen := hide (li_len (lst n q))
  clear hmr hmb hF0 hXs hXf HL HZ hm4
  go_wp2_with fail
  refine HT0.out.mono ?_
  rintro e2 w4 ⟨rfl, hF4, hC4⟩
  have hF4 : Fnd w4 w3.heap.size (w.heap.size + 1) (w.heap.size + 1 + 1) n [e] := by simpa using hF4
  have hI4 : Inv n zs e q [e] 0 0 := Inv.start hgrp
  clear HT0 c0 c1 c2 c3
  go_wp2
  go_loopw [9] (fun i wr => ∃ (k : Nat) (F : List Nat), i = .int .i64 k ∧ k ≤ F.length ∧ Fnd wr w3.heap.size (w.heap.size + 1) (w.heap.size + 1 + 1) n F ∧ Inv n zs e q F k 0 ∧ Chg w3.heap.size (w.heap.size + 1) (w.heap.size + 1 + 1) w3 wr) (fun i _ => n - (intOf i).toNat)
  case atStart => exact ⟨0, [e], rfl, by simp, hF4, hI4, hC4⟩
  case round =>
    obtain ⟨k, F, rfl, hk, hF, hI, hC⟩ := hrel
    have hFl := hI.len
    obtain ⟨fv, hfb, hrow⟩ := hF.fnd
    obtain ⟨fa, fcap, rfl⟩ := own_slice hrow
    have hfc := hfb.cell
    have hsc := hF.sub.cell
    clear hfb hrow
    by_cases hlt : k < F.length
    · obtain ⟨y, hy⟩ : ∃ y, F[k]? = some y := ⟨F[k], List.getElem?_eq_getElem hlt⟩
      have HY := hide hy
      clear hy
      go_wp2
      clear hsc hfc
      go_loopw [27] (fun i wr => ∃ (j : Nat) (F' : List Nat), i = .int .i64 j ∧ j ≤ (lst n q).length ∧ F'[k]? = some y ∧ Fnd wr w3.heap.size (w.heap.size + 1) (w.heap.size + 1 + 1) n F' ∧ Inv n zs e q F' k j ∧ Chg w3.heap.size (w.heap.size + 1) (w.heap.size + 1 + 1) w3 wr) (fun i _ => (lst n q).length - (intOf i).toNat)
      case atStart => exact ⟨0, F, rfl, by omega, HY.out, hF, hI, hC⟩
      case round =>
        obtain ⟨j, F', rfl, hj, hy', hF', hI', hC'⟩ := hrel
        clear hF hI hC
        have hFl' := hI'.len
        by_cases hltj : j < (lst n q).length
        · obtain ⟨x, hx⟩ : ∃ x, (lst n q)[j]? = some x := ⟨(lst n q)[j], List.getElem?_eq_getElem hltj⟩
          have hxl := mem_lst.1 (List.mem_of_getElem? hx)
          obtain ⟨hyn, _⟩ := hI'.mem y (List.mem_of_getElem? hy')
          have hkl := (List.getElem?_eq_some_iff.1 hy').1
          have hBw : Below w.heap.size w wr := by
            have h1 := hC'.below (g := w.heap.size) (by omega) (by omega) (by have := HZ3.out; omega)
            exact hB3.trans h1
          have hmc : wr.cell? ⟨mpb, mpo + j, none⟩ = some (.int .i64 x) := by
            have h1 := HMR.out.cell j (by rw [HLen.out]; exact hltj)
            rw [li_get hltj, (List.getElem?_eq_some_iff.1 hx).2] at h1
            rw [← h1]
            exact World.cell?_of_block (a := ⟨mpb, mpo + j, none⟩) (hC'.block mpb hmp (by have := HMB.out; omega) (by have := HMB.out; omega))
          obtain rfl := HMR.out.at_ (by rw [HLen.out]; omega)
          have hX4' : Box4 wr w.heap.size n e v u := ⟨(hX4.blk).of_eq (hC'.block _ (by have := HZ3.out; omega) (by omega) (by omega))⟩
          have hGr := hG.below hBw
          obtain ⟨fv', hfb', hrow'⟩ := hF'.fnd
          have hsl := Sl.of_own (base := w3.heap.size) (v := fv') (zs := li F') (by rw [li_len]; exact hrow') (Nat.lt_of_le_of_lt (Nat.zero_le _) hfb'.lt)
          obtain ⟨fa', fcap', fpb, fpo, rfl, hfr, hfp, hf3, hf4⟩ := hsl
          have hfk : wr.cell? ⟨fpb, fpo + k, none⟩ = some (.int .i64 y) := by
            have h1 := hfr.cell k (by rw [li_len]; exact hkl)
            rw [li_get hkl, (List.getElem?_eq_some_iff.1 hy').2] at h1
            exact h1
          obtain rfl := hfr.at_ (by rw [li_len]; omega)
          have hfc' := hfb'.cell
          rw [li_len] at hfc' hf3 hfb' hrow'
          obtain ⟨c0, c1, c2, c3⟩ := hX4'.cells
          have HP := hide (prd_ok n v u zs e y x wr.drew hgrp.tab (hGr.mul.below (bdrew (Below.refl _ wr))) hyn hxl.1)
          have htl := tm_lt hgrp.tab hyn hxl.1
          have HTK := hide (fun W (h : Below wr.heap.size wr W) => take_ok w3.heap.size (w.heap.size + 1) (w.heap.size + 1 + 1) n (tm n zs y x) F' W (hF'.below h) (Nat.le_trans hC'.size h.size) hn htl (by omega))
          have HST := hide (Inv.step hgrp hI' hy' hx)
          have HGT := hide (take_get (tm n zs y x) hy')
          have HC' := hide hC'
          clear hfb' hrow' hfr hF' hI' hX4' hGr hx hy' hBw hC'
          generalize tm n zs y x = t at *
          have hkF : (k : Int) < (F'.length : Int) := by omega
          go_wp2_with fail
          go_region_with (first
            | (go_at_call 79; refine HP.out.mono ?_; rintro e8 w8 ⟨rfl, hb8⟩; have hb9 : Below wr.heap.size wr w8 := ⟨hb8.os, hb8.tape, hb8.output, hb8.size, hb8.block⟩)
            | (go_at_call 77; refine (HTK.out _ hb9).mono ?_; rintro e9 w9 ⟨rfl, hF9, hC9⟩))
          all_goals (
            have hC10 := (HC'.out.trans (Chg.of_below hb9 HC'.out.size)).trans hC9
            go_wp2
            go_roundw
            case rel => exact ⟨j + 1, _, by go_num, by omega, HGT.out, hF9, HST.out, hC10⟩
            case measure => simp [intOf]; omega)
        · have HN := hide (hI'.next (by omega))
          have HL2 := hide (List.getElem?_eq_some_iff.1 hy').1
          go_wp2
          go_roundw
          case rel => exact ⟨k + 1, F', by go_num, HL2.out, hF', HN.out, hC'⟩
          case measure => simp [intOf]; omega
    · have HE := hide (show bs (fun a => decide (a ∈ F)) n = bs p n from bs_ext fun a ha => by
        rw [Bool.eq_iff_iff, decide_eq_true_eq, hI.fin hgrp (by omega) a ha, hp a ha])
      have HB := hide (hB3.trans (hC.below (g := w.heap.size) (by omega) (by omega) (by have := HZ3.out; omega)))
      go_wp2
      go_ret
      exact ⟨by rw [← HE.out]; rfl, HB.out⟩
end Go.Proofs.YtgejngpioldhpaaGreatDoor

namespace Go.Proofs.YtgejngpioldhpaaGreatDoor
open Go Go.RowKit

theorem SlF.of_blk {base : Nat} {w : World} {g n : Nat} {zs : List Int} (h : Blk w g 3 (zs.map (Value.int .i64))) (hn : n = zs.length) (hl : zs.length ≤ 1000000) (hb : base ≤ g) : SlF base w (.slice (some ⟨g, 0, none⟩) n n) zs := by
  subst hn
  refine ⟨some ⟨g, 0, none⟩, zs.length, g, 0, rfl, ⟨fun _ => rfl, fun j hj => ?_⟩, h.lt, Nat.le_refl _, by unfold maxLen; omega, hb⟩
  rw [Nat.zero_add]; exact h.int hj
/-- Six stores, into a group and a fault that a function answers. -/
theorem put6 {W w : World} {x y z t a b : Value} (hG : Blk W (w.heap.size + 1) 51 [x, y, z, t]) (hR : Blk W (w.heap.size + 1 + 1) 27 [a, b]) (hB : Below w.heap.size w W) (n v e u c d : Value) :
    ∃ W', W' = (((((W.setCell ⟨w.heap.size + 1, 0, none⟩ n).setCell ⟨w.heap.size + 1, 1, none⟩ v).setCell ⟨w.heap.size + 1, 2, none⟩ e).setCell ⟨w.heap.size + 1, 3, none⟩ u).setCell ⟨w.heap.size + 1 + 1, 0, none⟩ c).setCell ⟨w.heap.size + 1 + 1, 1, none⟩ d ∧
      Blk W' (w.heap.size + 1) 51 [n, v, e, u] ∧ Blk W' (w.heap.size + 1 + 1) 27 [c, d] ∧ Below w.heap.size w W' ∧ W'.heap.size = W.heap.size ∧ ∀ k, w.heap.size + 3 ≤ k → W'.heap[k]? = W.heap[k]? := by
  refine ⟨_, rfl, ?_, ?_, ?_, by simp [World.setCell], ?_⟩
  · exact (((((hG.set 0 n).set 1 v).set 2 e).set 3 u).other (p := ⟨w.heap.size + 1 + 1, 0, none⟩) (by simp) c).other (p := ⟨w.heap.size + 1 + 1, 1, none⟩) (by simp) d
  · exact ((((((hR.other (p := ⟨w.heap.size + 1, 0, none⟩) (by simp) n).other (p := ⟨w.heap.size + 1, 1, none⟩) (by simp) v).other (p := ⟨w.heap.size + 1, 2, none⟩) (by simp) e).other (p := ⟨w.heap.size + 1, 3, none⟩) (by simp) u)).set 0 c).set 1 d
  · exact (((((hB.setCell (p := ⟨w.heap.size + 1, 0, none⟩) (by simp) n).setCell (p := ⟨w.heap.size + 1, 1, none⟩) (by simp) v).setCell (p := ⟨w.heap.size + 1, 2, none⟩) (by simp) e).setCell (p := ⟨w.heap.size + 1, 3, none⟩) (by simp) u).setCell (p := ⟨w.heap.size + 1 + 1, 0, none⟩) (by simp; omega) c).setCell (p := ⟨w.heap.size + 1 + 1, 1, none⟩) (by simp; omega) d
  · intro k hk
    rw [Below.heap_setCell _ _ _ k (by simp; omega), Below.heap_setCell _ _ _ k (by simp; omega), Below.heap_setCell _ _ _ k (by simp; omega), Below.heap_setCell _ _ _ k (by simp; omega), Below.heap_setCell _ _ _ k (by simp; omega), Below.heap_setCell _ _ _ k (by simp; omega)]
/-- The value of no group. -/
def zg : Value := .agg #[.int .i64 0, .slice none 0 0, .int .i64 0, .slice none 0 0]
theorem Blk.self4 {W : World} {b : Nat} {T : TypeId} {x y z t : Value} (h : Blk W b T [x, y, z, t]) : W.setCell ⟨b, 0, none⟩ x = W ∧ W.setCell ⟨b, 1, none⟩ y = W ∧ W.setCell ⟨b, 2, none⟩ z = W ∧ W.setCell ⟨b, 3, none⟩ t = W :=
  ⟨setCell_self h (by simp), setCell_self h (by simp), setCell_self h (by simp), setCell_self h (by simp)⟩
/-- A block of four cells, with all that the walk asks of it. -/
structure Four (W : World) (b : Nat) (x y z t : Value) : Prop where
  blk : Blk W b 51 [x, y, z, t]
  c0 : W.cell? ⟨b, 0, none⟩ = some x
  c1 : W.cell? ⟨b, 1, none⟩ = some y
  c2 : W.cell? ⟨b, 2, none⟩ = some z
  c3 : W.cell? ⟨b, 3, none⟩ = some t
  f0 : W.frozen? ⟨b, 0, none⟩ = false
  f1 : W.frozen? ⟨b, 1, none⟩ = false
  f2 : W.frozen? ⟨b, 2, none⟩ = false
  f3 : W.frozen? ⟨b, 3, none⟩ = false
  s0 : W.setCell ⟨b, 0, none⟩ x = W
  s1 : W.setCell ⟨b, 1, none⟩ y = W
  s2 : W.setCell ⟨b, 2, none⟩ z = W
  s3 : W.setCell ⟨b, 3, none⟩ t = W
theorem Four.mk' {W : World} {b : Nat} {x y z t : Value} (h : Blk W b 51 [x, y, z, t]) : Four W b x y z t :=
  ⟨h, h.cell 0, h.cell 1, h.cell 2, h.cell 3, h.frozen 0, h.frozen 1, h.frozen 2, h.frozen 3, h.self4.1, h.self4.2.1, h.self4.2.2.1, h.self4.2.2.2⟩
/-- What lies where a function begins that takes a table and answers a group and a fault. -/
structure Beg4 (w w0 : World) (N : Int) (v : Value) : Prop where
  eq : w0 = ((w.alloc (.cells #[.int .i64 N, v] 24)).alloc (.cells #[.int .i64 0, .slice none 0 0, .int .i64 0, .slice none 0 0] 51)).alloc (.cells #[.int .i64 0, .int .i64 0] 27)
  bel : Below w.heap.size w w0
  box : BoxG w0 w.heap.size N v
  grp : Blk w0 (w.heap.size + 1) 51 [.int .i64 0, .slice none 0 0, .int .i64 0, .slice none 0 0]
  res : Blk w0 (w.heap.size + 1 + 1) 27 [.int .i64 0, .int .i64 0]
  size : w0.heap.size = w.heap.size + 3
theorem Beg4.new (w : World) (N : Int) (v : Value) : ∃ w0, Beg4 w w0 N v := by
  refine ⟨_, rfl, ((balloc w _).alloc (by simp) _).alloc (by simp; omega) _, ((blk0 _ _).alloc _).alloc _, ?_, ?_, by simp⟩
  · have := (blk4 (w := w.alloc (.cells #[.int .i64 N, v] 24)) (T := 51) (.int .i64 0) (.slice none 0 0) (.int .i64 0) (.slice none 0 0)).alloc (.cells #[.int .i64 0, .int .i64 0] 27)
    rw [World.size_alloc] at this; exact this
  · have := Two.new ((w.alloc (.cells #[.int .i64 N, v] 24)).alloc (.cells #[.int .i64 0, .slice none 0 0, .int .i64 0, .slice none 0 0] 51))
    rw [World.size_alloc, World.size_alloc] at this; exact this.blk

set_option maxRecDepth 100000 in
set_option maxHeartbeats 4000000 in
theorem opened_bad (N : Int) (v : Value) (zs : List Int) (w : World) (hv : Sl w v zs) (hc : (gfault N zs).1 ≠ 0) :
    Calls Tryz.prog 52 #[.agg #[.int .i64 N, v]] w fun x w' => x = .returned (.tuple #[.agg #[.int .i64 0, .slice none 0 0, .int .i64 0, .slice none 0 0], .agg #[.int .i64 (gfault N zs).1, .int .i64 (gfault N zs).2]]) ∧ Below w.heap.size w w' := by
  obtain ⟨w0, BG⟩ := Beg4.new w N v
  have hv0 := hv.below BG.bel
  obtain ⟨c0, c1, _, _⟩ := BG.box.two
  have hck := one_any N v zs w0 hv0
  obtain ⟨c, i, hci⟩ : ∃ c i, gfault N zs = (c, i) := ⟨_, _, rfl⟩
  rw [hci] at hck hc ⊢
  simp only at hc hck
  rw [show okI c (one N.toNat zs) = 0 from if_neg hc] at hck
  have HCK := hide hck
  clear hck hci
  have hcb : (c != 0) = true := by simpa using hc
  rw [BG.eq] at c0 c1
  go_enter Tryz.func52, Tryz.ntmps52
  go_wp2_with fail
  rw [← BG.eq]
  refine HCK.out.mono ?_
  rintro x w1 ⟨rfl, hb1⟩
  clear c0 c1
  have hB1 := bcat2 hb1 (balloc w1 (.cells #[.int .i64 c, .int .i64 i] 27))
  obtain ⟨hG1, g0, g1, g2, g3, gf0, gf1, gf2, gf3, gs0, gs1, gs2, gs3⟩ := Four.mk' (blk_below BG.grp hB1)
  have hR1 := blk_below BG.res hB1
  have hF1 : Blk (w1.alloc (.cells #[.int .i64 c, .int .i64 i] 27)) w1.heap.size 27 [.int .i64 c, .int .i64 i] := blk0 _ _
  have hBw := bcat BG.bel hB1 BG.bel.size
  obtain ⟨y0, y1, fy0, fy1⟩ := hR1.two
  obtain ⟨t0, t1, _, _⟩ := hF1.two
  go_wp2_with fail
  generalize w1.alloc (.cells #[.int .i64 c, .int .i64 i] 27) = w2 at *
  go_region
  go_wp2
  obtain ⟨hR6, hB6⟩ := put2 hR1 hBw (by omega) c i
  have hB7 := bdrew hB6
  have hR7 : Blk ((w2.setCell ⟨w.heap.size + 1 + 1, 0, none⟩ (.int .i64 c)).setCell ⟨w.heap.size + 1 + 1, 1, none⟩ (.int .i64 i)).drew (w.heap.size + 1 + 1) 27 [.int .i64 c, .int .i64 i] := hR6
  have hG7 : Blk ((w2.setCell ⟨w.heap.size + 1 + 1, 0, none⟩ (.int .i64 c)).setCell ⟨w.heap.size + 1 + 1, 1, none⟩ (.int .i64 i)).drew (w.heap.size + 1) 51 [.int .i64 0, .slice none 0 0, .int .i64 0, .slice none 0 0] :=
    (hG1.other (p := ⟨w.heap.size + 1 + 1, 0, none⟩) (by simp) (.int .i64 c)).other (p := ⟨w.heap.size + 1 + 1, 1, none⟩) (by simp) (.int .i64 i)
  generalize ((w2.setCell ⟨w.heap.size + 1 + 1, 0, none⟩ (.int .i64 c)).setCell ⟨w.heap.size + 1 + 1, 1, none⟩ (.int .i64 i)).drew = W at hR7 hB7 hG7 ⊢
  obtain ⟨z0, z1, _, _⟩ := hR7.two
  obtain ⟨_, q0, q1, q2, q3, _⟩ := Four.mk' hG7
  exact bodyPost_ret (v := .tuple #[.agg #[.int .i64 0, .slice none 0 0, .int .i64 0, .slice none 0 0], .agg #[.int .i64 c, .int .i64 i]]) (by simp [results, Tryz.results52, go_sem, z0, z1, q0, q1, q2, q3]) rfl ⟨rfl, hB7⟩

/-- Inverses, as far as they are found ahead of the place k. -/
def ivl (n : Nat) (zs : List Int) (e k : Nat) : List Int := (List.range n).map fun a => if a * n + iv n zs e a < k then (iv n zs e a : Int) else 0
theorem ivl_len (n : Nat) (zs : List Int) (e k : Nat) : (ivl n zs e k).length = n := by simp [ivl]
theorem ivl_zero (n : Nat) (zs : List Int) (e : Nat) : ivl n zs e 0 = List.replicate n 0 := by
  unfold ivl
  apply List.ext_getElem <;> simp
theorem ivl_all {n : Nat} {zs : List Int} {e : Nat} (g : IsGrp n zs e) : ivl n zs e (n * n) = li ((List.range n).map (iv n zs e)) := by
  unfold ivl li
  rw [List.map_map]
  apply List.map_congr_left
  intro a ha
  have ha := List.mem_range.1 ha
  rw [if_pos (place_lt ha (iv_spec g ha).1)]; rfl
theorem dm' {n a b : Nat} (hb : b < n) : (a * n + b) / n = a ∧ (a * n + b) % n = b := by
  constructor
  · rw [Nat.mul_comm, Nat.mul_add_div (by omega), Nat.div_eq_of_lt hb, Nat.add_zero]
  · rw [Nat.mul_comm, Nat.mul_add_mod, Nat.mod_eq_of_lt hb]
/-- A place whose product is the one. -/
theorem ivl_hit {n : Nat} {zs : List Int} {e k : Nat} (g : IsGrp n zs e) (hk : k < n * n) (h : zs[k]?.getD 0 = (e : Int)) : ivl n zs e (k + 1) = (ivl n zs e k).set (k / n) ((k % n : Nat) : Int) ∧ k / n < n := by
  have hn := g.tab.pos
  have h1 : k / n < n := Nat.div_lt_of_lt_mul hk
  have h2 : k % n < n := Nat.mod_lt _ (by omega)
  have h3 : k / n * n + k % n = k := by rw [Nat.mul_comm]; exact Nat.div_add_mod k n
  have h4 := tm_get g.tab h1 h2
  rw [h3, h] at h4
  have h5 : k % n = iv n zs e (k / n) := iv_only g h1 h2 (by omega)
  refine ⟨?_, h1⟩
  apply List.ext_getElem
  · simp [ivl]
  · intro i hi1 hi2
    simp [ivl] at hi1
    rw [List.getElem_set]
    by_cases hik : k / n = i
    · subst hik
      simp only [ivl, List.getElem_map, List.getElem_range, if_true]
      rw [← h5, if_pos (by omega)]
    · simp only [ivl, List.getElem_map, List.getElem_range, if_neg hik]
      have h6 := (iv_spec g hi1).1
      have : i * n + iv n zs e i < k + 1 ↔ i * n + iv n zs e i < k := by
        constructor
        · intro h7
          apply Classical.byContradiction
          intro h8
          have h9 : i * n + iv n zs e i = k := by omega
          exact hik (by rw [← h9]; exact (dm' h6).1)
        · omega
      simp only [this]
theorem ivl_miss {n : Nat} {zs : List Int} {e k : Nat} (g : IsGrp n zs e) (h : zs[k]?.getD 0 ≠ (e : Int)) : ivl n zs e (k + 1) = ivl n zs e k := by
  unfold ivl
  apply List.map_congr_left
  intro a ha
  have ha := List.mem_range.1 ha
  obtain ⟨h1, h2, _⟩ := iv_spec g ha
  have : a * n + iv n zs e a < k + 1 ↔ a * n + iv n zs e a < k := by
    constructor
    · intro h7
      apply Classical.byContradiction
      intro h8
      have h9 : a * n + iv n zs e a = k := by omega
      have h4 := tm_get g.tab ha h1
      rw [h9, h2] at h4
      exact h h4
    · omega
  simp only [this]
theorem grp_fault {n e : Nat} {zs : List Int} (g : IsGrp n zs e) : gfault n zs = (0, 0) := by
  unfold gfault
  rw [efault_of_tab g.tab, if_neg (by simp), Int.toNat_natCast, if_neg (by rw [g.one]; omega), if_neg, if_neg]
  · rw [Decidable.not_not, least_neg]
    intro a ha
    rw [g.one, (iv_spec g ha).2.2.2]
    simp
  · rw [Decidable.not_not, least_neg]
    intro a ha
    simp only [Bool.not_eq_false']
    exact assB_iff.2 fun b c hb hc => g.ass a b c ha hb hc

set_option maxRecDepth 100000 in
set_option maxHeartbeats 4000000 in
theorem opened_good (n e : Nat) (v : Value) (zs : List Int) (w : World) (hv : Sl w v zs) (hg : IsGrp n zs e) :
    Calls Tryz.prog 52 #[.agg #[.int .i64 n, v]] w fun x w' => ∃ u, x = .returned (.tuple #[.agg #[.int .i64 n, v, .int .i64 e, u], .agg #[.int .i64 0, .int .i64 0]]) ∧ SlF w.heap.size w' u (li ((List.range n).map (iv n zs e))) ∧ Below w.heap.size w w' := by
  obtain ⟨i0, hi, hz0, hz1, hz2⟩ := info_parts info3b
  obtain ⟨w0, BG⟩ := Beg4.new w n v
  have hv0 := hv.below BG.bel
  obtain ⟨c0, c1, _, _⟩ := BG.box.two
  have hck := one_any n v zs w0 hv0
  rw [grp_fault hg] at hck
  simp only [okI_zero, Int.toNat_natCast] at hck
  rw [hg.one] at hck
  have HCK := hide hck
  have hle := hg.tab.le
  have hpos := hg.tab.pos
  have hlen := hg.tab.len
  have hnn : 1 * 1 ≤ n * n := Nat.mul_le_mul hpos hpos
  have hnn2 : n * n ≤ 60 * 60 := Nat.mul_le_mul hle hle
  obtain ⟨a, cap, pb, po, rfl, hr, hp, hq3, hq4⟩ := id hv
  obtain rfl := hr.at_ (by omega)
  have HLN := hide hlen
  have hz5 : zs.length ≤ 3600 := by omega
  clear hck hlen hnn hnn2
  rw [BG.eq] at c0 c1
  go_enter Tryz.func52, Tryz.ntmps52
  go_wp2_with fail
  rw [← BG.eq]
  refine HCK.out.mono ?_
  rintro x w1 ⟨rfl, hb1⟩
  clear c0 c1
  have hB1 := bcat2 hb1 (balloc w1 (.cells #[.int .i64 0, .int .i64 0] 27))
  have hG1 := blk_below BG.grp hB1
  have hR1 := blk_below BG.res hB1
  have hX1 := blk_below BG.box hB1
  have hF1 : Blk (w1.alloc (.cells #[.int .i64 0, .int .i64 0] 27)) w1.heap.size 27 [.int .i64 0, .int .i64 0] := blk0 _ _
  have hBw := bcat BG.bel hB1 BG.bel.size
  obtain ⟨t0, t1, _, _⟩ := hF1.two
  obtain ⟨k0, k1, _, _⟩ := hX1.two
  have hsz : w.heap.size + 3 ≤ w1.heap.size := by rw [← BG.size]; exact hb1.size
  go_wp2_with (first
    | (at_make; refine wpList_make_full _ rfl _ _ 22 rfl (w1.heap.size + 1) 3 i0 (.int .i64 0) 1 under22b hi hz0 hz1 _ _ _ _ n rfl rfl rfl rfl (by rw [hz2]; omega) (by unfold maxLen; omega) (by simp) ?_))
  intro w2 hown hgr
  have hM : Blk w2 (w1.heap.size + 1) 3 ((ivl n zs e 0).map (Value.int .i64)) := by
    have := Blk.of_owns hown
    rw [made_rep] at this
    rw [ivl_zero, List.map_replicate]; exact this
  have hB2 : Below w.heap.size w w2 := hBw.grown hgr hBw.size (by simp)
  have hX2 := hX1.grown hgr (by simp)
  have hG2 := hG1.grown hgr (by simp)
  have hR2 := hR1.grown hgr (by simp)
  clear hown hgr t0 t1 k0 k1
  obtain ⟨k0, k1, _, _⟩ := hX2.two
  go_wp2
  clear k0 k1
  go_loopw [25] (fun i wr => ∃ k : Nat, k ≤ zs.length ∧ i = .int .i64 k ∧ Blk wr (w1.heap.size + 1) 3 ((ivl n zs e k).map (Value.int .i64)) ∧ Blk wr w.heap.size 24 [.int .i64 n, .slice (some ⟨pb, po, none⟩) zs.length cap] ∧ Blk wr (w.heap.size + 1) 51 [.int .i64 0, .slice none 0 0, .int .i64 0, .slice none 0 0] ∧ Blk wr (w.heap.size + 1 + 1) 27 [.int .i64 0, .int .i64 0] ∧ Below w.heap.size w wr) (fun i _ => zs.length - (intOf i).toNat)
  case atStart => exact ⟨0, Nat.zero_le _, rfl, hM, hX2, hG2, hR2, hB2⟩
  case round =>
    obtain ⟨k, hk, rfl, hMk, hXk, hGk, hRk, hBk⟩ := hrel
    by_cases hlt : k < zs.length
    · have hck := (hr.below hBk hp).cell k hlt
      by_cases hce : zs[k]?.getD 0 = (e : Int)
      · obtain ⟨hset, hx⟩ := ivl_hit hg (by rw [← HLN.out]; exact hlt) hce
        rw [hce] at hck
        have hq := Int.tdiv_eq_ediv_of_nonneg (a := (k : Int)) (b := (n : Int)) (by omega)
        rw [← Int.natCast_ediv] at hq
        have hm := Int.tmod_eq_emod_of_nonneg (a := (k : Int)) (b := (n : Int)) (by omega)
        rw [← Int.natCast_emod] at hm
        have hy : k % n < n := Nat.mod_lt _ (by omega)
        have hset : ivl n zs e (k + 1) = (ivl n zs e k).set (k / n) ((k % n : Nat) : Int) := hset
        generalize k / n = x at *
        generalize k % n = y at *
        have HSET := hide hset
        have hxi : (x : Int) < (n : Int) := by omega
        have hn0 : ¬ ((n : Int) = 0) := by omega
        have hn1 : ¬ (n = 0) := by omega
        have hMc := hMk.int (y := x) (by rw [ivl_len]; exact hx)
        have hMf := hMk.frozen x
        obtain ⟨k0, k1, _, _⟩ := hXk.two
        have hM6 := hMk.setInt x (y : Int)
        rw [← HSET.out] at hM6
        have hX6 := hXk.other (p := ⟨w1.heap.size + 1, x, none⟩) (by simp; omega) (.int .i64 (y : Int))
        have hG6 := hGk.other (p := ⟨w1.heap.size + 1, x, none⟩) (by simp; omega) (.int .i64 (y : Int))
        have hR6 := hRk.other (p := ⟨w1.heap.size + 1, x, none⟩) (by simp; omega) (.int .i64 (y : Int))
        have hB6 := bdrew (hBk.setCell (p := ⟨w1.heap.size + 1, x, none⟩) (by simp; omega) (.int .i64 (y : Int)))
        clear hset
        have hwx : IntKind.i64.wrap (x : Int) = (x : Int) := by rw [IntKind.wrap_i64]; omega
        have hwy : IntKind.i64.wrap (y : Int) = (y : Int) := by rw [IntKind.wrap_i64]; omega
        go_wp2_with fail
        go_region
        all_goals (
          clear hMc hMf k0 k1 hck
          go_wp2
          go_roundw
          case rel => exact ⟨k + 1, by omega, by go_num, hM6, hX6, hG6, hR6, hB6⟩
          case measure => simp [intOf]; omega)
      · have HM := hide (ivl_miss hg hce)
        have hne : ¬ (zs[k]?.getD 0 = (e : Int)) := hce
        generalize zs[k]?.getD 0 = c at *
        go_wp2
        go_roundw
        case rel => exact ⟨k + 1, by omega, by go_num, by rw [HM.out]; exact hMk, hXk, hGk, hRk, hBk⟩
        case measure => simp [intOf]; omega
    · have hkk : k = zs.length := by omega
      have hMz : Blk wr (w1.heap.size + 1) 3 ((li ((List.range n).map (iv n zs e))).map (Value.int .i64)) := by
        rw [hkk, HLN.out, ivl_all hg] at hMk; exact hMk
      clear hMk
      obtain ⟨k0, k1, _, _⟩ := hXk.two
      obtain ⟨_, g0, g1, g2, g3, gf0, gf1, gf2, gf3, _⟩ := Four.mk' hGk
      obtain ⟨_, y0, y1, fy0, fy1, s0, s1⟩ := Two.mk' hRk
      go_wp2
      have hG8 : Blk ((((((wr.setCell ⟨w.heap.size + 1, 0, none⟩ (.int .i64 n)).setCell ⟨w.heap.size + 1, 1, none⟩ (.slice (some ⟨pb, po, none⟩) zs.length cap)).setCell ⟨w.heap.size + 1, 2, none⟩ (.int .i64 e)).setCell ⟨w.heap.size + 1, 3, none⟩ (.slice (some ⟨w1.heap.size + 1, 0, none⟩) n n)).setCell ⟨w.heap.size + 1 + 1, 0, none⟩ (.int .i64 0)).setCell ⟨w.heap.size + 1 + 1, 1, none⟩ (.int .i64 0)) (w.heap.size + 1) 51 [.int .i64 n, .slice (some ⟨pb, po, none⟩) zs.length cap, .int .i64 e, .slice (some ⟨w1.heap.size + 1, 0, none⟩) n n] := (Blk.other (Blk.other (Blk.set (Blk.set (Blk.set (Blk.set hGk 0 (.int .i64 n)) 1 (.slice (some ⟨pb, po, none⟩) zs.length cap)) 2 (.int .i64 e)) 3 (.slice (some ⟨w1.heap.size + 1, 0, none⟩) n n)) (p := ⟨w.heap.size + 1 + 1, 0, none⟩) (by simp <;> omega) (.int .i64 0)) (p := ⟨w.heap.size + 1 + 1, 1, none⟩) (by simp <;> omega) (.int .i64 0))
      have hR8 : Blk ((((((wr.setCell ⟨w.heap.size + 1, 0, none⟩ (.int .i64 n)).setCell ⟨w.heap.size + 1, 1, none⟩ (.slice (some ⟨pb, po, none⟩) zs.length cap)).setCell ⟨w.heap.size + 1, 2, none⟩ (.int .i64 e)).setCell ⟨w.heap.size + 1, 3, none⟩ (.slice (some ⟨w1.heap.size + 1, 0, none⟩) n n)).setCell ⟨w.heap.size + 1 + 1, 0, none⟩ (.int .i64 0)).setCell ⟨w.heap.size + 1 + 1, 1, none⟩ (.int .i64 0)) (w.heap.size + 1 + 1) 27 [.int .i64 0, .int .i64 0] := (Blk.set (Blk.set (Blk.other (Blk.other (Blk.other (Blk.other hRk (p := ⟨w.heap.size + 1, 0, none⟩) (by simp <;> omega) (.int .i64 n)) (p := ⟨w.heap.size + 1, 1, none⟩) (by simp <;> omega) (.slice (some ⟨pb, po, none⟩) zs.length cap)) (p := ⟨w.heap.size + 1, 2, none⟩) (by simp <;> omega) (.int .i64 e)) (p := ⟨w.heap.size + 1, 3, none⟩) (by simp <;> omega) (.slice (some ⟨w1.heap.size + 1, 0, none⟩) n n)) 0 (.int .i64 0)) 1 (.int .i64 0))
      have hM8 : Blk ((((((wr.setCell ⟨w.heap.size + 1, 0, none⟩ (.int .i64 n)).setCell ⟨w.heap.size + 1, 1, none⟩ (.slice (some ⟨pb, po, none⟩) zs.length cap)).setCell ⟨w.heap.size + 1, 2, none⟩ (.int .i64 e)).setCell ⟨w.heap.size + 1, 3, none⟩ (.slice (some ⟨w1.heap.size + 1, 0, none⟩) n n)).setCell ⟨w.heap.size + 1 + 1, 0, none⟩ (.int .i64 0)).setCell ⟨w.heap.size + 1 + 1, 1, none⟩ (.int .i64 0)) (w1.heap.size + 1) 3 ((li ((List.range n).map (iv n zs e))).map (Value.int .i64)) := (Blk.other (Blk.other (Blk.other (Blk.other (Blk.other (Blk.other hMz (p := ⟨w.heap.size + 1, 0, none⟩) (by simp <;> omega) (.int .i64 n)) (p := ⟨w.heap.size + 1, 1, none⟩) (by simp <;> omega) (.slice (some ⟨pb, po, none⟩) zs.length cap)) (p := ⟨w.heap.size + 1, 2, none⟩) (by simp <;> omega) (.int .i64 e)) (p := ⟨w.heap.size + 1, 3, none⟩) (by simp <;> omega) (.slice (some ⟨w1.heap.size + 1, 0, none⟩) n n)) (p := ⟨w.heap.size + 1 + 1, 0, none⟩) (by simp <;> omega) (.int .i64 0)) (p := ⟨w.heap.size + 1 + 1, 1, none⟩) (by simp <;> omega) (.int .i64 0))
      have hB8 : Below w.heap.size w ((((((wr.setCell ⟨w.heap.size + 1, 0, none⟩ (.int .i64 n)).setCell ⟨w.heap.size + 1, 1, none⟩ (.slice (some ⟨pb, po, none⟩) zs.length cap)).setCell ⟨w.heap.size + 1, 2, none⟩ (.int .i64 e)).setCell ⟨w.heap.size + 1, 3, none⟩ (.slice (some ⟨w1.heap.size + 1, 0, none⟩) n n)).setCell ⟨w.heap.size + 1 + 1, 0, none⟩ (.int .i64 0)).setCell ⟨w.heap.size + 1 + 1, 1, none⟩ (.int .i64 0)) := (Below.setCell (Below.setCell (Below.setCell (Below.setCell (Below.setCell (Below.setCell hBk (p := ⟨w.heap.size + 1, 0, none⟩) (by simp <;> omega) (.int .i64 n)) (p := ⟨w.heap.size + 1, 1, none⟩) (by simp <;> omega) (.slice (some ⟨pb, po, none⟩) zs.length cap)) (p := ⟨w.heap.size + 1, 2, none⟩) (by simp <;> omega) (.int .i64 e)) (p := ⟨w.heap.size + 1, 3, none⟩) (by simp <;> omega) (.slice (some ⟨w1.heap.size + 1, 0, none⟩) n n)) (p := ⟨w.heap.size + 1 + 1, 0, none⟩) (by simp <;> omega) (.int .i64 0)) (p := ⟨w.heap.size + 1 + 1, 1, none⟩) (by simp <;> omega) (.int .i64 0))
      generalize ((((((wr.setCell ⟨w.heap.size + 1, 0, none⟩ (.int .i64 n)).setCell ⟨w.heap.size + 1, 1, none⟩ (.slice (some ⟨pb, po, none⟩) zs.length cap)).setCell ⟨w.heap.size + 1, 2, none⟩ (.int .i64 e)).setCell ⟨w.heap.size + 1, 3, none⟩ (.slice (some ⟨w1.heap.size + 1, 0, none⟩) n n)).setCell ⟨w.heap.size + 1 + 1, 0, none⟩ (.int .i64 0)).setCell ⟨w.heap.size + 1 + 1, 1, none⟩ (.int .i64 0)) = W at hG8 hR8 hM8 hB8 ⊢
      obtain ⟨z0, z1, _, _⟩ := hR8.two
      obtain ⟨_, q0, q1, q2, q3, _⟩ := Four.mk' hG8
      have hGA := SlF.of_blk (base := w.heap.size) hM8 ivs_len.symm (by rw [ivs_len]; omega) (by omega)
      exact bodyPost_ret (v := .tuple #[.agg #[.int .i64 n, .slice (some ⟨pb, po, none⟩) zs.length cap, .int .i64 e, .slice (some ⟨w1.heap.size + 1, 0, none⟩) n n], .agg #[.int .i64 0, .int .i64 0]]) (by simp [results, Tryz.results52, go_sem, z0, z1, q0, q1, q2, q3]) rfl ⟨_, rfl, hGA, hB8⟩
end Go.Proofs.YtgejngpioldhpaaGreatDoor

namespace Go.Proofs.YtgejngpioldhpaaGreatDoor
open Go Go.RowKit

def rbad (n : Nat) (ls : List Int) (i : Nat) : Bool := decide (ls[i]?.getD 0 < 0 ∨ (n : Int) ≤ ls[i]?.getD 0)
def fbad (ls : List Int) (i : Nat) : Bool := decide (0 < i ∧ ls[i]?.getD 0 ≤ ls[i - 1]?.getD 0)
/-- What is wrong with a list as a set. -/
def lfault (n : Nat) (ls : List Int) : Int × Int :=
  if n < ls.length then (2, 0)
  else if least ls.length (fun i => rbad n ls i || fbad ls i) = -1 then (0, 0)
  else (if rbad n ls (least ls.length (fun i => rbad n ls i || fbad ls i)).toNat then 3 else 5, least ls.length (fun i => rbad n ls i || fbad ls i))
/-- The set of a list. -/
def pset (ls : List Int) (a : Nat) : Bool := decide ((a : Int) ∈ ls)
theorem lfault_many {n : Nat} {ls : List Int} (h : n < ls.length) : lfault n ls = (2, 0) := if_pos h
theorem lfault_ok {n : Nat} {ls : List Int} (h : ls.length ≤ n) (hno : ∀ t, t < ls.length → (rbad n ls t || fbad ls t) = false) : lfault n ls = (0, 0) := by
  unfold lfault
  rw [if_neg (by omega), least_none hno, if_pos rfl]
theorem lfault_r {n k : Nat} {ls : List Int} (h : ls.length ≤ n) (hk : k < ls.length) (hno : ∀ t, t < k → (rbad n ls t || fbad ls t) = false) (hb : rbad n ls k = true) : lfault n ls = (3, (k : Int)) := by
  unfold lfault
  rw [if_neg (by omega), least_at hk (by simp [hb]) hno, if_neg (by omega), Int.toNat_natCast, if_pos hb]
theorem lfault_f {n k : Nat} {ls : List Int} (h : ls.length ≤ n) (hk : k < ls.length) (hno : ∀ t, t < k → (rbad n ls t || fbad ls t) = false) (hb : rbad n ls k = false) (hf : fbad ls k = true) : lfault n ls = (5, (k : Int)) := by
  unfold lfault
  rw [if_neg (by omega), least_at hk (by simp [hf]) hno, if_neg (by omega), Int.toNat_natCast, if_neg (by simp [hb])]
theorem lfault_zero {n : Nat} {ls : List Int} (h : (lfault n ls).1 = 0) : lfault n ls = (0, 0) ∧ ls.length ≤ n ∧ ∀ t, t < ls.length → (rbad n ls t || fbad ls t) = false := by
  unfold lfault at h ⊢
  by_cases h1 : n < ls.length
  · rw [if_pos h1] at h; cases h
  · rw [if_neg h1] at h ⊢
    by_cases h2 : least ls.length (fun i => rbad n ls i || fbad ls i) = -1
    · rw [if_pos h2]
      exact ⟨rfl, by omega, least_neg.1 h2⟩
    · rw [if_neg h2] at h
      exfalso
      revert h
      split <;> simp
/-- Lists that rise, and have the same numbers, are the same. -/
theorem rise_eq : ∀ {xs ys : List Nat}, xs.Pairwise (· < ·) → ys.Pairwise (· < ·) → (∀ a, a ∈ xs ↔ a ∈ ys) → xs = ys
  | [], ys, _, _, h => (List.eq_nil_iff_forall_not_mem.2 fun a ha => by have := (h a).2 ha; simp at this).symm
  | x :: xs, [], _, _, h => by have := (h x).1 (by simp); simp at this
  | x :: xs, y :: ys, hx, hy, h => by
    rw [List.pairwise_cons] at hx hy
    have h1 := (h x).1 (by simp)
    have h2 := (h y).2 (by simp)
    have e : x = y := by
      rcases List.mem_cons.1 h1 with h3 | h3
      · exact h3
      · rcases List.mem_cons.1 h2 with h4 | h4
        · exact h4.symm
        · have := hx.1 y h4
          have := hy.1 x h3
          omega
    subst e
    congr 1
    refine rise_eq hx.2 hy.2 fun a => ⟨fun ha => ?_, fun ha => ?_⟩
    · rcases List.mem_cons.1 ((h a).1 (List.mem_cons_of_mem _ ha)) with h3 | h3
      · subst h3; have := hx.1 a ha; omega
      · exact h3
    · rcases List.mem_cons.1 ((h a).2 (List.mem_cons_of_mem _ ha)) with h3 | h3
      · subst h3; have := hy.1 a ha; omega
      · exact h3
theorem lst_rise (n : Nat) (p : Nat → Bool) : (lst n p).Pairwise (· < ·) := (List.pairwise_lt_range).sublist (List.filter_sublist)
/-- A list with which nothing is wrong is the list of its set. -/
theorem set_lst {n : Nat} {ls : List Int} (h : (lfault n ls).1 = 0) : ls = li (lst n (pset ls)) := by
  obtain ⟨_, hl, hno⟩ := lfault_zero h
  have hno' : ∀ t, t < ls.length → rbad n ls t = false ∧ fbad ls t = false := fun t ht => by have := hno t ht; simpa using this
  have hr : ∀ t, (ht : t < ls.length) → 0 ≤ ls[t] ∧ ls[t] < n := fun t ht => by
    have := (hno' t ht).1
    unfold rbad at this
    rw [decide_eq_false_iff_not] at this
    simp [ht] at this; omega
  have hf : ∀ t, (ht : t + 1 < ls.length) → ls[t] < ls[t + 1] := fun t ht => by
    have := (hno' (t + 1) ht).2
    unfold fbad at this
    rw [decide_eq_false_iff_not] at this
    have h2 : t < ls.length := by omega
    simp [ht, h2] at this; omega
  have hmono : ∀ d t, (ht : t + d + 1 < ls.length) → ls[t] < ls[t + d + 1] := fun d => by
    induction d with
    | zero => exact fun t ht => hf t ht
    | succ d ih =>
      intro t ht
      have h1 := ih t (by omega)
      have h2 := hf (t + d + 1) (by omega)
      have : t + (d + 1) + 1 = t + d + 1 + 1 := by omega
      simp only [this]
      omega
  have hxs : ls = li (ls.map Int.toNat) := by
    unfold li
    rw [List.map_map]
    conv => lhs; rw [← List.map_id ls]
    apply List.map_congr_left
    intro z hz
    obtain ⟨t, ht, rfl⟩ := List.mem_iff_getElem.1 hz
    have := hr t ht
    show ls[t] = ((ls[t].toNat : Nat) : Int)
    omega
  rw [hxs]
  congr 1
  refine rise_eq ?_ (lst_rise _ _) fun a => ?_
  · rw [List.pairwise_iff_getElem]
    intro i j hi hj hij
    simp only [List.length_map] at hi hj
    simp only [List.getElem_map]
    obtain ⟨d, rfl⟩ : ∃ d, j = i + d + 1 := ⟨j - i - 1, by omega⟩
    have h1 := hmono d i hj
    have h2 := hr i hi
    omega
  · rw [mem_lst]
    unfold pset
    rw [decide_eq_true_eq, ← hxs, List.mem_map]
    constructor
    · rintro ⟨z, hz, rfl⟩
      obtain ⟨t, ht, rfl⟩ := List.mem_iff_getElem.1 hz
      have h1 := hr t ht
      refine ⟨by omega, ?_⟩
      rw [show ((ls[t].toNat : Nat) : Int) = ls[t] by omega]
      exact hz
    · rintro ⟨_, h2⟩
      exact ⟨(a : Int), h2, by simp⟩

/-- A number that goes with a fault: none where there is one. -/
def okN (c : Int) (x : Nat) : Nat := if c = 0 then x else 0

end Go.Proofs.YtgejngpioldhpaaGreatDoor

namespace Go.Proofs.YtgejngpioldhpaaGreatDoor
open Go Go.RowKit

theorem Sl.isSlice {w : World} {v : Value} {zs : List Int} (h : Sl w v zs) : ∃ a l c, v = .slice a l c := by
  obtain ⟨a, cap, _, _, rfl, _⟩ := h
  exact ⟨a, _, cap, rfl⟩
/-- What is wrong with a table and then with a list as its set. -/
def sfault (N : Int) (zs ls : List Int) : Int × Int := if (gfault N zs).1 ≠ 0 then gfault N zs else lfault N.toNat ls
theorem sfault_g {N : Int} {zs ls : List Int} (h : (gfault N zs).1 ≠ 0) : sfault N zs ls = gfault N zs := if_pos h
theorem sfault_l {n e : Nat} {zs ls : List Int} (g : IsGrp n zs e) : sfault n zs ls = lfault n ls := by
  unfold sfault
  rw [grp_fault g, if_neg (by simp), Int.toNat_natCast]
theorem sfault_zero {N : Int} {zs ls : List Int} (h : (sfault N zs ls).1 = 0) : ∃ n e : Nat, N = n ∧ IsGrp n zs e ∧ lfault n ls = (0, 0) ∧ sfault N zs ls = (0, 0) := by
  by_cases hg : (gfault N zs).1 = 0
  · obtain ⟨n, e, rfl, hgr, _⟩ := gfault_grp hg
    rw [sfault_l hgr] at h ⊢
    exact ⟨n, e, rfl, hgr, (lfault_zero h).1, (lfault_zero h).1⟩
  · rw [sfault_g hg] at h
    exact absurd h hg
theorem sfault_cases (N : Int) (zs ls : List Int) (h : (sfault N zs ls).1 ≠ 0) : ((gfault N zs).1 ≠ 0 ∧ sfault N zs ls = gfault N zs) ∨ ∃ n e : Nat, N = n ∧ IsGrp n zs e ∧ (lfault n ls).1 ≠ 0 ∧ sfault N zs ls = lfault n ls := by
  by_cases hg : (gfault N zs).1 = 0
  · obtain ⟨n, e, rfl, hgr, _⟩ := gfault_grp hg
    rw [sfault_l hgr] at h ⊢
    exact .inr ⟨n, e, rfl, hgr, h, rfl⟩
  · exact .inl ⟨hg, sfault_g hg⟩

end Go.Proofs.YtgejngpioldhpaaGreatDoor

namespace Go.Proofs.YtgejngpioldhpaaGreatDoor
open Go Go.RowKit

end Go.Proofs.YtgejngpioldhpaaGreatDoor

namespace Go.Proofs.YtgejngpioldhpaaGreatDoor
open Go Go.RowKit

/-- Is a set a subgroup? -/
def subT (n : Nat) (zs : List Int) (e : Nat) (q : Nat → Bool) : Bool := q e && (List.range n).all fun a => (List.range n).all fun b => !(q a && q b) || q (tm n zs a b)
theorem subT_iff {n : Nat} {zs : List Int} {e : Nat} {q : Nat → Bool} : subT n zs e q = true ↔ Fin.Sg (List.range n) (tm n zs) e (fun a => q a = true) := by
  unfold subT
  simp only [Bool.and_eq_true, List.all_eq_true]
  constructor
  · rintro ⟨h1, h2⟩
    refine ⟨h1, fun a b ha hb hqa hqb => ?_⟩
    have := h2 a ha b hb
    simpa [hqa, hqb] using this
  · rintro ⟨h1, h2⟩
    refine ⟨h1, fun a ha b hb => ?_⟩
    have := h2 a b ha hb
    cases hqa : q a <;> cases hqb : q b <;> simp_all
/-- A set is a subgroup just where it is all that it makes. -/
theorem subT_made {n : Nat} {zs : List Int} {e : Nat} {q p : Nat → Bool} (hp : ∀ a, a < n → (p a = true ↔ Mkd n zs e q a)) (he : e < n) (hm : ∀ a b, a < n → b < n → tm n zs a b < n) : subT n zs e q = decide (bs p n = bs q n) := by
  rw [Bool.eq_iff_iff, subT_iff, decide_eq_true_eq]
  constructor
  · intro S
    refine bs_ext fun a ha => ?_
    rw [Bool.eq_iff_iff, hp a ha]
    exact ⟨fun h => gen_self S h, fun h => Fin.Gen.base (List.mem_range.2 ha) h⟩
  · intro h
    have h1 := bs_inj h
    have S := Fin.Gen.sg (l := List.range n) (m := tm n zs) (e := e) (fun x => q x = true)
    refine ⟨?_, fun a b ha hb hqa hqb => ?_⟩
    · rw [← h1 e he, hp e he]; exact S.one
    · have ha := List.mem_range.1 ha
      have hb := List.mem_range.1 hb
      rw [← h1 _ (hm a b ha hb), hp _ (hm a b ha hb)]
      exact S.mul a b (List.mem_range.2 ha) (List.mem_range.2 hb) ((hp a ha).1 (by rw [h1 a ha]; exact hqa)) ((hp b hb).1 (by rw [h1 b hb]; exact hqb))
theorem mkd_test (n : Nat) (zs : List Int) (e : Nat) (q : Nat → Bool) : ∃ p : Nat → Bool, ∀ a, a < n → (p a = true ↔ Mkd n zs e q a) := by
  obtain ⟨p, hp⟩ := Fin.test_of (Mkd n zs e q)
  exact ⟨p, fun a _ => hp a⟩
/-- What is wrong with a table, then with a list as its set, then with that as a subgroup. -/
def ufault (N : Int) (zs ls : List Int) : Int × Int := if (sfault N zs ls).1 ≠ 0 then sfault N zs ls else if subT N.toNat zs (one N.toNat zs).toNat (pset ls) then (0, 0) else (7, 0)
theorem ufault_s {N : Int} {zs ls : List Int} (h : (sfault N zs ls).1 ≠ 0) : ufault N zs ls = sfault N zs ls := if_pos h
theorem ufault_u {n e : Nat} {zs ls : List Int} (g : IsGrp n zs e) (h : lfault n ls = (0, 0)) : ufault n zs ls = if subT n zs e (pset ls) then (0, 0) else (7, 0) := by
  unfold ufault
  rw [sfault_l g, h, if_neg (by simp), Int.toNat_natCast, g.one, Int.toNat_natCast]
theorem ufault_cases (N : Int) (zs ls : List Int) (h : (ufault N zs ls).1 ≠ 0) : ((sfault N zs ls).1 ≠ 0 ∧ ufault N zs ls = sfault N zs ls) ∨ ∃ n e : Nat, N = n ∧ IsGrp n zs e ∧ lfault n ls = (0, 0) ∧ subT n zs e (pset ls) = false ∧ ufault N zs ls = (7, 0) := by
  by_cases hs : (sfault N zs ls).1 = 0
  · obtain ⟨n, e, rfl, hg, hl, _⟩ := sfault_zero hs
    rw [ufault_u hg hl] at h ⊢
    cases hb : subT n zs e (pset ls)
    · exact .inr ⟨n, e, rfl, hg, hl, hb, rfl⟩
    · rw [hb] at h; simp at h
  · exact .inl ⟨hs, ufault_s hs⟩
theorem ufault_zero {N : Int} {zs ls : List Int} (h : (ufault N zs ls).1 = 0) : ∃ n e : Nat, N = n ∧ IsGrp n zs e ∧ lfault n ls = (0, 0) ∧ subT n zs e (pset ls) = true ∧ ufault N zs ls = (0, 0) := by
  by_cases hs : (sfault N zs ls).1 = 0
  · obtain ⟨n, e, rfl, hg, hl, _⟩ := sfault_zero hs
    rw [ufault_u hg hl] at h ⊢
    cases hb : subT n zs e (pset ls)
    · rw [hb] at h; simp at h
    · exact ⟨n, e, rfl, hg, hl, hb, rfl⟩
  · rw [ufault_s hs] at h
    exact absurd h hs

end Go.Proofs.YtgejngpioldhpaaGreatDoor

namespace Go.Proofs.YtgejngpioldhpaaGreatDoor
open Go Go.RowKit

theorem list_at (n g : Nat) (p : Nat → Bool) (w : World) (hn : n ≤ 60) (hT : Tab w) (hg : g ≤ w.heap.size) :
    Calls Tryz.prog 70 #[.int .u64 (bs p n)] w fun e w' => ∃ r, e = .returned r ∧ SlF g w' r (li (lst n p)) ∧ Below w.heap.size w w' := by
  refine (list_ok n p w hn hT).mono ?_
  rintro e w' ⟨r, h1, h2, h3⟩
  exact ⟨r, h1, h2.mono hg, h3⟩
theorem call107 (a : Int) (W : World) : Sem.run Tryz.prog (callFunc 56 (#[.int .i64 a] ++ #[])) W = .ok (.enter 56 (#[.int .i64 a] ++ #[])) W := by kernel_rfl
set_option maxRecDepth 100000 in
theorem all1_ok (a : Int) (w : World) : Calls Tryz.prog 56 (#[.int .i64 a] ++ #[]) w fun e w' => e = .returned (.bool true) ∧ Below w.heap.size w w' := by
  show Calls Tryz.prog 56 #[.int .i64 a] w _
  go_enter Tryz.func56, Tryz.ntmps56
  go_wp2
  go_ret
  exact ⟨rfl, Below.refl _ _⟩
set_option maxRecDepth 100000 in
set_option maxHeartbeats 1000000 in
theorem all_ok (n : Nat) (v u : Value) (e : Nat) (w : World) (hn : n ≤ 60) :
    Calls Tryz.prog 30 #[.agg #[.int .i64 n, v, .int .i64 e, u]] w fun x w' => x = .returned (.int .u64 (bs (fun _ => true) n)) ∧ Below w.heap.size w w' := by
  have hB0 : Below w.heap.size w (w.alloc (.cells #[.int .i64 n, v, .int .i64 e, u] 51)) := balloc w _
  obtain ⟨c0, c1, c2, c3⟩ := (Box4.new w n e v u).cells
  go_enter Tryz.func30, Tryz.ntmps30
  go_wp2_with fail
  refine (those_ok n 56 v u e #[] (fun _ => true) _ hn (fun a W => call107 a W) (fun W a _ _ => all1_ok a W)).mono ?_
  rintro x w1 ⟨rfl, hb1⟩
  go_wp2
  go_ret
  exact ⟨rfl, bcat2 hB0 hb1⟩

/-- What commutes with each thing of a set. -/
def cenq (n : Nat) (zs : List Int) (q : Nat → Bool) (a : Nat) : Bool := (lst n q).all fun x => decide (tm n zs a x = tm n zs x a)
end Go.Proofs.YtgejngpioldhpaaGreatDoor

namespace Go.Proofs.YtgejngpioldhpaaGreatDoor
open Go Go.RowKit

set_option maxRecDepth 100000 in
set_option maxHeartbeats 1000000 in
theorem rhas_ok (v : Value) (zs : List Int) (a : Int) (w : World) (hv : Sl w v zs) :
    Calls Tryz.prog 40 #[v, .int .i64 a] w fun e w' => e = .returned (.bool (decide (a ∈ zs))) ∧ w' = w := by
  obtain ⟨x, cap, pb, po, rfl, hr, hp, hq3, hq4⟩ := hv
  have hm : zs.length ≤ 9223372036854775807 := by unfold maxLen at hq4; omega
  have HR := hide hr
  clear hr hq4
  go_enter Tryz.func40, Tryz.ntmps40
  go_wp2
  go_loopw [5] (fun i wr => ∃ k : Nat, k ≤ zs.length ∧ i = .int .i64 k ∧ (∀ t, t < k → zs[t]?.getD 0 ≠ a) ∧ wr = w) (fun i _ => zs.length - (intOf i).toNat)
  case atStart => exact ⟨0, Nat.zero_le _, rfl, fun t ht => by omega, rfl⟩
  case round =>
    obtain ⟨k, hk, rfl, hno, rfl⟩ := hrel
    have HNO := hide hno
    clear hno
    by_cases hlt : k < zs.length
    · obtain rfl := HR.out.at_ (by omega)
      have hc := HR.out.cell k hlt
      obtain ⟨c, hce⟩ : ∃ c, zs[k]?.getD 0 = c := ⟨_, rfl⟩
      rw [hce] at hc
      have HCE := hide hce
      clear hce
      by_cases hca : c = a
      · have HD := hide (show decide (a ∈ zs) = true by
          rw [decide_eq_true_eq, ← hca, ← HCE.out]
          simp [hlt])
        go_wp2
        go_ret
        exact ⟨by rw [HD.out]; rfl, rfl⟩
      · go_wp2
        go_roundw
        case rel => exact ⟨k + 1, by omega, by go_num, fun t ht => by
          by_cases e : t = k
          · rw [e, HCE.out]; exact hca
          · exact HNO.out t (by omega), trivial⟩
        case measure => simp [intOf]; omega
    · have HD := hide (show decide (a ∈ zs) = false by
        rw [decide_eq_false_iff_not]
        intro hm
        obtain ⟨t, ht, he⟩ := List.mem_iff_getElem.1 hm
        exact HNO.out t (by omega) (by simp [ht, he]))
      go_wp2
      go_ret
      exact ⟨by rw [HD.out]; rfl, rfl⟩

theorem row_keep {W W' : World} {B : Nat} {v : Value} {zs : List Int} (h : Row W B v zs) (hk : ∀ g, B ≤ g → g < W.heap.size → W'.heap[g]? = W.heap[g]?) : Row W' B v zs := by
  refine ⟨h.1, ?_⟩
  rcases h.2 with h0 | ⟨g, cap, cur, hv, hg, hh, rest⟩
  · exact .inl h0
  · exact .inr ⟨g, cap, cur, hv, hg, (hk g hg (Array.getElem?_eq_some_iff.1 hh).1).trans hh, rest⟩
theorem row_below {W W' : World} {B : Nat} {v : Value} {zs : List Int} (h : Row W B v zs) (hb : Below W.heap.size W W') : Row W' B v zs := row_keep h (fun g _ h2 => hb.block g h2)
theorem row_sl {W : World} {B : Nat} {v : Value} {zs : List Int} (h : Row W B v zs) (h0 : 0 < W.heap.size) : Sl W v zs := Sl.of_own h h0
theorem row_len {W : World} {B : Nat} {v : Value} {zs : List Int} (h : Row W B v zs) : ∃ a cap, v = .slice a zs.length cap := own_slice h
theorem lst_snoc {p : Nat → Bool} (j : Nat) : lst (j + 1) p = if p j then lst j p ++ [j] else lst j p := by
  unfold lst
  rw [List.range_succ, List.filter_append]
  cases h : p j <;> simp [h]
theorem nil_row (W : World) (B : Nat) : Row W B (.slice none 0 0) [] := World.ownsRow_nil _ _ _ _

set_option maxRecDepth 100000 in
set_option maxHeartbeats 2000000 in
theorem rthose_ok (n k : Nat) (v : Value) (caps : Array Value) (p : Nat → Bool) (w : World) (hn : n ≤ 60)
    (hcall : ∀ a W, Sem.run Tryz.prog (callFunc k (#[.int .i64 a] ++ caps)) W = .ok (.enter k (#[.int .i64 a] ++ caps)) W)
    (hp : ∀ (W : World) (a : Nat), Below w.heap.size w W → a < n → Calls Tryz.prog k (#[.int .i64 a] ++ caps) W fun e w' => e = .returned (.bool (p a)) ∧ Below W.heap.size W w') :
    Calls Tryz.prog 43 #[.agg #[.int .i64 n, v], .func (.func k) #[] caps] w fun x w' => ∃ r, x = .returned r ∧ Row w' w.heap.size r (li (lst n p)) ∧ Below w.heap.size w w' := by
  obtain ⟨i0, hi, hz0, hz1, hz2⟩ := info_parts info3b
  have HP := hide hp
  clear hp
  have hB0 : Below w.heap.size w (w.alloc (.cells #[.int .i64 n, v] 24)) := balloc w _
  have hX0 : Blk (w.alloc (.cells #[.int .i64 n, v] 24)) w.heap.size 24 [.int .i64 n, v] := blk0 _ _
  have hs0 : (w.alloc (.cells #[.int .i64 n, v] 24)).heap.size = w.heap.size + 1 := by simp
  go_enter Tryz.func43, Tryz.ntmps43
  go_wp2
  go_loopw [5, 6] (fun r i wr => ∃ j : Nat, j ≤ n ∧ i = .int .i64 j ∧ Row wr (w.heap.size + 1) r (li (lst j p)) ∧ Blk wr w.heap.size 24 [.int .i64 n, v] ∧ Below w.heap.size w wr) (fun _ i _ => n - (intOf i).toNat)
  case atStart => exact ⟨0, Nat.zero_le _, rfl, nil_row _ _, hX0, hB0⟩
  case round =>
    obtain ⟨j, hj, rfl, hrow, hX, hB⟩ := hrel
    clear hX0 hs0
    obtain ⟨r, rfl⟩ : ∃ r, r = u5 := ⟨_, rfl⟩
    obtain ⟨c0, c1, _, _⟩ := hX.two
    by_cases hlt : j < n
    · go_wp2_with fail
      refine (HP.out wr j hB hlt).mono ?_
      rintro e1 w1 ⟨rfl, hb1⟩
      clear c0 c1
      have hB1 := bcat hB hb1 hB.size
      have hX1 := blk_below hX hb1
      have hrow1 := row_below hrow hb1
      have hs1 := hX1.lt
      have hll := lst_len j p
      cases hpj : p j with
      | true =>
        have HE := hide (show lst (j + 1) p = lst j p ++ [j] by rw [lst_snoc, if_pos hpj])
        have HLL := hide (show (li (lst j p)).length ≤ 60 by rw [li_len]; omega)
        have hown : w1.ownsRow (w.heap.size + 1) 3 1 r (li (lst j p)).length ((li (lst j p)).map (Value.int .i64)) := hrow1
        clear hrow hrow1
        go_wp2_with (first
          | (at_builtin; refine wpList_append_own _ rfl _ _ 22 rfl (w.heap.size + 1) 3 i0 (.int .i64 0) 1 8 under22b hi hz0 hz1 hz2 rfl (by decide) _ _ _ rfl (World.ownsRow.alloc hown _) ⟨w1.heap.size, 0, none⟩ 1 1 [.int .i64 j] rfl rfl ?c1 ?c2 ?c3 ?c4 ?c5 ?_))
        case c1 => exact cell_one_new _ _ _
        case c2 => simp [Value.oneCell']
        case c3 => unfold maxLen; have := HLL.out; omega
        case c4 => have := HLL.out; omega
        case c5 => simp; omega
        intro v' w2 hown' hgrow _
        obtain ⟨g', cap', rfl⟩ := ownsRow_succ hown'
        have hB2 : Below w.heap.size w w2 := (hB1.alloc hB1.size _).grown hgrow (by simp; omega) (fun t e => by have := owns_ge hown t e; omega)
        have hX2 : Blk w2 w.heap.size 24 [.int .i64 n, v] := (hX1.alloc _).of_eq (hgrow.block _ (by simp; omega) (fun e => by have := owns_ge hown _ e.symm; omega))
        have hrow2 : Row w2 (w.heap.size + 1) (.slice (some ⟨g', 0, none⟩) ((li (lst j p)).length + 1) cap') (li (lst (j + 1) p)) := by
          unfold Row
          rw [HE.out]
          simpa [li] using hown'
        clear hown' hgrow hown
        go_wp2
        go_roundw
        case rel => exact ⟨j + 1, by omega, by go_num, hrow2, hX2, hB2⟩
        case measure => simp [intOf]; omega
      | false =>
        have HE := hide (show lst (j + 1) p = lst j p by rw [lst_snoc, if_neg (by simp [hpj])])
        go_wp2
        go_roundw
        case rel => exact ⟨j + 1, by omega, by go_num, by rw [HE.out]; exact hrow1, hX1, hB1⟩
        case measure => simp [intOf]; omega
    · have hjn : j = n := by omega
      subst hjn
      have hrow9 := owns_mono hrow (show w.heap.size ≤ w.heap.size + 1 by omega)
      go_wp2
      go_ret
      exact ⟨_, rfl, hrow9, hB⟩

theorem take_snoc' {zs : List Int} {k : Nat} (hk : k < zs.length) : zs.take (k + 1) = zs.take k ++ [zs[k]?.getD 0] := by
  rw [List.take_succ_eq_append_getElem hk]; simp [hk]

theorem range_snoc (k : Nat) : li (List.range (k + 1)) = li (List.range k) ++ [(k : Int)] := by simp [li, List.range_succ]
end Go.Proofs.YtgejngpioldhpaaGreatDoor

namespace Go.Proofs.YtgejngpioldhpaaGreatDoor
open Go Go.RowKit

def sqk (a b : Nat) : Nat := if 3 < a then 4 - b % 4 else b % 4
def sq (a b : Nat) : Nat := (a % 4 + sqk a b) % 4 + (a / 4 + b / 4) % 2 * 4
/-- The square's table. -/
def sqT : List Int := (List.range 64).map fun i => (sq (i / 8) (i % 8) : Int)
theorem sqT_len : sqT.length = 64 := by simp [sqT]
theorem sqT_get {a b : Nat} (ha : a < 8) (hb : b < 8) : sqT[a * 8 + b]?.getD 0 = (sq a b : Int) := by
  have h1 : a * 8 + b < 64 := by omega
  have h2 : (a * 8 + b) / 8 = a := by omega
  have h3 : (a * 8 + b) % 8 = b := by omega
  simp [sqT, h1, h2, h3]
theorem sqT_fault : gfault 8 sqT = (0, 0) := by decide +kernel
theorem sqT_grp : IsGrp 8 sqT 0 := by
  obtain ⟨n, e, hn, hg, _⟩ := gfault_grp (N := 8) (zs := sqT) (by rw [sqT_fault])
  have h1 : n = 8 := by omega
  subst h1
  have h2 := hg.one
  rw [show one 8 sqT = 0 by decide +kernel] at h2
  have h3 : e = 0 := by omega
  subst h3
  exact hg
theorem sqT_cen : lst 8 (cenq 8 sqT (fun _ => true)) = [0, 2] := by decide +kernel

theorem tmod_nat {x : Int} {y : Nat} (m : Nat) (h : x = (y : Int)) : x.tmod (m : Int) = ((y % m : Nat) : Int) := by
  subst h
  rw [Int.tmod_eq_emod_of_nonneg (by omega), Int.natCast_emod]
theorem tdiv_nat {x : Int} {y : Nat} (m : Nat) (h : x = (y : Int)) : x.tdiv (m : Int) = ((y / m : Nat) : Int) := by
  subst h
  rw [Int.tdiv_eq_ediv_of_nonneg (by omega), Int.natCast_ediv]

end Go.Proofs.YtgejngpioldhpaaGreatDoor

namespace Go.Proofs.YtgejngpioldhpaaGreatDoor
open Go Go.RowKit

theorem mem_li {xs : List Nat} {a : Nat} : (a : Int) ∈ li xs ↔ a ∈ xs := by
  unfold li
  rw [List.mem_map]
  constructor
  · rintro ⟨x, hx, he⟩
    have : x = a := by omega
    rwa [← this]
  · intro h
    exact ⟨a, h, rfl⟩
theorem pset_lst {n : Nat} {p : Nat → Bool} {a : Nat} (ha : a < n) : pset (li (lst n p)) a = p a := by
  unfold pset
  rw [Bool.eq_iff_iff, decide_eq_true_eq, mem_li, mem_lst]
  simp [ha]
theorem lst_congr {n : Nat} {p q : Nat → Bool} (h : ∀ a, a < n → p a = q a) : lst n p = lst n q :=
  List.filter_congr fun a ha => h a (List.mem_range.1 ha)
theorem lst_pset (n : Nat) (p : Nat → Bool) : lst n (pset (li (lst n p))) = lst n p := lst_congr fun _ ha => pset_lst ha
/-- Nothing is wrong with a list of a set. -/
theorem lst_fault (n : Nat) (p : Nat → Bool) : lfault n (li (lst n p)) = (0, 0) := by
  refine lfault_ok (by rw [li_len]; exact lst_len n p) fun t ht => ?_
  rw [li_len] at ht
  have h0 := mem_lst.1 (List.getElem_mem ht)
  have h2 : rbad n (li (lst n p)) t = false := by unfold rbad; rw [li_get ht]; simp; omega
  have h3 : fbad (li (lst n p)) t = false := by
    unfold fbad
    rw [decide_eq_false_iff_not]
    rintro ⟨h4, h5⟩
    have h6 : t - 1 < (lst n p).length := by omega
    rw [li_get ht, li_get h6] at h5
    have h7 := List.pairwise_iff_getElem.1 (lst_rise n p) (t - 1) t h6 ht (by omega)
    omega
  rw [h2, h3]; rfl
theorem subT_congr {n e : Nat} {zs : List Int} {p q : Nat → Bool} (g : IsGrp n zs e) (h : ∀ a, a < n → p a = q a) : subT n zs e p = subT n zs e q := by
  rw [Bool.eq_iff_iff, subT_iff, subT_iff]
  constructor
  · rintro ⟨h1, h2⟩
    exact ⟨by rw [← h e g.elt]; exact h1, fun a b ha hb h3 h4 => by
      have ha' := List.mem_range.1 ha
      have hb' := List.mem_range.1 hb
      rw [← h _ (tm_lt g.tab ha' hb')]
      exact h2 a b ha hb (by rw [h a ha']; exact h3) (by rw [h b hb']; exact h4)⟩
  · rintro ⟨h1, h2⟩
    exact ⟨by rw [h e g.elt]; exact h1, fun a b ha hb h3 h4 => by
      have ha' := List.mem_range.1 ha
      have hb' := List.mem_range.1 hb
      rw [h _ (tm_lt g.tab ha' hb')]
      exact h2 a b ha hb (by rw [← h a ha']; exact h3) (by rw [← h b hb']; exact h4)⟩
/-- What is made, as a test, is a subgroup. -/
theorem made_sg {n e : Nat} {zs : List Int} {q p : Nat → Bool} (g : IsGrp n zs e) (hp : ∀ a, a < n → (p a = true ↔ Mkd n zs e q a)) : Fin.Sg (List.range n) (tm n zs) e (fun a => p a = true) := by
  have S := Fin.Gen.sg (l := List.range n) (m := tm n zs) (e := e) (fun x => q x = true)
  refine ⟨(hp e g.elt).2 S.one, fun a b ha hb h1 h2 => ?_⟩
  have ha' := List.mem_range.1 ha
  have hb' := List.mem_range.1 hb
  exact (hp _ (tm_lt g.tab ha' hb')).2 (S.mul a b ha hb ((hp a ha').1 h1) ((hp b hb').1 h2))
/-- The document's inverse. -/
theorem Iiv_ok (n a e : Nat) (v : Value) (zs : List Int) (w : World) (g : IsGrp n zs e) (hv : Sl w v zs) (ha : a < n) :
    Calls Tryz.prog 48 #[.agg #[.int .i64 n, v], .int .i64 a] w fun x w' => x = .returned (.int .i64 (iv n zs e a)) ∧ Below w.heap.size w w' := by
  have h := I_ok n a v zs w g.tab hv ha
  rw [invR_eq g.tab (by rw [g.one]; omega) (fun t ht => assB_iff.2 fun b c hb hc => g.ass t b c ht hb hc) ha, g.one, (iv_spec g ha).2.2.2] at h
  exact h
/-- Products of things of two lists. -/
def prq (n : Nat) (zs : List Int) (e : Nat) (xs ys : List Nat) (x : Nat) : Bool := xs.any fun a => decide (tm n zs (iv n zs e a) x ∈ ys)
theorem prq_iff {n e : Nat} {zs : List Int} {p q : Nat → Bool} (g : IsGrp n zs e) {x : Nat} (hx : x < n) : prq n zs e (lst n p) (lst n q) x = true ↔ ∃ a b, a ∈ List.range n ∧ b ∈ List.range n ∧ p a = true ∧ q b = true ∧ tm n zs a b = x := by
  unfold prq
  simp only [List.any_eq_true, decide_eq_true_eq, mem_lst]
  constructor
  · rintro ⟨a, ⟨ha, hpa⟩, hb, hqb⟩
    obtain ⟨h1, h2, _, _⟩ := iv_spec g ha
    exact ⟨a, _, List.mem_range.2 ha, List.mem_range.2 hb, hpa, hqb, by rw [← g.ass _ _ _ ha h1 hx, h2, g.left x hx]⟩
  · rintro ⟨a, b, ha, hb, hpa, hqb, rfl⟩
    have ha := List.mem_range.1 ha
    have hb := List.mem_range.1 hb
    obtain ⟨h1, _, h3, _⟩ := iv_spec g ha
    refine ⟨a, ⟨ha, hpa⟩, ?_⟩
    rw [← g.ass _ _ _ h1 ha hb, h3, g.left b hb]
    exact ⟨hb, hqb⟩

end Go.Proofs.YtgejngpioldhpaaGreatDoor

namespace Go.Proofs.YtgejngpioldhpaaGreatDoor
open Go Go.RowKit

/-- The commutators of things of two lists. -/
def cmq (n : Nat) (zs : List Int) (e : Nat) (xs ys : List Nat) (y : Nat) : Bool := xs.any fun a => ys.any fun b => decide (Fin.cm (tm n zs) (iv n zs e) a b = y)
theorem bs_put {n t : Nat} {p q : Nat → Bool} (hn : n ≤ 60) (h : ∀ y, q y = (p y || decide (y = t))) : bits BinOp.or IntKind.u64 (bs p n : Int) (bs (fun y => decide (y = t)) n : Int) = (bs q n : Int) := by
  rw [or_bs p _ hn]
  congr 2
  funext y
  rw [h y]

end Go.Proofs.YtgejngpioldhpaaGreatDoor

namespace Go.Proofs.YtgejngpioldhpaaGreatDoor
open Go Go.RowKit

/-- The conjugates by a of a list's things. -/
def cjl (n : Nat) (zs : List Int) (e : Nat) (xs : List Nat) (a y : Nat) : Bool := xs.any fun x => decide (Fin.cj (tm n zs) (iv n zs e) x a = y)
abbrev cjq (n : Nat) (zs : List Int) (e : Nat) (q : Nat → Bool) (a : Nat) : Nat → Bool := cjl n zs e (lst n q) a
/-- Is a set, conjugated by a, the same? -/
def norq (n : Nat) (zs : List Int) (e : Nat) (q : Nat → Bool) (a : Nat) : Bool := decide (bs (cjq n zs e q a) n = bs q n)
end Go.Proofs.YtgejngpioldhpaaGreatDoor

namespace Go.Proofs.YtgejngpioldhpaaGreatDoor
open Go Go.RowKit

/-- What a set has, by whatever it is conjugated. -/
def corq (n : Nat) (zs : List Int) (e : Nat) (q : Nat → Bool) (k y : Nat) : Bool := q y && (List.range k).all fun a => cjq n zs e q a y
/-- All conjugates of a set. -/
def cloq (n : Nat) (zs : List Int) (e : Nat) (q : Nat → Bool) (k y : Nat) : Bool := (List.range k).any fun a => cjq n zs e q a y
def nrmq (n : Nat) (zs : List Int) (e : Nat) (q : Nat → Bool) : Bool := decide (bs (norq n zs e q) n = bs (fun _ => true) n)

end Go.Proofs.YtgejngpioldhpaaGreatDoor

namespace Go.Proofs.YtgejngpioldhpaaGreatDoor
open Go Go.RowKit

theorem box1 (w : World) (x y z : Value) (t : TypeId) : Boxed ((w.alloc (.cells #[x] t)).alloc (.cells #[y, z] 27)) w.heap.size t x ∧ Blk ((w.alloc (.cells #[x] t)).alloc (.cells #[y, z] 27)) (w.heap.size + 1) 27 [y, z] ∧ Below w.heap.size w ((w.alloc (.cells #[x] t)).alloc (.cells #[y, z] 27)) := by
  refine ⟨(Boxed.new w t x).alloc _, ?_, (balloc w _).alloc (by simp) _⟩
  have := blk0 (w := w.alloc (.cells #[x] t)) (T := 27) y z
  rwa [World.size_alloc] at this

end Go.Proofs.YtgejngpioldhpaaGreatDoor

namespace Go.Proofs.YtgejngpioldhpaaGreatDoor
open Go Go.RowKit

/-- DEDEKIND'S LAW, of tests. -/
theorem dedekind_math {n e : Nat} {zs : List Int} (g : IsGrp n zs e) {p q r : Nat → Bool} (Sp : Fin.Sg (List.range n) (tm n zs) e (fun a => p a = true)) (Sr : Fin.Sg (List.range n) (tm n zs) e (fun a => r a = true)) (hpr : ∀ a, a < n → p a = true → r a = true) :
    lst n (prq n zs e (lst n p) (lst n fun a => q a && r a)) = lst n (fun a => prq n zs e (lst n p) (lst n q) a && r a) := by
  refine lst_congr fun x hx => ?_
  rw [Bool.eq_iff_iff, Bool.and_eq_true, prq_iff g hx, prq_iff g hx]
  constructor
  · rintro ⟨a, b, ha, hb, hpa, hqb, he⟩
    simp only [Bool.and_eq_true] at hqb
    refine ⟨⟨a, b, ha, hb, hpa, hqb.1, he⟩, ?_⟩
    rw [← he]
    exact Sr.mul a b ha hb (hpr a (List.mem_range.1 ha) hpa) hqb.2
  · rintro ⟨⟨a, b, ha, hb, hpa, hqb, he⟩, hrx⟩
    refine ⟨a, b, ha, hb, hpa, ?_, he⟩
    simp only [Bool.and_eq_true]
    refine ⟨hqb, ?_⟩
    have ha' := List.mem_range.1 ha
    have hb' := List.mem_range.1 hb
    obtain ⟨h1, h2, h3, _⟩ := iv_spec g ha'
    have h4 : b = tm n zs (iv n zs e a) x := by rw [← he, ← g.ass _ _ _ h1 ha' hb', h3, g.left b hb']
    rw [h4]
    exact Sr.mul _ _ (List.mem_range.2 h1) (List.mem_range.2 hx) (hpr _ h1 (Sp.inv (grp_fg g) ha (List.mem_range.2 h1) h2 hpa)) hrx
theorem both_li {n : Nat} {p q : Nat → Bool} : (li (lst n p)).filter (fun a => decide (a ∈ li (lst n q))) = li (lst n fun a => p a && q a) := by
  unfold li
  rw [List.filter_map]
  congr 1
  unfold lst
  rw [List.filter_filter]
  refine List.filter_congr fun a ha => ?_
  have h9 := mem_li (xs := lst n q) (a := a)
  unfold li lst at h9
  show (decide ((a : Int) ∈ List.map (fun (x : Nat) => (x : Int)) ((List.range n).filter q)) && p a) = (p a && q a)
  rw [Bool.and_comm]
  congr 1
  rw [Bool.eq_iff_iff, decide_eq_true_eq, h9, List.mem_filter]
  exact ⟨fun h => h.2, fun h => ⟨ha, h⟩⟩
end Go.Proofs.YtgejngpioldhpaaGreatDoor

namespace Go.Proofs.YtgejngpioldhpaaGreatDoor
open Go Go.RowKit

/-- What lies behind the third Made: its list, and a fault in a box that is none. -/
def DRel (w5 : World) (zs : List Int) (s13 s14 : Value) (W : World) : Prop := ∃ fb a l c, s13 = .slice a l c ∧ s14 = .pointer (some ⟨fb, 0, none⟩) ∧ Blk W fb 27 [.int .i64 0, .int .i64 0] ∧ Sl W (.slice a l c) zs ∧ Below w5.heap.size w5 W
theorem blkd {w : World} {T : TypeId} (x y : Value) : Blk (w.alloc (.cells #[x, y] T)).drew w.heap.size T [x, y] := blk0 (w := w) x y
theorem cell_eq {a b : World} (h : Below a.heap.size a b) (p : Addr) (hp : (a.cell? p).isSome = true) : b.cell? p = a.cell? p := by
  obtain ⟨v, hv⟩ := Option.isSome_iff_exists.1 hp
  rw [hv]; exact below_cell h hv
theorem frozen_eq {a b : World} (h : Below a.heap.size a b) (p : Addr) (hp : (a.cell? p).isSome = true) : b.frozen? p = a.frozen? p := by
  obtain ⟨v, hv⟩ := Option.isSome_iff_exists.1 hp
  exact World.frozen?_of_block (h.block _ (World.block_lt_of_cell? a p hv))
theorem those_sl {f : Nat} {args : Array Value} {w : World} {zs : List Int} (h0 : 0 < w.heap.size) (h : Calls Tryz.prog f args w fun x w' => ∃ r, x = .returned r ∧ Row w' w.heap.size r zs ∧ Below w.heap.size w w') :
    Calls Tryz.prog f args w fun x w' => ∃ a l c, x = .returned (.slice a l c) ∧ Sl w' (.slice a l c) zs ∧ Below w.heap.size w w' := by
  refine h.mono ?_
  rintro x w' ⟨r, rfl, hr, hb⟩
  have hs := row_sl hr (Nat.lt_of_lt_of_le h0 hb.size)
  obtain ⟨a, l, c, rfl⟩ := hs.isSlice
  exact ⟨a, l, c, rfl, hs, hb⟩
theorem set_same (W : World) (b o : Nat) (v : Value) (h : W.cell? ⟨b, o, none⟩ = some v) : W.setCell ⟨b, o, none⟩ v = W := by
  unfold World.cell? at h
  cases hb : W.heap[b]? with
  | none => simp [hb] at h
  | some ob =>
    cases ob with
    | cells c T fz =>
      refine setCell_self hb ?_
      simp [hb] at h
      obtain ⟨h1, h2⟩ := Array.getElem?_eq_some_iff.1 h
      apply Array.ext
      · simp
      · intro i h3 h4
        rw [Array.getElem_setIfInBounds (by simpa using h4)]
        split
        · rename_i e; subst e; exact h2.symm
        · rfl
    | _ => simp [hb] at h
theorem Sl.alloc {w : World} {v : Value} {zs : List Int} (h : Sl w v zs) (o : Obj) : Sl (w.alloc o) v zs := h.below (balloc w o)

end Go.Proofs.YtgejngpioldhpaaGreatDoor

namespace Go.Proofs.YtgejngpioldhpaaGreatDoor
open Go Go.RowKit

/-- All numbers below n, as a set. -/
theorem full_fault (n : Nat) : lfault n (li (List.range n)) = (0, 0) := by
  refine lfault_ok (by simp [li]) fun t ht => ?_
  have ht : t < n := by simpa [li] using ht
  have h1 : (li (List.range n))[t]?.getD 0 = (t : Int) := by simp [li, ht]
  have h2 : rbad n (li (List.range n)) t = false := by unfold rbad; rw [h1]; simp; omega
  have h3 : fbad (li (List.range n)) t = false := by
    unfold fbad
    rw [h1, decide_eq_false_iff_not]
    rintro ⟨h4, h5⟩
    have h6 : t - 1 < n := by omega
    have h7 : (li (List.range n))[t - 1]?.getD 0 = ((t - 1 : Nat) : Int) := by simp [li, h6]
    rw [h7] at h5; omega
  rw [h2, h3]; rfl
theorem full_pset (n : Nat) : lst n (pset (li (List.range n))) = List.range n := by
  unfold lst
  rw [List.filter_eq_self]
  intro a ha
  unfold pset
  rw [decide_eq_true_eq]
  exact List.mem_map.2 ⟨a, ha, rfl⟩
/-- The commutators of all things make what Fin.Cms makes. -/
theorem cms_iff {n e : Nat} {zs : List Int} (a : Nat) : Mkd n zs e (cmq n zs e (List.range n) (List.range n)) a ↔ Fin.Gen (List.range n) (tm n zs) e (Fin.Cms (List.range n) (tm n zs) (iv n zs e)) a := by
  have h : ∀ x, (cmq n zs e (List.range n) (List.range n) x = true ↔ Fin.Cms (List.range n) (tm n zs) (iv n zs e) x) := fun x => by
    unfold cmq Fin.Cms
    simp only [List.any_eq_true, decide_eq_true_eq]
    exact ⟨fun ⟨a, ha, b, hb, hc⟩ => ⟨a, b, ha, hb, hc⟩, fun ⟨a, b, ha, hb, hc⟩ => ⟨a, ha, b, hb, hc⟩⟩
  exact ⟨fun hg => Fin.Gen.mono (fun x _ hx => (h x).1 hx) hg, fun hg => Fin.Gen.mono (fun x _ hx => (h x).2 hx) hg⟩
/-- All commute just where the centre is all. -/
theorem cen_all {n : Nat} {zs : List Int} : comB n zs = decide ((lst n (cenq n zs fun _ => true)).length = n) := by
  have hl : lst n (fun _ => true) = List.range n := by unfold lst; simp
  rw [Bool.eq_iff_iff, decide_eq_true_eq, comB_iff]
  have hlen : (lst n (cenq n zs fun _ => true)).length = n ↔ ∀ a, a < n → cenq n zs (fun _ => true) a = true := by
    unfold lst
    have := List.length_filter_eq_length_iff (l := List.range n) (p := cenq n zs fun _ => true)
    rw [List.length_range] at this
    rw [this]
    exact ⟨fun h a ha => h a (List.mem_range.2 ha), fun h a ha => h a (List.mem_range.1 ha)⟩
  rw [hlen]
  constructor
  · intro h a ha
    unfold cenq
    rw [hl, List.all_eq_true]
    intro x hx
    simpa using h a x ha (List.mem_range.1 hx)
  · intro h a b ha hb
    have := h a ha
    unfold cenq at this
    rw [hl, List.all_eq_true] at this
    simpa using this b (List.mem_range.2 hb)
/-- All commute just where the commutators make the one alone. -/
theorem der_all {n e : Nat} {zs : List Int} (g : IsGrp n zs e) {p : Nat → Bool} (hp : ∀ a, a < n → (p a = true ↔ Mkd n zs e (cmq n zs e (List.range n) (List.range n)) a)) : comB n zs = decide ((lst n p).length = 1) := by
  rw [Bool.eq_iff_iff, decide_eq_true_eq, comB_iff]
  have hd := Fin.der_one (grp_fg g) (grp_iv g)
  have he : p e = true := (hp e g.elt).2 ((Fin.Gen.sg _).one)
  have hem : e ∈ lst n p := mem_lst.2 ⟨g.elt, he⟩
  have h1 : (∀ a b, a < n → b < n → tm n zs a b = tm n zs b a) ↔ ∀ a, a < n → p a = true → a = e := by
    constructor
    · intro h a ha hpa
      exact hd.2 (fun a b ha hb => h a b (List.mem_range.1 ha) (List.mem_range.1 hb)) a (List.mem_range.2 ha) ((cms_iff a).1 ((hp a ha).1 hpa))
    · intro h a b ha hb
      exact hd.1 (fun a ha hg => h a (List.mem_range.1 ha) ((hp a (List.mem_range.1 ha)).2 ((cms_iff a).2 hg))) a b (List.mem_range.2 ha) (List.mem_range.2 hb)
  rw [h1]
  constructor
  · intro h
    have : lst n p = [e] := rise_eq (lst_rise n p) (by simp) fun a => by
      rw [mem_lst, List.mem_singleton]
      exact ⟨fun ⟨h1, h2⟩ => h a h1 h2, fun h1 => by subst h1; exact ⟨g.elt, he⟩⟩
    rw [this]; rfl
  · intro h a ha hpa
    obtain ⟨x, hx⟩ := List.length_eq_one_iff.1 h
    have h2 : a ∈ lst n p := mem_lst.2 ⟨ha, hpa⟩
    rw [hx, List.mem_singleton] at h2 hem
    rw [h2, hem]

end Go.Proofs.YtgejngpioldhpaaGreatDoor

namespace Go.Proofs.YtgejngpioldhpaaGreatDoor
open Go

theorem cjq_iff {n e : Nat} {zs : List Int} {q : Nat → Bool} {a y : Nat} : cjq n zs e q a y = true ↔ ∃ x, x ∈ List.range n ∧ q x = true ∧ Fin.cj (tm n zs) (iv n zs e) x a = y := by
  unfold cjq cjl
  simp only [List.any_eq_true, decide_eq_true_eq, mem_lst]
  exact ⟨fun ⟨x, ⟨h1, h2⟩, h3⟩ => ⟨x, List.mem_range.2 h1, h2, h3⟩, fun ⟨x, h1, h2, h3⟩ => ⟨x, ⟨List.mem_range.1 h1, h2⟩, h3⟩⟩
variable {n e : Nat} {zs : List Int} {q : Nat → Bool}
theorem nor_iff (a : Nat) : norq n zs e q a = true ↔ Fin.Nor (List.range n) (tm n zs) (iv n zs e) (fun x => q x = true) a := by
  unfold norq Fin.Nor
  rw [decide_eq_true_eq]
  constructor
  · intro h y hy
    have := bs_inj h y (List.mem_range.1 hy)
    rw [← cjq_iff, this]
  · intro h
    refine bs_ext fun y hy => ?_
    rw [Bool.eq_iff_iff, cjq_iff]
    exact h y (List.mem_range.2 hy)
theorem nrm_iff (g : IsGrp n zs e) : nrmq n zs e q = true ↔ Fin.Nm (List.range n) (tm n zs) (iv n zs e) (fun x => q x = true) := by
  unfold nrmq
  rw [decide_eq_true_eq, ← Fin.nor_all (grp_fg g) (grp_iv g)]
  constructor
  · intro h a ha
    exact (nor_iff a).1 (bs_inj h a (List.mem_range.1 ha))
  · intro h
    exact bs_ext fun a ha => (nor_iff a).2 (h a (List.mem_range.2 ha))
theorem cor_iff (g : IsGrp n zs e) {y : Nat} (hy : y < n) : corq n zs e q n y = true ↔ Fin.Core (List.range n) (tm n zs) (iv n zs e) (fun x => q x = true) y := by
  have hF := grp_fg g
  have hV := grp_iv g
  unfold corq
  rw [Bool.and_eq_true, List.all_eq_true]
  constructor
  · rintro ⟨_, h⟩ b hb
    obtain ⟨x, hx, hq, hc⟩ := cjq_iff.1 (h _ (hV b hb).1)
    rw [← hc, (Fin.cj_back hF hV hx hb).2]
    exact hq
  · intro h
    refine ⟨Fin.core_in hF hV (List.mem_range.2 hy) h, fun a ha => ?_⟩
    exact cjq_iff.2 ⟨_, Fin.cj_mem hF hV (List.mem_range.2 hy) (hV a ha).1, h _ (hV a ha).1, (Fin.cj_back hF hV (List.mem_range.2 hy) ha).2⟩
theorem clo_iff (y : Nat) : cloq n zs e q n y = true ↔ Fin.Conj (List.range n) (tm n zs) (iv n zs e) (fun x => q x = true) y := by
  unfold cloq Fin.Conj
  rw [List.any_eq_true]
  constructor
  · rintro ⟨a, ha, h⟩
    obtain ⟨x, hx, hq, hc⟩ := cjq_iff.1 h
    exact ⟨x, a, hx, ha, hq, hc⟩
  · rintro ⟨x, a, hx, ha, hq, hc⟩
    exact ⟨a, ha, cjq_iff.2 ⟨x, hx, hq, hc⟩⟩
theorem mkd_clo (a : Nat) : Mkd n zs e (cloq n zs e q n) a ↔ Fin.Gen (List.range n) (tm n zs) e (Fin.Conj (List.range n) (tm n zs) (iv n zs e) (fun x => q x = true)) a :=
  ⟨fun h => Fin.Gen.mono (fun x _ hx => (clo_iff x).1 hx) h, fun h => Fin.Gen.mono (fun x _ hx => (clo_iff x).2 hx) h⟩
theorem cen_iff (a : Nat) : cenq n zs (fun _ => true) a = true ↔ Fin.Cen' (List.range n) (tm n zs) a := by
  unfold cenq Fin.Cen'
  rw [List.all_eq_true]
  have hl : lst n (fun _ => true) = List.range n := by unfold lst; simp
  rw [hl]
  exact ⟨fun h x hx => by simpa using h x hx, fun h x hx => by simpa using h x hx⟩
/-- A test that says, of things, what a subgroup's property says. -/
theorem sg_test (g : IsGrp n zs e) {P : Nat → Prop} (S : Fin.Sg (List.range n) (tm n zs) e P) (h : ∀ a, a < n → (q a = true ↔ P a)) : subT n zs e (pset (li (lst n q))) = true := by
  rw [subT_congr g (q := q) (fun a ha => pset_lst ha), subT_iff]
  refine ⟨(h e g.elt).2 S.one, fun a b ha hb h1 h2 => ?_⟩
  have ha' := List.mem_range.1 ha
  have hb' := List.mem_range.1 hb
  exact (h _ (tm_lt g.tab ha' hb')).2 (S.mul a b ha hb ((h a ha').1 h1) ((h b hb').1 h2))
theorem nm_test (g : IsGrp n zs e) {P : Nat → Prop} (N : Fin.Nm (List.range n) (tm n zs) (iv n zs e) P) (h : ∀ a, a < n → (q a = true ↔ P a)) : nrmq n zs e (pset (li (lst n q))) = true := by
  rw [nrm_iff g]
  intro x a hx ha hp
  have hc := Fin.cj_mem (grp_fg g) (grp_iv g) hx ha
  have hx' := List.mem_range.1 hx
  have hc' := List.mem_range.1 hc
  rw [pset_lst hx'] at hp
  rw [pset_lst hc']
  exact (h _ hc').2 (N x a hx ha ((h x hx').1 hp))
theorem part_lst {p q : Nat → Bool} (h : ∀ a, a < n → p a = true → q a = true) : ((li (lst n p)).all fun a => decide (a ∈ li (lst n q))) = true := by
  rw [List.all_eq_true]
  intro z hz
  obtain ⟨a, ha, rfl⟩ := List.mem_map.1 hz
  obtain ⟨h4, h5⟩ := mem_lst.1 ha
  simpa using (mem_li.2 (mem_lst.2 ⟨h4, h a h4 h5⟩))
theorem li_inj {xs ys : List Nat} (h : li xs = li ys) : xs = ys := by
  unfold li at h
  exact (List.map_inj_right (f := fun (x : Nat) => (x : Int)) (fun a b h => by omega)).1 h
theorem lst_inj {p q : Nat → Bool} : lst n p = lst n q ↔ ∀ a, a < n → (p a = true ↔ q a = true) := by
  constructor
  · intro h a ha
    have h1 := mem_lst (n := n) (p := p) (a := a)
    have h2 := mem_lst (n := n) (p := q) (a := a)
    rw [h] at h1
    exact ⟨fun hp => (h2.1 (h1.2 ⟨ha, hp⟩)).2, fun hq => (h1.1 (h2.2 ⟨ha, hq⟩)).2⟩
  · intro h
    exact lst_congr fun a ha => by rw [Bool.eq_iff_iff]; exact h a ha
/-- What SubChains asks at its end: a subgroup is normal just where it is its core, its closure, and its normaliser is all. -/
theorem chain_math (g : IsGrp n zs e) (S : Fin.Sg (List.range n) (tm n zs) e (fun a => q a = true)) {pk : Nat → Bool} (hk : ∀ a, a < n → (pk a = true ↔ Mkd n zs e (cloq n zs e q n) a)) :
    nrmq n zs e q = decide (li (lst n (corq n zs e q n)) = li (lst n q)) ∧ nrmq n zs e q = decide (li (lst n pk) = li (lst n q)) ∧ nrmq n zs e q = decide ((lst n (norq n zs e q)).length = n) := by
  have hF := grp_fg g
  have hV := grp_iv g
  refine ⟨?_, ?_, ?_⟩
  · rw [Bool.eq_iff_iff, decide_eq_true_eq, nrm_iff g]
    constructor
    · intro hN
      rw [lst_inj.2 fun a ha => (cor_iff g ha).trans ⟨fun h => Fin.core_in hF hV (List.mem_range.2 ha) h, fun h => Fin.core_all hN (List.mem_range.2 ha) h⟩]
    · intro h x a hx ha hp
      have h1 := lst_inj.1 (li_inj h)
      have hc := Fin.cj_mem hF hV hx ha
      have hx' := List.mem_range.1 hx
      have hc' := List.mem_range.1 hc
      exact (h1 _ hc').1 ((cor_iff g hc').2 (Fin.core_nm hF hV x a hx ha ((cor_iff g hx').1 ((h1 x hx').2 hp))))
  · rw [Bool.eq_iff_iff, decide_eq_true_eq, nrm_iff g]
    constructor
    · intro hN
      rw [lst_inj.2 fun a ha => (hk a ha).trans ((mkd_clo a).trans ⟨fun h => Fin.clos_least S hN (fun x _ hx => hx) h, fun h => Fin.clos_has hF hV (List.mem_range.2 ha) h⟩)]
    · intro h x a hx ha hp
      have h1 := lst_inj.1 (li_inj h)
      have hc := Fin.cj_mem hF hV hx ha
      have hx' := List.mem_range.1 hx
      have hc' := List.mem_range.1 hc
      exact (h1 _ hc').1 ((hk _ hc').2 ((mkd_clo _).2 (Fin.clos_nm hF hV x a hx ha ((mkd_clo x).1 ((hk x hx').1 ((h1 x hx').2 hp))))))
  · rw [Bool.eq_iff_iff, decide_eq_true_eq, nrm_iff g, ← Fin.nor_all hF hV]
    have := List.length_filter_eq_length_iff (l := List.range n) (p := norq n zs e q)
    rw [List.length_range] at this
    unfold lst
    rw [this]
    exact ⟨fun h a ha => (nor_iff a).2 (h a ha), fun h a ha => (nor_iff a).1 (h a ha)⟩
end Go.Proofs.YtgejngpioldhpaaGreatDoor

namespace Go.Proofs.YtgejngpioldhpaaGreatDoor
open Go

/-- Answers below n, as a list. -/
def bm (n : Nat) (p : Nat → Bool) : List Bool := (List.range n).map p
theorem bm_len (n : Nat) (p : Nat → Bool) : (bm n p).length = n := by simp [bm]
theorem bm_get {n a : Nat} {p : Nat → Bool} (ha : a < n) : (bm n p)[a]?.getD false = p a := by simp [bm, ha]
theorem bm_set {n y : Nat} {p : Nat → Bool} : (bm n p).set y true = bm n (fun a => p a || decide (a = y)) := by
  apply List.ext_getElem
  · simp [bm]
  · intro i h1 h2
    simp [bm] at h1
    rw [List.getElem_set]
    simp only [bm, List.getElem_map, List.getElem_range]
    by_cases e : y = i
    · subst e; simp
    · simp [e, Ne.symm e]
theorem bm_none (n : Nat) : bm n (fun _ => false) = List.replicate n false := by
  apply List.ext_getElem <;> simp [bm]
/-- How many below n are not in. -/
def nob (n : Nat) (p : Nat → Bool) : Nat := ((List.range n).filter fun a => !p a).length
theorem nob_set {n y : Nat} {p : Nat → Bool} (hy : y < n) (hp : p y = false) : nob n (fun a => p a || decide (a = y)) < nob n p := by
  unfold nob
  have h1 : ((List.range n).filter fun a => !(p a || decide (a = y))) = ((List.range n).filter fun a => !p a).filter fun a => !decide (a = y) := by
    rw [List.filter_filter]
    refine List.filter_congr fun a _ => ?_
    cases p a <;> cases decide (a = y) <;> rfl
  rw [h1]
  refine List.length_filter_lt_length_iff_exists.2 ⟨y, ?_, by simp⟩
  rw [List.mem_filter]
  exact ⟨List.mem_range.2 hy, by simp [hp]⟩
/-- How the document's search stands: what it has is made, and has what it began with; with 'again' it has become more, without it nothing has changed, and all pairs that it looked at are closed. -/
structure Spn (n : Nat) (zs : List Int) (e : Nat) (q p0 p : Nat → Bool) (again : Bool) (a b : Nat) : Prop where
  one : p e = true
  base : ∀ x, x < n → q x = true → p x = true
  made : ∀ x, x < n → p x = true → Mkd n zs e q x
  more : again = true → nob n p < nob n p0
  same : again = false → ∀ x, x < n → p x = p0 x
  done : again = false → ∀ x y, x < n → y < n → (x < a ∨ (x = a ∧ y < b)) → p x = true → p y = true → p (tm n zs x y) = true
variable {n e : Nat} {zs : List Int} {q p0 p : Nat → Bool} {again : Bool} {a b : Nat}
theorem Spn.start (h1 : p e = true) (h2 : ∀ x, x < n → q x = true → p x = true) (h3 : ∀ x, x < n → p x = true → Mkd n zs e q x) : Spn n zs e q p p false 0 0 :=
  ⟨h1, h2, h3, fun h => (by cases h), fun _ _ _ => rfl, fun _ _ _ _ _ h => by omega⟩
theorem Spn.skip (h : Spn n zs e q p0 p again a b) (hno : p a = true → p b = true → p (tm n zs a b) = true) : Spn n zs e q p0 p again a (b + 1) :=
  ⟨h.one, h.base, h.made, h.more, h.same, fun hag x y hx hy hxy h1 h2 => by
    by_cases e9 : x = a ∧ y = b
    · obtain ⟨rfl, rfl⟩ := e9; exact hno h1 h2
    · exact h.done hag x y hx hy (by omega) h1 h2⟩
theorem Spn.hit (g : IsGrp n zs e) (h : Spn n zs e q p0 p again a b) (ha : a < n) (hb : b < n) (h1 : p a = true) (h2 : p b = true) (h3 : p (tm n zs a b) = false) : Spn n zs e q p0 (fun x => p x || decide (x = tm n zs a b)) true a (b + 1) := by
  have hm : Mkd n zs e q (tm n zs a b) := (Fin.Gen.sg _).mul a b (List.mem_range.2 ha) (List.mem_range.2 hb) (h.made a ha h1) (h.made b hb h2)
  refine ⟨by simp [h.one], fun x hx hq => by simp [h.base x hx hq], fun x hx hp => ?_, fun _ => ?_, fun h => (by cases h), fun h => by cases h⟩
  · simp only [Bool.or_eq_true, decide_eq_true_eq] at hp
    rcases hp with hp | rfl
    · exact h.made x hx hp
    · exact hm
  · have hl := nob_set (n := n) (tm_lt g.tab ha hb) h3
    cases hag : again
    · have : nob n p = nob n p0 := by
        unfold nob
        rw [List.filter_congr fun x hx => by rw [h.same hag x (List.mem_range.1 hx)]]
      omega
    · have := h.more hag; omega
theorem Spn.row (h : Spn n zs e q p0 p again a b) (hb : n ≤ b) : Spn n zs e q p0 p again (a + 1) 0 :=
  ⟨h.one, h.base, h.made, h.more, h.same, fun hag x y hx hy hxy h1 h2 => h.done hag x y hx hy (by omega) h1 h2⟩
theorem Spn.fin (h : Spn n zs e q p0 p false a b) (ha : n ≤ a) : ∀ x, x < n → (p x = true ↔ Mkd n zs e q x) := by
  intro x hx
  refine ⟨h.made x hx, fun hm => ?_⟩
  have S : Fin.Sg (List.range n) (tm n zs) e (fun y => y ∈ List.range n → p y = true) := ⟨fun _ => h.one, fun u v hu hv h1 h2 _ => h.done rfl u v (List.mem_range.1 hu) (List.mem_range.1 hv) (by have := List.mem_range.1 hu; omega) (h1 hu) (h2 hv)⟩
  exact hm _ S (fun y hy hq _ => h.base y (List.mem_range.1 hy) hq) (List.mem_range.2 hx)
end Go.Proofs.YtgejngpioldhpaaGreatDoor

namespace Go.Proofs.YtgejngpioldhpaaGreatDoor
open Go Go.RowKit

theorem info4b : (Tryz.prog.info? 4).map (fun i => (i.zero, i.size, i.bytes)) = some (some (.bool false), 1, 1) := by kernel_rfl
/-- How many of a block's cells are no. -/
def cntB (ib : Nat) (W : World) : Nat := match W.heap[ib]? with
  | some (.cells c _ _) => (c.toList.filter fun v => match v with | .bool b => !b | _ => false).length
  | _ => 0
theorem cntB_blk {ib n : Nat} {p : Nat → Bool} {W : World} (h : Blk W ib 4 ((bm n p).map Value.bool)) : cntB ib W = nob n p := by
  unfold cntB
  rw [show W.heap[ib]? = _ from h]
  unfold nob bm
  simp only [List.filter_map, List.length_map]
  rfl
theorem undrew' {a b : World} (h : Below a.drew.heap.size a.drew b) : Below a.heap.size a b := ⟨h.os, h.tape, h.output, h.size, h.block⟩
def boolOf : Value → Bool
  | .bool b => b
  | _ => false

end Go.Proofs.YtgejngpioldhpaaGreatDoor

namespace Go.Proofs.YtgejngpioldhpaaGreatDoor
open Go Go.RowKit

theorem has_sl (v : Value) (xs : List Nat) (a : Nat) (w : World) (hv : Sl w v (li xs)) :
    Calls Tryz.prog 40 #[v, .int .i64 a] w fun e w' => e = .returned (.bool (decide (a ∈ xs))) ∧ Below w.heap.size w w' := by
  refine (rhas_ok v (li xs) a w hv).mono ?_
  rintro e w' ⟨rfl, rfl⟩
  refine ⟨?_, Below.refl _ _⟩
  have : decide ((a : Int) ∈ li xs) = decide (a ∈ xs) := by rw [Bool.eq_iff_iff, decide_eq_true_eq, decide_eq_true_eq, mem_li]
  rw [this]
end Go.Proofs.YtgejngpioldhpaaGreatDoor

namespace Go.Proofs.YtgejngpioldhpaaGreatDoor
open Go Go.RowKit

end Go.Proofs.YtgejngpioldhpaaGreatDoor

namespace Go.Proofs.YtgejngpioldhpaaGreatDoor
open Go Go.RowKit

theorem pset_self {n : Nat} {l : List Int} (h : lfault n l = (0, 0)) : pset l = fun a => decide (a ∈ lst n (pset l)) := by
  have hli := set_lst (show (lfault n l).1 = 0 by rw [h])
  funext a
  have : pset l a = pset (li (lst n (pset l))) a := by rw [← hli]
  rw [this]
  unfold pset
  rw [Bool.eq_iff_iff, decide_eq_true_eq, decide_eq_true_eq, mem_li]
end Go.Proofs.YtgejngpioldhpaaGreatDoor

namespace Go.Proofs.YtgejngpioldhpaaGreatDoor
open Go Go.RowKit

end Go.Proofs.YtgejngpioldhpaaGreatDoor

namespace Go.Proofs.YtgejngpioldhpaaGreatDoor
open Go Go.RowKit

/-- What is wrong with a table, and then with numbers as its things, the first one first. -/
def tfl (N : Int) (zs l : List Int) : Int × Int :=
  if (gfault N zs).1 ≠ 0 then gfault N zs
  else if least l.length (fun i => decide (l[i]?.getD 0 < 0 ∨ N ≤ l[i]?.getD 0)) ≠ -1 then (3, least l.length (fun i => decide (l[i]?.getD 0 < 0 ∨ N ≤ l[i]?.getD 0)) + 1) else (0, 0)
theorem tfl_one (N : Int) (zs : List Int) (a : Int) : tfl N zs [a] = tfault N zs a := by
  unfold tfl tfault
  by_cases h1 : (gfault N zs).1 ≠ 0
  · rw [if_pos h1, if_pos h1]
  · rw [if_neg h1, if_neg h1]
    by_cases h2 : 0 ≤ a ∧ a < N
    · rw [if_pos h2, if_neg]
      rw [Decidable.not_not, least_neg]
      intro t ht
      have : t = 0 := by simpa using ht
      subst this
      simp; omega
    · rw [if_neg h2]
      have : least [a].length (fun i => decide ([a][i]?.getD 0 < 0 ∨ N ≤ [a][i]?.getD 0)) = ((0 : Nat) : Int) := least_at (by simp) (by simp; omega) (fun t ht => by omega)
      rw [this]; simp

end Go.Proofs.YtgejngpioldhpaaGreatDoor

namespace Go.Proofs.YtgejngpioldhpaaGreatDoor
open Go Go.RowKit

theorem bAlloc {a W : World} {o : Obj} (h : Below a.heap.size a W) : Below a.heap.size a (W.alloc o) := h.alloc h.size o
theorem bSet {a W : World} {b o : Nat} {x : Value} (h : Below a.heap.size a W) (hb : a.heap.size ≤ b) : Below a.heap.size a (W.setCell ⟨b, o, none⟩ x) := h.setCell (p := ⟨b, o, none⟩) (by simpa using hb) x
set_option maxRecDepth 100000 in
set_option maxHeartbeats 2000000 in
theorem ownGroup_row (N : Int) (v : Value) (zs : List Int) (w : World) (hv : Sl w v zs) (hb : zs.length * 8 ≤ 140737488355328) :
    Calls Tryz.prog 6 #[.agg #[.int .i64 N, v]] w fun e w' => ∃ u, e = .returned (.agg #[.int .i64 N, u]) ∧ Row w' w.heap.size u zs ∧ Below w.heap.size w w' := by
  obtain ⟨w0, hw0⟩ : ∃ w0, w0 = (w.alloc (.cells #[.int .i64 N, v] 24)).alloc (.cells #[.int .i64 0, .slice none 0 0] 24) := ⟨_, rfl⟩
  have hB0 : Below w.heap.size w w0 := by rw [hw0]; exact (balloc w _).alloc (by simp) _
  have hg0 : BoxG w0 w.heap.size N v := by rw [hw0]; exact (blk0 _ _).alloc _
  have hR0 : Blk w0 (w.heap.size + 1) 24 [.int .i64 0, .slice none 0 0] := by
    rw [hw0]
    have : Blk ((w.alloc (.cells #[.int .i64 N, v] 24)).alloc (.cells #[.int .i64 0, .slice none 0 0] 24)) (w.alloc (.cells #[.int .i64 N, v] 24)).heap.size 24 [.int .i64 0, .slice none 0 0] := blk0 _ _
    rw [World.size_alloc] at this; exact this
  have hv0 := hv.below hB0
  obtain ⟨k0, k1, _, _⟩ := hg0.two
  obtain ⟨r0, r1, fr0, fr1⟩ := hR0.two
  obtain ⟨a, cap, pb, po, rfl, hr, hp, hq3, hq4⟩ := id hv
  have hS : ∀ W, Below w0.heap.size w0 W → (Below w.heap.size w W ∧ W.cell? ⟨w.heap.size, 0, none⟩ = some (.int .i64 N) ∧ W.cell? ⟨w.heap.size, 1, none⟩ = some (.slice a zs.length cap)) := fun W h => ⟨bcat hB0 h hB0.size, below_cell h k0, below_cell h k1⟩
  have hS3 : ∀ W u, Below w0.heap.size w0 W → (Below w.heap.size w ((W.setCell ⟨w.heap.size + 1, 0, none⟩ (.int .i64 N)).setCell ⟨w.heap.size + 1, 1, none⟩ u) ∧ ((W.setCell ⟨w.heap.size + 1, 0, none⟩ (.int .i64 N)).setCell ⟨w.heap.size + 1, 1, none⟩ u).cell? ⟨w.heap.size, 0, none⟩ = some (.int .i64 N) ∧ ((W.setCell ⟨w.heap.size + 1, 0, none⟩ (.int .i64 N)).setCell ⟨w.heap.size + 1, 1, none⟩ u).cell? ⟨w.heap.size, 1, none⟩ = some (.slice a zs.length cap)) := fun W u h => by
    have h1 : Below w.heap.size w W := bcat hB0 h hB0.size
    refine ⟨(h1.setCell (p := ⟨w.heap.size + 1, 0, none⟩) (by simp) _).setCell (p := ⟨w.heap.size + 1, 1, none⟩) (by simp) _, ?_, ?_⟩
    · rw [World.cell?_setCell_far _ _ _ _ (by simp), World.cell?_setCell_far _ _ _ _ (by simp)]; exact below_cell h k0
    · rw [World.cell?_setCell_far _ _ _ _ (by simp), World.cell?_setCell_far _ _ _ _ (by simp)]; exact below_cell h k1
  have hS0 := hS _ (bdrew (Below.refl _ w0))
  clear k0 k1 r0 r1 fr0 fr1
  go_enter Tryz.func6, Tryz.ntmps6
  go_wp2_with fail
  rw [← hw0]
  clear hw0
  go_region_held3 (fun W => Below w.heap.size w W ∧ W.cell? ⟨w.heap.size, 0, none⟩ = some (.int .i64 N) ∧ W.cell? ⟨w.heap.size, 1, none⟩ = some (.slice a zs.length cap))
    (first | exact hS0 | assumption | exact hS _ hl2 | exact hS3 _ _ hl2)
    (first | (go_at_call 7; refine (own_any _ zs _ (hv.below (And.left ‹_›)) hb).mono ?_; rintro e W1 ⟨u, rfl, hu1, hl1⟩; obtain ⟨a9, cap9, rfl⟩ := own_slice hu1; have hl2 := undrew hl1; obtain ⟨y0, y1, fy0, fy1⟩ := (blk_below hR0 hl2).two))
  have hR1 := blk_below hR0 hl2
  have hBw := bcat hB0 hl2 hB0.size
  have hs9 := hR0.lt
  have hu2 : Row ((W1.setCell ⟨w.heap.size + 1, 0, none⟩ (.int .i64 N)).setCell ⟨w.heap.size + 1, 1, none⟩ (.slice a9 zs.length cap9)) w.heap.size (.slice a9 zs.length cap9) zs := owns_mono (own_keep hu1 (fun b hb _ => by
    have hb : w0.heap.size ≤ b := hb
    rw [Below.heap_setCell _ _ _ _ (by simp; omega), Below.heap_setCell _ _ _ _ (by simp; omega)])) hB0.size
  have hR6 : Blk ((W1.setCell ⟨w.heap.size + 1, 0, none⟩ (.int .i64 N)).setCell ⟨w.heap.size + 1, 1, none⟩ (.slice a9 zs.length cap9)) (w.heap.size + 1) 24 [.int .i64 N, .slice a9 zs.length cap9] := (hR1.set 0 _).set 1 _
  have hB6 := (hBw.setCell (p := ⟨w.heap.size + 1, 0, none⟩) (by simp) (.int .i64 N)).setCell (p := ⟨w.heap.size + 1, 1, none⟩) (by simp) (.slice a9 zs.length cap9)
  clear y0 y1 fy0 fy1 hS hS3 hS0
  go_wp2
  generalize (W1.setCell ⟨w.heap.size + 1, 0, none⟩ (.int .i64 N)).setCell ⟨w.heap.size + 1, 1, none⟩ (.slice a9 zs.length cap9) = W at hR6 hB6 hu2 ⊢
  obtain ⟨z0, z1, _, _⟩ := hR6.two
  exact bodyPost_ret (v := .agg #[.int .i64 N, .slice a9 zs.length cap9]) (by simp [results, Tryz.results6, go_sem, z0, z1]) rfl ⟨_, rfl, hu2, hB6⟩
theorem slset {U W : World} {x : Value} {zs : List Int} {b o : Nat} {y : Value} (h : Sl U x zs) (hb : U.heap.size ≤ b) (hUW : ∀ k, k < U.heap.size → W.heap[k]? = U.heap[k]?) : Sl (W.setCell ⟨b, o, none⟩ y) x zs := by
  obtain ⟨a, cap, pb, po, rfl, hr, hp, h1, h2⟩ := h
  have hpw : pb < W.heap.size := by
    have := hUW pb hp
    rw [Array.getElem?_eq_getElem hp] at this
    exact (Array.getElem?_eq_some_iff.1 this).1
  exact ⟨a, cap, pb, po, rfl, hr.of_eq ((Below.heap_setCell _ _ _ pb (by simp; omega)).trans (hUW pb hp)), by rw [size_set]; exact hpw, h1, h2⟩
theorem rowset {W : World} {B b o : Nat} {u y : Value} {zs : List Int} (h : Row W B u zs) (hb : b < B) : Row (W.setCell ⟨b, o, none⟩ y) B u zs := row_keep h (fun g h1 _ => Below.heap_setCell _ _ _ g (by simp; omega))
/-- What lies behind the law's first row: a table and a list of its own. -/
def MRel (w0 : World) (N : Int) (zs l : List Int) (s5 s6 : Value) (W : World) : Prop := ∃ gb a1 a2 a3 m1 m2 m3, s5 = .pointer (some ⟨gb, 0, none⟩) ∧ s6 = .slice m1 m2 m3 ∧ Blk W gb 24 [.int .i64 N, .slice a1 a2 a3] ∧ Sl W (.slice a1 a2 a3) zs ∧ Sl W (.slice m1 m2 m3) l ∧ Below w0.heap.size w0 W
end Go.Proofs.YtgejngpioldhpaaGreatDoor
