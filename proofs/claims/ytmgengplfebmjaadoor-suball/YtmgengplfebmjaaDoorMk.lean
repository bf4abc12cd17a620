/- What package sub's made makes: what the makers make, all products of them. -/
import Derived.Test.YtmgengplfebmjaaDoorTk
namespace Go.Proofs.YtmgengplfebmjaaDoor
open Go Go.RowKit

/-- What the set q makes in the group. -/
abbrev Mkd (n : Nat) (zs : List Int) (e : Nat) (q : Nat → Bool) (a : Nat) : Prop := Fin.Gen (List.range n) (tm n zs) e (fun x => q x = true) a
/-- How far it has come: of the things ahead of k all products with makers are found, of the one at k those with the first j makers. -/
structure Inv (n : Nat) (zs : List Int) (e : Nat) (q : Nat → Bool) (F : List Nat) (k j : Nat) : Prop where
  nd : F.Nodup
  mem : ∀ x, x ∈ F → x < n ∧ Mkd n zs e q x
  one : e ∈ F
  done : ∀ i, i < k → ∀ y, F[i]? = some y → ∀ x, x < n → q x = true → tm n zs y x ∈ F
  part : ∀ y, F[k]? = some y → ∀ i, i < j → ∀ x, (lst n q)[i]? = some x → tm n zs y x ∈ F
theorem Inv.start {n : Nat} {zs : List Int} {e : Nat} {q : Nat → Bool} (g : IsGrp n zs e) : Inv n zs e q [e] 0 0 :=
  ⟨by simp, fun x hx => by simp at hx; subst hx; exact ⟨g.elt, (Fin.Gen.sg _).one⟩, by simp, fun i hi => by omega, fun _ _ i hi => by omega⟩
theorem Inv.step {n : Nat} {zs : List Int} {e : Nat} {q : Nat → Bool} {F : List Nat} {k j x y : Nat} (g : IsGrp n zs e) (h : Inv n zs e q F k j) (hy : F[k]? = some y) (hx : (lst n q)[j]? = some x) :
    Inv n zs e q (if tm n zs y x ∈ F then F else F ++ [tm n zs y x]) k (j + 1) := by
  have hkl := (List.getElem?_eq_some_iff.1 hy).1
  have hyF : y ∈ F := List.mem_of_getElem? hy
  have hxl := mem_lst.1 (List.mem_of_getElem? hx)
  obtain ⟨hyn, hyg⟩ := h.mem y hyF
  have hsub : ∀ z, z ∈ F → z ∈ (if tm n zs y x ∈ F then F else F ++ [tm n zs y x]) := fun z hz => by split <;> simp [hz]
  have hnew : tm n zs y x ∈ (if tm n zs y x ∈ F then F else F ++ [tm n zs y x]) := by split <;> simp_all
  have hget : ∀ i, i < F.length → (if tm n zs y x ∈ F then F else F ++ [tm n zs y x])[i]? = F[i]? := fun i hi => by
    split
    · rfl
    · rw [List.getElem?_append_left hi]
  refine ⟨?_, ?_, hsub _ h.one, ?_, ?_⟩
  · split
    · exact h.nd
    · rename_i hn
      exact List.nodup_append.2 ⟨h.nd, by simp, fun a ha b hb => by simp at hb; subst hb; exact fun e => hn (e ▸ ha)⟩
  · intro z hz
    have : z ∈ F ∨ z = tm n zs y x := by split at hz <;> simp_all
    rcases this with h1 | rfl
    · exact h.mem z h1
    · exact ⟨tm_lt g.tab hyn hxl.1, (Fin.Gen.sg _).mul _ _ (List.mem_range.2 hyn) (List.mem_range.2 hxl.1) hyg (Fin.Gen.base (List.mem_range.2 hxl.1) hxl.2)⟩
  · intro i hi z hz a ha hq
    rw [hget i (by omega)] at hz
    exact hsub _ (h.done i hi z hz a ha hq)
  · intro z hz i hi a ha
    rw [hget k hkl, hy] at hz
    obtain rfl := Option.some.inj hz
    by_cases hij : i = j
    · subst hij
      rw [hx] at ha
      obtain rfl := Option.some.inj ha
      exact hnew
    · exact hsub _ (h.part y hy i (by omega) a ha)
theorem Inv.next {n : Nat} {zs : List Int} {e : Nat} {q : Nat → Bool} {F : List Nat} {k j : Nat} (h : Inv n zs e q F k j) (hj : (lst n q).length ≤ j) : Inv n zs e q F (k + 1) 0 := by
  refine ⟨h.nd, h.mem, h.one, ?_, fun _ _ i hi => by omega⟩
  intro i hi y hy x hx hq
  by_cases hik : i = k
  · subst hik
    obtain ⟨t, ht⟩ := List.mem_iff_getElem?.1 (mem_lst.2 ⟨hx, hq⟩)
    exact h.part y hy t (by have := (List.getElem?_eq_some_iff.1 ht).1; omega) x ht
  · exact h.done i (by omega) y hy x hx hq
theorem Inv.fin {n : Nat} {zs : List Int} {e : Nat} {q : Nat → Bool} {F : List Nat} {k j : Nat} (g : IsGrp n zs e) (h : Inv n zs e q F k j) (hk : F.length ≤ k) : ∀ a, a < n → (a ∈ F ↔ Mkd n zs e q a) := by
  intro a ha
  refine ⟨fun hm => (h.mem a hm).2, fun hg => ?_⟩
  refine closed_gen (P := fun z => z ∈ F) (grp_fg g) h.one (fun y x _ hx hy hX => ?_) (List.mem_range.2 ha) hg
  obtain ⟨t, ht⟩ := List.mem_iff_getElem?.1 hy
  exact h.done t (by have := (List.getElem?_eq_some_iff.1 ht).1; omega) y ht x (List.mem_range.1 hx) hX
theorem Inv.len {n : Nat} {zs : List Int} {e : Nat} {q : Nat → Bool} {F : List Nat} {k j : Nat} (h : Inv n zs e q F k j) : F.length ≤ n := nodup_fits h.nd (fun x hx => (h.mem x hx).1)
theorem take_len (F : List Nat) (a : Nat) : F.length ≤ (if a ∈ F then F else F ++ [a]).length := by split <;> simp
theorem take_get {F : List Nat} {k y : Nat} (a : Nat) (h : F[k]? = some y) : (if a ∈ F then F else F ++ [a])[k]? = some y := by
  split
  · exact h
  · rw [List.getElem?_append_left (List.getElem?_eq_some_iff.1 h).1]; exact h

set_option maxRecDepth 100000 in
set_option maxHeartbeats 4000000 in
theorem made_ok (n : Nat) (v u : Value) (zs : List Int) (e : Nat) (q p : Nat → Bool) (w : World) (hG : GA w n v e u zs) (hT : Tab w) (hp : ∀ a, a < n → (p a = true ↔ Mkd n zs e q a)) :
    Calls Tryd.prog 67 #[.agg #[.int .i64 n, v, .int .i64 e, u], .int .u64 (bs q n)] w fun x w' => x = .returned (.int .u64 (bs p n)) ∧ Below w.heap.size w w' := by
  have hn := hG.le
  have hgrp := hG.grp
  have helt := hgrp.elt
  obtain ⟨w1, hw1⟩ : ∃ w1, w1 = ((w.alloc (.cells #[.int .i64 n, v, .int .i64 e, u] 67)).alloc (.cells #[.int .u64 0] 73)).alloc (.cells #[.slice none 0 0] 22) := ⟨_, rfl⟩
  have hB1 : Below w.heap.size w w1 := by
    rw [hw1]
    exact (((balloc w _).alloc (by simp) _).alloc (by simp; omega) _)
  have hz1 : w1.heap.size = w.heap.size + 3 := by rw [hw1]; simp
  have hX4 : Box4 w1 w.heap.size n e v u := by rw [hw1]; exact ⟨((blk4 _ _ _ _).alloc _).alloc _⟩
  have hXs : Boxed w1 (w.heap.size + 1) 73 (.int .u64 0) := by
    rw [hw1]
    have := (Boxed.new (w.alloc (.cells #[.int .i64 n, v, .int .i64 e, u] 67)) 73 (.int .u64 0)).alloc (.cells #[.slice none 0 0] 22)
    simpa using this
  have hXf : Boxed w1 (w.heap.size + 1 + 1) 22 (.slice none 0 0) := by
    rw [hw1]
    have := Boxed.new ((w.alloc (.cells #[.int .i64 n, v, .int .i64 e, u] 67)).alloc (.cells #[.int .u64 0] 73)) 22 (.slice none 0 0)
    simpa using this
  have HL := hide (list_ok n q w1 hn (hT.below hB1))
  obtain ⟨c0, c1, c2, c3⟩ := hX4.cells
  have HZ := hide hz1
  clear hz1
  go_enter Tryd.func67, Tryd.ntmps67
  go_wp2_with fail
  rw [← hw1]
  clear hw1
  refine HL.out.mono ?_
  rintro e1 w3 ⟨mk, rfl, hmk, hb3⟩
  have hB3 := bcat hB1 hb3 hB1.size
  have hX4 := hX4.below hb3
  have hXs := Boxed.below hXs hb3
  have hXf := Boxed.below hXf hb3
  have hG3 := hG.below hB3
  have HZ3 := hide (show w.heap.size + 3 ≤ w3.heap.size by rw [← HZ.out]; exact hb3.size)
  have hF0 : Fnd w3 w3.heap.size (w.heap.size + 1) (w.heap.size + 1 + 1) n [] := ⟨by simpa [bs_none] using hXs, ⟨_, hXf, World.ownsRow_nil _ _ _ _⟩, by omega, by have := HZ3.out; omega, by have := HZ3.out; omega⟩
  have HT0 := hide (take_ok w3.heap.size (w.heap.size + 1) (w.heap.size + 1 + 1) n e [] w3 hF0 (Nat.le_refl _) hn helt (by simp))
  obtain ⟨c0, c1, c2, c3⟩ := hX4.cells
  obtain ⟨ma, mcap, mpb, mpo, rfl, hmr, hmp, hm3, hm4, hmb⟩ := hmk
  rw [li_len] at hm3
  have HMB := hide (show w.heap.size + 3 ≤ mpb by rw [← HZ.out]; exact hmb)
  have HMR := hide hmr
  have hml := lst_len n q
  rw [li_len]
  have HLen := hide (li_len (lst n q))
  clear hmr hmb hF0 hXs hXf HL HZ hm4
  go_wp2_with fail
  refine HT0.out.mono ?_
  rintro e2 w4 ⟨rfl, hF4, hC4⟩
  have hF4 : Fnd w4 w3.heap.size (w.heap.size + 1) (w.heap.size + 1 + 1) n [e] := by simpa using hF4
  have hI4 : Inv n zs e q [e] 0 0 := Inv.start hgrp
  clear HT0 c0 c1 c2 c3
  go_wp2
  go_loopw [9] (fun i wr => ∃ (k : Nat) (F : List Nat), i = .int .i64 k ∧ k ≤ F.length ∧ Fnd wr w3.heap.size (w.heap.size + 1) (w.heap.size + 1 + 1) n F ∧ Inv n zs e q F k 0 ∧ Chg w3.heap.size (w.heap.size + 1) (w.heap.size + 1 + 1) w3 wr) (fun i _ => n - (intOf i).toNat)
  case atStart => exact ⟨0, [e], rfl, by simp, hF4, hI4, hC4⟩
  case round =>
    obtain ⟨k, F, rfl, hk, hF, hI, hC⟩ := hrel
    have hFl := hI.len
    obtain ⟨fv, hfb, hrow⟩ := hF.fnd
    obtain ⟨fa, fcap, rfl⟩ := own_slice hrow
    have hfc := hfb.cell
    have hsc := hF.sub.cell
    clear hfb hrow
    by_cases hlt : k < F.length
    · obtain ⟨y, hy⟩ : ∃ y, F[k]? = some y := ⟨F[k], List.getElem?_eq_getElem hlt⟩
      have HY := hide hy
      clear hy
      go_wp2
      clear hsc hfc
      go_loopw [27] (fun i wr => ∃ (j : Nat) (F' : List Nat), i = .int .i64 j ∧ j ≤ (lst n q).length ∧ F'[k]? = some y ∧ Fnd wr w3.heap.size (w.heap.size + 1) (w.heap.size + 1 + 1) n F' ∧ Inv n zs e q F' k j ∧ Chg w3.heap.size (w.heap.size + 1) (w.heap.size + 1 + 1) w3 wr) (fun i _ => (lst n q).length - (intOf i).toNat)
      case atStart => exact ⟨0, F, rfl, by omega, HY.out, hF, hI, hC⟩
      case round =>
        obtain ⟨j, F', rfl, hj, hy', hF', hI', hC'⟩ := hrel
        clear hF hI hC
        have hFl' := hI'.len
        by_cases hltj : j < (lst n q).length
        · obtain ⟨x, hx⟩ : ∃ x, (lst n q)[j]? = some x := ⟨(lst n q)[j], List.getElem?_eq_getElem hltj⟩
          have hxl := mem_lst.1 (List.mem_of_getElem? hx)
          obtain ⟨hyn, _⟩ := hI'.mem y (List.mem_of_getElem? hy')
          have hkl := (List.getElem?_eq_some_iff.1 hy').1
          have hBw : Below w.heap.size w wr := by
            have h1 := hC'.below (g := w.heap.size) (by omega) (by omega) (by have := HZ3.out; omega)
            exact hB3.trans h1
          have hmc : wr.cell? ⟨mpb, mpo + j, none⟩ = some (.int .i64 x) := by
            have h1 := HMR.out.cell j (by rw [HLen.out]; exact hltj)
            rw [li_get hltj, (List.getElem?_eq_some_iff.1 hx).2] at h1
            rw [← h1]
            exact World.cell?_of_block (a := ⟨mpb, mpo + j, none⟩) (hC'.block mpb hmp (by have := HMB.out; omega) (by have := HMB.out; omega))
          obtain rfl := HMR.out.at_ (by rw [HLen.out]; omega)
          have hX4' : Box4 wr w.heap.size n e v u := ⟨(hX4.blk).of_eq (hC'.block _ (by have := HZ3.out; omega) (by omega) (by omega))⟩
          have hGr := hG.below hBw
          obtain ⟨fv', hfb', hrow'⟩ := hF'.fnd
          have hsl := Sl.of_own (base := w3.heap.size) (v := fv') (zs := li F') (by rw [li_len]; exact hrow') (Nat.lt_of_le_of_lt (Nat.zero_le _) hfb'.lt)
          obtain ⟨fa', fcap', fpb, fpo, rfl, hfr, hfp, hf3, hf4⟩ := hsl
          have hfk : wr.cell? ⟨fpb, fpo + k, none⟩ = some (.int .i64 y) := by
            have h1 := hfr.cell k (by rw [li_len]; exact hkl)
            rw [li_get hkl, (List.getElem?_eq_some_iff.1 hy').2] at h1
            exact h1
          obtain rfl := hfr.at_ (by rw [li_len]; omega)
          have hfc' := hfb'.cell
          rw [li_len] at hfc' hf3 hfb' hrow'
          obtain ⟨c0, c1, c2, c3⟩ := hX4'.cells
          have HP := hide (prd_ok n v u zs e y x wr.drew hgrp.tab (hGr.mul.below (bdrew (Below.refl _ wr))) hyn hxl.1)
          have htl := tm_lt hgrp.tab hyn hxl.1
          have HTK := hide (fun W (h : Below wr.heap.size wr W) => take_ok w3.heap.size (w.heap.size + 1) (w.heap.size + 1 + 1) n (tm n zs y x) F' W (hF'.below h) (Nat.le_trans hC'.size h.size) hn htl (by omega))
          have HST := hide (Inv.step hgrp hI' hy' hx)
          have HGT := hide (take_get (tm n zs y x) hy')
          have HC' := hide hC'
          clear hfb' hrow' hfr hF' hI' hX4' hGr hx hy' hBw hC'
          generalize tm n zs y x = t at *
          have hkF : (k : Int) < (F'.length : Int) := by omega
          go_wp2_with fail
          go_region_with (first
            | (go_at_call 99; refine HP.out.mono ?_; rintro e8 w8 ⟨rfl, hb8⟩; have hb9 : Below wr.heap.size wr w8 := ⟨hb8.os, hb8.tape, hb8.output, hb8.size, hb8.block⟩)
            | (go_at_call 97; refine (HTK.out _ hb9).mono ?_; rintro e9 w9 ⟨rfl, hF9, hC9⟩))
          all_goals (
            have hC10 := (HC'.out.trans (Chg.of_below hb9 HC'.out.size)).trans hC9
            go_wp2
            go_roundw
            case rel => exact ⟨j + 1, _, by go_num, by omega, HGT.out, hF9, HST.out, hC10⟩
            case measure => simp [intOf]; omega)
        · have HN := hide (hI'.next (by omega))
          have HL2 := hide (List.getElem?_eq_some_iff.1 hy').1
          go_wp2
          go_roundw
          case rel => exact ⟨k + 1, F', by go_num, HL2.out, hF', HN.out, hC'⟩
          case measure => simp [intOf]; omega
    · have HE := hide (show bs (fun a => decide (a ∈ F)) n = bs p n from bs_ext fun a ha => by
        rw [Bool.eq_iff_iff, decide_eq_true_eq, hI.fin hgrp (by omega) a ha, hp a ha])
      have HB := hide (hB3.trans (hC.below (g := w.heap.size) (by omega) (by omega) (by have := HZ3.out; omega)))
      go_wp2
      go_ret
      exact ⟨by rw [← HE.out]; rfl, HB.out⟩
end Go.Proofs.YtmgengplfebmjaaDoor
