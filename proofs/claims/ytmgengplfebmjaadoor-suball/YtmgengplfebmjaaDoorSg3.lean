/- What package sub's subgroups answers: each subgroup once. -/
import Derived.Test.YtmgengplfebmjaaDoorSg2
namespace Go.Proofs.YtmgengplfebmjaaDoor
open Go Go.RowKit Go.Maps

theorem stake (B sb fb M n : Nat) (p : Nat → Bool) (P : List (Nat → Bool)) (w : World) (hF : SFnd w B sb fb M n P) (hB : B ≤ w.heap.size) (hn : n ≤ 60) (hl : P.length ≤ 16777216) :
    Calls Tryd.prog 83 #[.int .u64 (bs p n : Nat), .pointer (some ⟨sb, 0, none⟩), .pointer (some ⟨fb, 0, none⟩)] w fun e w' => e = .returned (.tuple #[]) ∧ SFnd w' B sb fb M n (put n P p) ∧ Chg B M fb w w' := by
  unfold put
  by_cases h : bs p n ∈ bits n P
  · rw [if_pos h]
    refine (stake_old B sb fb M n p P w hF hn h).mono ?_
    rintro e w' ⟨rfl, h1, h2⟩
    exact ⟨rfl, h1, Chg.of_below h2 hB⟩
  · rw [if_neg h]
    exact stake_new B sb fb M n p P w hF hB hn h hl
theorem bAl {a W : World} {o : Obj} (h : Below a.heap.size a W) : Below a.heap.size a (W.alloc o) := h.alloc h.size o
set_option maxRecDepth 100000 in
set_option maxHeartbeats 8000000 in
theorem subgroups_ok (n e : Nat) (v u : Value) (zs : List Int) (w : World) (hG : GA w n v e u zs) (hT : Tab w) (hn24 : n ≤ 24) :
    Calls Tryd.prog 49 #[.agg #[.int .i64 n, v, .int .i64 e, u]] w fun x w' => ∃ (r : Value) (P : List (Nat → Bool)), x = .returned r ∧ w'.ownsRow w.heap.size 73 1 r P.length ((bits n P).map fun (s : Nat) => Value.int .u64 (s : Int)) ∧ (∃ k, P.length ≤ k ∧ SInv n zs e P k 0) ∧ Below w.heap.size w w' := by
  have hn := hG.le
  have hgrp := hG.grp
  have helt := hgrp.elt
  obtain ⟨w1, hw1⟩ : ∃ w1, w1 = ((((w.alloc (.cells #[.int .i64 n, v, .int .i64 e, u] 67)).alloc (.cells #[.slice none 0 0] 70)).alloc (.map #[] 0)).alloc (.cells #[.map (some (w.heap.size + 1 + 1))] 100)).alloc (.cells #[.int .i64 e] 3) := ⟨_, rfl⟩
  have hB1 : Below w.heap.size w w1 := by
    rw [hw1]
    exact (((((balloc w _).alloc (by simp) _).alloc (by simp; omega) _).alloc (by simp; omega) _).alloc (by simp; omega) _)
  have hz1 : w1.heap.size = w.heap.size + 5 := by rw [hw1]; simp
  have hX4 : Box4 w1 w.heap.size n e v u := by rw [hw1]; exact ⟨((((blk4 _ _ _ _).alloc _).alloc _).alloc _).alloc _⟩
  have hXf : Boxed w1 (w.heap.size + 1) 70 (.slice none 0 0) := by
    rw [hw1]
    have := (((Boxed.new (w.alloc (.cells #[.int .i64 n, v, .int .i64 e, u] 67)) 70 (.slice none 0 0)).alloc (.map #[] 0)).alloc (.cells #[.map (some (w.heap.size + 1 + 1))] 100)).alloc (.cells #[.int .i64 e] 3)
    simpa using this
  have hXm : w1.ownsMap Tryd.prog 73 unitElem (w.heap.size + 1 + 1) 0 (.map [] : DataW Unit) := by
    have h0 := World.ownsMap_made (H := Unit) ((w.alloc (.cells #[.int .i64 n, v, .int .i64 e, u] 67)).alloc (.cells #[.slice none 0 0] 70)) Tryd.prog 73 unitElem
    have h1 := h0.kept (World.grownBy_alloc _ (.cells #[.map (some (w.heap.size + 1 + 1))] 100) none) (by simp)
    have h2 := h1.kept (World.grownBy_alloc _ (.cells #[.int .i64 e] 3) none) (by simp)
    rw [← hw1] at h2
    simpa using h2
  have hXs : Boxed w1 (w.heap.size + 1 + 1 + 1) 100 (.map (some (w.heap.size + 1 + 1))) := by
    rw [hw1]
    have := (Boxed.new (((w.alloc (.cells #[.int .i64 n, v, .int .i64 e, u] 67)).alloc (.cells #[.slice none 0 0] 70)).alloc (.map #[] 0)) 100 (.map (some (w.heap.size + 1 + 1)))).alloc (.cells #[.int .i64 e] 3)
    simpa using this
  have hce : w1.cell? ⟨w.heap.size + 1 + 1 + 1 + 1, 0, none⟩ = some (.int .i64 e) := by
    rw [hw1]
    have := cell1 ((((w.alloc (.cells #[.int .i64 n, v, .int .i64 e, u] 67)).alloc (.cells #[.slice none 0 0] 70)).alloc (.map #[] 0)).alloc (.cells #[.map (some (w.heap.size + 1 + 1))] 100)) (.int .i64 e) 3
    simpa using this
  have hF0 : SFnd w1 w1.heap.size (w.heap.size + 1 + 1 + 1) (w.heap.size + 1) (w.heap.size + 1 + 1) n [] := ⟨hXs, ⟨_, hXm, fun s => by simp [Maps.has, bits]⟩, ⟨_, hXf, World.ownsRow_nil _ _ _ _⟩, by omega, by omega, by omega, by omega, by omega, by omega⟩
  have HT0 := hide (stake w1.heap.size (w.heap.size + 1 + 1 + 1) (w.heap.size + 1) (w.heap.size + 1 + 1) n (fun x => decide (x = e)) [] w1 hF0 (Nat.le_refl _) hn (by simp))
  have HOF := hide (of_one n (w.heap.size + 1 + 1 + 1 + 1) e w1 hn helt hce)
  have HZ := hide hz1
  have hmm := @run_makeMap Tryd.prog
  clear hz1 hXf hXm hXs hce hF0
  go_enter Tryd.func49, Tryd.ntmps49
  go_wp2_with fail
  rw [← hw1]
  clear hw1 hmm
  refine HOF.out.mono ?_
  rintro x9 w2 ⟨rfl, hw2⟩
  rw [hw2]
  clear hw2
  go_wp2_with fail
  refine HT0.out.mono ?_
  rintro x9 w4 ⟨rfl, hF4, hC4⟩
  have hF4 : SFnd w4 w1.heap.size (w.heap.size + 1 + 1 + 1) (w.heap.size + 1) (w.heap.size + 1 + 1) n [fun x => decide (x = e)] := by simpa [put, bits] using hF4
  have hI4 : SInv n zs e [fun x => decide (x = e)] 0 0 := SInv.start hgrp
  clear HT0 HOF
  go_wp2
  go_loopw [6] (fun i wr => ∃ (k : Nat) (P : List (Nat → Bool)), i = .int .i64 k ∧ k ≤ P.length ∧ SFnd wr w1.heap.size (w.heap.size + 1 + 1 + 1) (w.heap.size + 1) (w.heap.size + 1 + 1) n P ∧ SInv n zs e P k 0 ∧ Chg w1.heap.size (w.heap.size + 1 + 1) (w.heap.size + 1) w1 wr) (fun i _ => 16777216 - (intOf i).toNat)
  case atStart => exact ⟨0, _, rfl, by simp, hF4, hI4, hC4⟩
  case round =>
    clear hF4 hI4 hC4
    obtain ⟨k, P, rfl, hk, hF, hI, hC⟩ := hrel
    have hPl := hI.len hn24
    obtain ⟨fv, hfb, hrow⟩ := hF.fnd
    obtain ⟨fa, fcap, rfl⟩ := own_val hrow
    have hfc := hfb.cell
    have hX4r : Box4 wr w.heap.size n e v u := ⟨(hX4.blk).of_eq (hC.block _ (by have := HZ.out; omega) (by omega) (by omega))⟩
    obtain ⟨c0, c1, c2, c3⟩ := hX4r.cells
    clear hfb
    by_cases hlt : k < P.length
    · have hki : (k : Int) < (P.length : Int) := by omega
      obtain ⟨q, hq⟩ : ∃ q, P[k]? = some q := ⟨P[k], List.getElem?_eq_getElem hlt⟩
      have HQ := hide hq
      clear hq hrow
      go_wp2
      clear hfc c0 c1 c2 c3 hX4r
      go_loopw [25] (fun i wr => ∃ (a : Nat) (P' : List (Nat → Bool)), i = .int .i64 a ∧ a ≤ n ∧ P'[k]? = some q ∧ SFnd wr w1.heap.size (w.heap.size + 1 + 1 + 1) (w.heap.size + 1) (w.heap.size + 1 + 1) n P' ∧ SInv n zs e P' k a ∧ Chg w1.heap.size (w.heap.size + 1 + 1) (w.heap.size + 1) w1 wr) (fun i _ => n - (intOf i).toNat)
      case atStart => exact ⟨0, P, rfl, Nat.zero_le _, HQ.out, hF, hI, hC⟩
      case round =>
        obtain ⟨a, P', rfl, ha, hq', hF', hI', hC'⟩ := hrel
        clear hF hI hC
        have hPl' := hI'.len hn24
        have hkl := (List.getElem?_eq_some_iff.1 hq').1
        by_cases hal : a < n
        · have hai : (a : Int) < (n : Int) := by omega
          obtain ⟨p, hp⟩ := mkd_test n zs e (fun y => q y || decide (y = a))
          have hBw : Below w.heap.size w wr := hB1.trans (hC'.below (g := w.heap.size) (by omega) (by omega) (by have := HZ.out; omega))
          have hX4r : Box4 wr w.heap.size n e v u := ⟨(hX4.blk).of_eq (hC'.block _ (by have := HZ.out; omega) (by omega) (by omega))⟩
          obtain ⟨c0, c1, c2, c3⟩ := hX4r.cells
          obtain ⟨fv, hfb, hrow⟩ := hF'.fnd
          obtain ⟨fa, fcap, rfl⟩ := own_val hrow
          have hfc := hfb.cell
          have hqb : (bits n P')[k]? = some (bs q n) := by unfold bits; rw [List.getElem?_map, hq']; rfl
          obtain ⟨fg, rfl, hfk⟩ : ∃ fg, fa = some ⟨fg, 0, none⟩ ∧ wr.cell? ⟨fg, k, none⟩ = some (.int .u64 (bs q n : Nat)) := by
            rcases hrow.2 with ⟨h1, h2⟩ | ⟨g, cap, cur, h1, _, _⟩
            · omega
            · injection h1 with h1
              subst h1
              have h3 := hrow.cells (g := g) rfl k (.int .u64 (bs q n : Nat)) (by simp [hqb])
              rw [show (⟨g, 0, none⟩ : Addr).add k = ⟨g, k, none⟩ by unfold Addr.add; split <;> simp_all] at h3
              exact ⟨g, rfl, h3⟩
          have hkF : (k : Int) < (P'.length : Int) := by omega
          have hor := or_bs q (fun y => decide (y = a)) hn
          have hbA : Below wr.heap.size wr (wr.drew.alloc (.cells #[.int .i64 a] 3)) := bAl (bdrew (Below.refl _ wr))
          have hfg1 : fg < wr.heap.size := World.block_lt_of_cell? wr ⟨fg, k, none⟩ hfk
          have hfg2 : ¬ fg = wr.heap.size := by omega
          have hwg0 : w.heap.size + 1 < wr.heap.size := hfb.lt
          have hwg3 : w.heap.size < wr.heap.size := by omega
          have hwg1 : ¬ w.heap.size = wr.heap.size := by omega
          have hwg2 : ¬ w.heap.size + 1 = wr.heap.size := by omega
          have c0A := below_cell hbA c0
          have c1A := below_cell hbA c1
          have c2A := below_cell hbA c2
          have c3A := below_cell hbA c3
          have hfcA := below_cell hbA hfc
          have hfkA := below_cell hbA hfk
          have HOF := hide (fun W b (h : W.cell? ⟨b, 0, none⟩ = some (.int .i64 a)) => of_one n b a W hn hal h)
          have HMK := hide (fun W (h : Below wr.heap.size wr W) => made_ok n v u zs e (fun y => q y || decide (y = a)) p W (hG.below (bcat2 hBw h)) (hT.below (bcat2 hBw h)) hp)
          have HTK := hide (fun W (h : Below wr.heap.size wr W) => stake w1.heap.size (w.heap.size + 1 + 1 + 1) (w.heap.size + 1) (w.heap.size + 1 + 1) n p P' W (hF'.below h) (Nat.le_trans hC'.size h.size) hn hPl')
          have HST := hide (SInv.step hgrp hI' hq' hp)
          have HGT := hide (put_get (n := n) p hq')
          have HC' := hide hC'
          clear hfb hrow hF' hI' hX4r hq' hBw hC' hqb hp
          generalize bs q n = X9 at *
          generalize bs (fun y => q y || decide (y = a)) n = Y9 at *
          generalize bs (fun y => decide (y = a)) n = Z9 at *
          generalize bs p n = T9 at *
          go_wp2_with fail
          go_region_with (first
            | (go_at_call 68; refine (HOF.out _ _ (by first | exact cell1 _ _ _ | exact cell1d _ _ _)).mono ?_; rintro e7 w7 ⟨rfl, rfl⟩)
            | (go_at_call 67; refine (HMK.out _ hbA).mono ?_; rintro e8 w8 ⟨rfl, hb8⟩; have hb9 := bcat2 hbA hb8)
            | (go_at_call 83; refine (HTK.out _ hb9).mono ?_; rintro e9 w9 ⟨rfl, hF9, hC9⟩))
          all_goals (
            have hC10 := (HC'.out.trans (Chg.of_below hb9 HC'.out.size)).trans hC9
            go_wp2
            go_roundw
            case rel => exact ⟨a + 1, _, by go_num, by omega, HGT.out, hF9, HST.out, hC10⟩
            case measure => simp [intOf]; omega)
        · have han : a = n := by omega
          rw [han] at hI'
          have HN := hide hI'.next
          have hai : ¬ (a : Int) < (n : Int) := by omega
          clear han
          go_wp2
          go_roundw
          case rel => exact ⟨k + 1, P', by go_num, hkl, hF', HN.out, hC'⟩
          case measure => simp [intOf]; omega
    · have hki : ¬ (k : Int) < (P.length : Int) := by omega
      have HB := hide (hB1.trans (hC.below (g := w.heap.size) (by omega) (by omega) (by have := HZ.out; omega)))
      have hrow9 := owns_mono hrow (show w.heap.size ≤ w1.heap.size by have := HZ.out; omega)
      go_wp2
      go_ret
      exact ⟨_, rfl, P, hrow9, ⟨k, by omega, hI⟩, HB.out⟩
end Go.Proofs.YtmgengplfebmjaaDoor
