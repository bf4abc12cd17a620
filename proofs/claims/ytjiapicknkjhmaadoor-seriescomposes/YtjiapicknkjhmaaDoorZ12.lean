/- What the document's Span, Stays, Commutator, Lists and SameGroup, and listsAs of the laws, answer. The law SeriesComposes. Condition: the library's table of places lies as its text lays it. The frame that all rows of this family share: how a table that came in reads. The frame that all rows of this family share: what the listed table gives a walk; how a list of ints that came in reads. -/
import Derived.Test.YtjiapicknkjhmaaDoorZ3
import Derived.Test.YtjiapicknkjhmaaDoorZ7
import Derived.Test.YtjiapicknkjhmaaDoorZ11
import Derived.Test.YtjiapicknkjhmaaDoorRows
import Derived.Test.YtjiapicknkjhmaaDoorZ1
import Derived.ProofKit
import Derived.OpenShut
import Derived.ChangeOld
import Derived.Below
import Derived.SizedLaws
import Derived.LaidMore
import Derived.Stop.Joined
import Derived.Stop.LaidErr
import Derived.Lib.LaidTab
namespace Go.Proofs.YtjiapicknkjhmaaDoor
open Go Go.RowKit

theorem under72b : Tryd.prog.underlying 101 = some (.slice 4) := by kernel_rfl
theorem callSp (a : Int) (x : Value) (W : World) : Sem.run Tryd.prog (callFunc 79 (#[.int .i64 a] ++ #[x])) W = .ok (.enter 79 (#[.int .i64 a] ++ #[x])) W := by kernel_rfl
set_option maxRecDepth 100000 in
theorem spn1_ok (n a xb ib : Nat) (p : Nat → Bool) (w : World) (ha : a < n) (hx : Boxed w xb 101 (.slice (some ⟨ib, 0, none⟩) n n)) (hb : Blk w ib 4 ((bm n p).map Value.bool)) :
    Calls Tryd.prog 79 (#[.int .i64 a] ++ #[.pointer (some ⟨xb, 0, none⟩)]) w fun y w' => y = .returned (.bool (p a)) ∧ Below w.heap.size w w' := by
  show Calls Tryd.prog 79 #[.int .i64 a, .pointer (some ⟨xb, 0, none⟩)] w _
  have c0 := hx.cell
  have c1 := hb.bool (y := a) (by rw [bm_len]; exact ha)
  rw [bm_get ha] at c1
  have hai : (a : Int) < (n : Int) := by omega
  go_enter Tryd.func79, Tryd.ntmps79
  go_wp2
  go_ret
  exact ⟨rfl, Below.refl _ _⟩
/-- How the search's memory stands. -/
structure SpS (w wr : World) (n : Nat) (v : Value) (xb : Nat) (p : Nat → Bool) : Prop where
  box : BoxG wr w.heap.size n v
  blk : Blk wr (w.heap.size + 1) 4 ((bm n p).map Value.bool)
  ind : Boxed wr xb 101 (.slice (some ⟨w.heap.size + 1, 0, none⟩) n n)
  bel : Below w.heap.size w wr
  xlt : w.heap.size + 1 < xb
theorem SpS.below {w wr W : World} {n xb : Nat} {v : Value} {p : Nat → Bool} (h : SpS w wr n v xb p) (hb : Below wr.heap.size wr W) : SpS w W n v xb p :=
  ⟨blk_below h.box hb, blk_below h.blk hb, Boxed.below h.ind hb, bcat h.bel hb h.bel.size, h.xlt⟩
theorem SpS.put {w wr : World} {n xb y : Nat} {v : Value} {p : Nat → Bool} (h : SpS w wr n v xb p) : SpS w (wr.setCell ⟨w.heap.size + 1, y, none⟩ (.bool true)) n v xb (fun a => p a || decide (a = y)) :=
  ⟨h.box.other (p := ⟨w.heap.size + 1, y, none⟩) (by simp) _, by rw [← bm_set]; exact h.blk.setBool y true, (Below.heap_setCell _ _ _ xb (by have := h.xlt; simp; omega)).trans h.ind, h.bel.setCell (p := ⟨w.heap.size + 1, y, none⟩) (by simp) _, h.xlt⟩
theorem SpS.drew {w wr : World} {n xb : Nat} {v : Value} {p : Nat → Bool} (h : SpS w wr n v xb p) : SpS w wr.drew n v xb p := ⟨h.box, h.blk, h.ind, bdrew h.bel, h.xlt⟩
theorem SpS.drewN {w wr : World} {n xb : Nat} {v : Value} {p : Nat → Bool} (h : SpS w wr n v xb p) (k : Nat) : SpS w (wr.drewN k) n v xb p := ⟨h.box, h.blk, h.ind, bdrewN h.bel k, h.xlt⟩
theorem SpS.cells {w wr : World} {n xb : Nat} {v : Value} {p : Nat → Bool} (h : SpS w wr n v xb p) : wr.cell? ⟨w.heap.size, 0, none⟩ = some (.int .i64 n) ∧ wr.cell? ⟨w.heap.size, 1, none⟩ = some v ∧ wr.cell? ⟨xb, 0, none⟩ = some (.slice (some ⟨w.heap.size + 1, 0, none⟩) n n) := ⟨h.box.two.1, h.box.two.2.1, h.ind.cell⟩
theorem SpS.bit {w wr : World} {n xb y : Nat} {v : Value} {p : Nat → Bool} (h : SpS w wr n v xb p) (hy : y < n) : wr.cell? ⟨w.heap.size + 1, y, none⟩ = some (.bool (p y)) ∧ wr.frozen? ⟨w.heap.size + 1, y, none⟩ = false := by
  refine ⟨?_, h.blk.frozen y⟩
  have := h.blk.bool (y := y) (by rw [bm_len]; exact hy)
  rwa [bm_get hy] at this
set_option maxRecDepth 100000 in
set_option maxHeartbeats 40000000 in
theorem span_ok (n e : Nat) (v u : Value) (zs : List Int) (xs : List Nat) (p : Nat → Bool) (w : World) (hv : Sl w v zs) (hg : IsGrp n zs e) (hu : Sl w u (li xs)) (hx : ∀ x, x ∈ xs → x < n) (hxl : xs.length ≤ 100000) (hp : ∀ a, a < n → (p a = true ↔ Mkd n zs e (fun a => decide (a ∈ xs)) a)) :
    Calls Tryd.prog 52 #[.agg #[.int .i64 n, v], u] w fun x w' => ∃ r, x = .returned r ∧ Row w' w.heap.size r (li (lst n p)) ∧ Below w.heap.size w w' := by
  obtain ⟨i0, hi, hz0, hz1, hz2⟩ := info_parts info4b
  have hn := hg.tab.le
  have hpos := hg.tab.pos
  have hB0 : Below w.heap.size w (w.alloc (.cells #[.int .i64 n, v] 24)) := balloc w _
  have hX0 : BoxG (w.alloc (.cells #[.int .i64 n, v] 24)) w.heap.size n v := blk0 _ _
  obtain ⟨c0, c1, _, _⟩ := hX0.two
  obtain ⟨ua, ucap, upb, upo, rfl, hur, hup, huq, hum⟩ := id hu
  rw [li_len] at huq ⊢
  have HUR := hide hur
  have HUL := hide (li_len xs)
  have HX := hide hx
  have HP := hide hp
  clear hur hx hp hum
  go_enter Tryd.func52, Tryd.ntmps52
  go_wp2_with (first
    | (at_make; refine wpList_make_full _ rfl _ _ 101 rfl (w.heap.size + 1) 4 i0 (.bool false) 1 under72b hi hz0 hz1 _ _ _ _ n rfl rfl rfl rfl (by rw [hz2]; omega) (by unfold maxLen; omega) (by simp) ?_))
  intro w2 hown hgr
  have hM2 : Blk w2 (w.heap.size + 1) 4 ((bm n fun _ => false).map Value.bool) := by
    have := Blk.of_owns hown
    rw [made_rep] at this
    rw [bm_none, List.map_replicate]; exact this
  have hB2 : Below w.heap.size w w2 := hB0.grown hgr hB0.size (by simp)
  have hX2 := hX0.grown hgr (by simp)
  clear hown hgr c0 c1 hX0 hB0
  have hB3 := hB2.alloc hB2.size (.cells #[.slice (some ⟨w.heap.size + 1, 0, none⟩) n n] 101)
  have hX3 := hX2.alloc (.cells #[.slice (some ⟨w.heap.size + 1, 0, none⟩) n n] 101)
  have hM3 := hM2.alloc (.cells #[.slice (some ⟨w.heap.size + 1, 0, none⟩) n n] 101)
  have hI3 := Boxed.new w2 101 (.slice (some ⟨w.heap.size + 1, 0, none⟩) n n)
  have hs2 := hM2.lt
  have hQ3 : SpS w (w2.alloc (.cells #[.slice (some ⟨w.heap.size + 1, 0, none⟩) n n] 101)) n v w2.heap.size (fun _ => false) := ⟨hX3, hM3, hI3, hB3, hs2⟩
  obtain ⟨c0, c1, c2⟩ := hQ3.cells
  have HE := hide (fun W (h : Below w.heap.size w W) => E_ok n v zs W hg.tab (hv.below h))
  rw [hg.one] at HE
  have HM := hide (fun W a b (h : Below w.heap.size w W) (ha : a < n) (hb : b < n) => M_ok n v zs a b W hg.tab (hv.below h) ha hb)
  have helt := hg.elt
  have hei : (e : Int) < (n : Int) := by omega
  go_wp2_with fail
  clear hB3 hX3 hM3 hI3 hM2 hX2 hB2 c0 c1 c2
  generalize w2.alloc (.cells #[.slice (some ⟨w.heap.size + 1, 0, none⟩) n n] 101) = w3 at *
  generalize w2.heap.size = xb at *
  have hS : ∀ U, Below w3.heap.size w3 U → (Below w.heap.size w U ∧ U.cell? ⟨w.heap.size, 0, none⟩ = some (.int .i64 n) ∧ U.cell? ⟨w.heap.size, 1, none⟩ = some v ∧ U.cell? ⟨xb, 0, none⟩ = some (.slice (some ⟨w.heap.size + 1, 0, none⟩) n n)) := fun U hU => ⟨(hQ3.below hU).bel, (hQ3.below hU).cells⟩
  have hS3 : ∀ U, Below w3.heap.size w3 U → (Below w.heap.size w (U.setCell ⟨w.heap.size + 1, e, none⟩ (.bool true)) ∧ (U.setCell ⟨w.heap.size + 1, e, none⟩ (.bool true)).cell? ⟨w.heap.size, 0, none⟩ = some (.int .i64 n) ∧ (U.setCell ⟨w.heap.size + 1, e, none⟩ (.bool true)).cell? ⟨w.heap.size, 1, none⟩ = some v ∧ (U.setCell ⟨w.heap.size + 1, e, none⟩ (.bool true)).cell? ⟨xb, 0, none⟩ = some (.slice (some ⟨w.heap.size + 1, 0, none⟩) n n)) := fun U hU => ⟨((hQ3.below hU).put (y := e)).bel, ((hQ3.below hU).put (y := e)).cells⟩
  have hS0 := hS _ (bdrew (Below.refl _ w3))
  go_region_held3 (fun U => Below w.heap.size w U ∧ U.cell? ⟨w.heap.size, 0, none⟩ = some (.int .i64 n) ∧ U.cell? ⟨w.heap.size, 1, none⟩ = some v ∧ U.cell? ⟨xb, 0, none⟩ = some (.slice (some ⟨w.heap.size + 1, 0, none⟩) n n))
    (first | exact hS0 | assumption | exact hS _ hl2 | exact hS3 _ hl2)
    (first | (go_at_call 43; refine (HE.out _ (And.left ‹_›)).mono ?_; rintro e9 V1 ⟨rfl, hl1⟩; have hl2 := undrew' hl1; have hc1 := ((hQ3.below hl2).bit (y := e) helt).1; have hf1 := ((hQ3.below hl2).bit (y := e) helt).2))
  have hP9 := ((hQ3.below hl2).put (y := e))
  clear hS hS3 hS0 hc1 hf1
  generalize V1.setCell ⟨w.heap.size + 1, e, none⟩ (.bool true) = w4 at *
  go_wp2
  go_loopw [6] (fun i wr => ∃ k : Nat, k ≤ xs.length ∧ i = .int .i64 k ∧ SpS w wr n v xb (fun a => decide (a = e) || decide (a ∈ xs.take k))) (fun i _ => xs.length - (intOf i).toNat)
  case atStart => exact ⟨0, Nat.zero_le _, rfl, by simpa using hP9⟩
  case round =>
    obtain ⟨k, hk, rfl, hSk⟩ := hrel
    clear hP9 hl1 hl2
    obtain ⟨c0, c1, c2⟩ := hSk.cells
    by_cases hlt : k < xs.length
    · have hck := (HUR.out.below hSk.bel hup).cell k (by rw [HUL.out]; exact hlt)
      rw [li_get hlt] at hck
      obtain rfl := HUR.out.at_ (by rw [HUL.out]; omega)
      obtain ⟨x, hxe⟩ : ∃ x, xs[k] = x := ⟨_, rfl⟩
      have hxn : x < n := by rw [← hxe]; exact HX.out _ (List.getElem_mem hlt)
      have HSN := hide (show (fun a => (decide (a = e) || decide (a ∈ xs.take k)) || decide (a = x)) = fun a => decide (a = e) || decide (a ∈ xs.take (k + 1)) by
        funext a
        rw [← hxe]
        simp only [List.take_succ_eq_append_getElem hlt, List.mem_append, List.mem_singleton, Bool.decide_or, Bool.or_assoc])
      rw [hxe] at hck
      clear hxe
      have hxi : (x : Int) < (n : Int) := by omega
      obtain ⟨b0, b1⟩ := hSk.bit hxn
      have hP := (hSk.put (y := x)).drew
      rw [HSN.out] at hP
      go_wp2_with fail
      go_region
      all_goals (
        clear c0 c1 c2 hck b0 b1
        go_wp2
        go_roundw
        case rel => exact ⟨k + 1, by omega, by go_num, hP⟩
        case measure => simp [intOf]; omega)
    · have hkn : k = xs.length := by omega
      subst hkn
      rw [List.take_length] at hSk
      have hst : ∀ q' : Nat → Bool, (∀ a, q' a = (decide (a = e) || decide (a ∈ xs))) → Spn n zs e (fun a => decide (a ∈ xs)) q' q' false 0 0 := fun q' hq => Spn.start (by rw [hq]; simp) (fun a _ h => by rw [hq]; simp at h; simp [h]) (fun a ha h => by
        rw [hq] at h
        simp only [Bool.or_eq_true, decide_eq_true_eq] at h
        rcases h with rfl | h
        · exact (Fin.Gen.sg _).one
        · exact Fin.Gen.base (List.mem_range.2 ha) (by simpa using h))
      have hst0 := hst _ (fun a => rfl)
      clear hst
      generalize (fun a => decide (a = e) || decide (a ∈ xs)) = q0 at hSk hst0
      go_wp2
      go_loopw [7] (fun s7 wr => ∃ (ag : Bool) (q : Nat → Bool), s7 = .bool ag ∧ SpS w wr n v xb q ∧ Spn n zs e (fun a => decide (a ∈ xs)) q q false 0 0 ∧ (ag = false → ∀ a, a < n → (q a = true ↔ Mkd n zs e (fun a => decide (a ∈ xs)) a))) (fun s7 wr => if boolOf s7 then cntB (w.heap.size + 1) wr + 1 else 0)
      case atStart => exact ⟨true, q0, rfl, hSk, hst0, fun h => by cases h⟩
      case round =>
        obtain ⟨ag, q, rfl, hZ0, hN0, hfin⟩ := hrel
        have HCN := hide (cntB_blk hZ0.blk)
        clear c0 c1 c2
        cases ag with
        | false =>
          have HFI := hide (hfin rfl)
          have hlq : lst n q = lst n p := lst_congr fun a ha => by rw [Bool.eq_iff_iff, HFI.out a ha, HP.out a ha]
          obtain ⟨c0, c1, c2⟩ := hZ0.cells
          go_wp2_with fail
          have HTH := hide (rthose_ok n 79 v #[.pointer (some ⟨xb, 0, none⟩)] q wr hn (fun a W => callSp a _ W) (fun W a hW ha => spn1_ok n a xb (w.heap.size + 1) q W ha (hZ0.below hW).ind (hZ0.below hW).blk))
          rw [hlq] at HTH
          refine HTH.out.mono ?_
          rintro x w9 ⟨r, rfl, hr, hb9⟩
          go_wp2
          go_ret
          exact ⟨_, rfl, owns_mono hr hZ0.bel.size, bcat hZ0.bel hb9 hZ0.bel.size⟩
        | true =>
          clear hfin
          go_wp2
          go_loopw [7, 8] (fun s7 s8 wx => ∃ (ag' : Bool) (q' : Nat → Bool) (a : Nat), a ≤ n ∧ s7 = .bool ag' ∧ s8 = .int .i64 a ∧ SpS w wx n v xb q' ∧ Spn n zs e (fun a => decide (a ∈ xs)) q q' ag' a 0) (fun _ s8 _ => n - (intOf s8).toNat)
          case atStart => exact ⟨false, q, 0, by omega, rfl, rfl, hZ0, hN0⟩
          case round =>
            obtain ⟨ag', q', a, ha, rfl, rfl, hZ, hN⟩ := hrel
            obtain ⟨c0, c1, c2⟩ := hZ.cells
            by_cases hla : a < n
            · have hai : (a : Int) < (n : Int) := by omega
              go_wp2
              clear c0 c1 c2
              go_loopw [7, 9] (fun s7 s9 wx => ∃ (ag' : Bool) (q' : Nat → Bool) (b : Nat), b ≤ n ∧ s7 = .bool ag' ∧ s9 = .int .i64 b ∧ SpS w wx n v xb q' ∧ Spn n zs e (fun a => decide (a ∈ xs)) q q' ag' a b) (fun _ s9 _ => n - (intOf s9).toNat)
              case atStart => exact ⟨ag', q', 0, by omega, rfl, rfl, hZ, hN⟩
              case round =>
                clear hZ hN
                obtain ⟨ag', q', b, hb, rfl, rfl, hZ, hN⟩ := hrel
                obtain ⟨c0, c1, c2⟩ := hZ.cells
                by_cases hlb : b < n
                · have hbi : (b : Int) < (n : Int) := by omega
                  obtain ⟨ba, bf1⟩ := hZ.bit hla
                  obtain ⟨bb, bf2⟩ := hZ.bit hlb
                  cases hqa : q' a with
                  | false =>
                    rw [hqa] at ba
                    go_wp2_with fail
                    go_quiet (fail)
                    have hZq := hZ.drewN nq
                    have hNq := hN.skip (fun h1 h2 => by rw [hqa] at h1; cases h1)
                    clear c0 c1 c2 ba bb bf1 bf2
                    generalize wr.drewN nq = wq at *
                    go_wp2
                    go_roundw
                    case rel => exact ⟨ag', q', b + 1, by omega, rfl, by go_num, hZq, hNq⟩
                    case measure => simp [intOf]; omega
                  | true =>
                    rw [hqa] at ba
                    cases hqb : q' b with
                    | false =>
                      rw [hqb] at bb
                      go_wp2_with fail
                      go_quiet (fail)
                      have hZq := hZ.drewN nq
                      have hNq := hN.skip (fun h1 h2 => by rw [hqb] at h2; cases h2)
                      clear c0 c1 c2 ba bb bf1 bf2
                      generalize wr.drewN nq = wq at *
                      go_wp2
                      go_roundw
                      case rel => exact ⟨ag', q', b + 1, by omega, rfl, by go_num, hZq, hNq⟩
                      case measure => simp [intOf]; omega
                    | true =>
                      rw [hqb] at bb
                      have htn := tm_lt hg.tab hla hlb
                      have HMt := hide (fun W (h : Below w.heap.size w W) => HM.out W a b h hla hlb)
                      cases hqt : q' (tm n zs a b) with
                      | true =>
                        have hNs := hN.skip (fun _ _ => hqt)
                        generalize tm n zs a b = t at *
                        have hti : (t : Int) < (n : Int) := by omega
                        obtain ⟨t0, _⟩ := hZ.bit htn
                        rw [hqt] at t0
                        have hS : ∀ W, Below wr.heap.size wr W → (Below wr.heap.size wr W ∧ W.cell? ⟨w.heap.size, 0, none⟩ = some (.int .i64 n) ∧ W.cell? ⟨w.heap.size, 1, none⟩ = some v ∧ W.cell? ⟨xb, 0, none⟩ = some (.slice (some ⟨w.heap.size + 1, 0, none⟩) n n) ∧ W.cell? ⟨w.heap.size + 1, a, none⟩ = some (.bool true) ∧ W.cell? ⟨w.heap.size + 1, b, none⟩ = some (.bool true) ∧ W.cell? ⟨w.heap.size + 1, t, none⟩ = some (.bool true)) := fun W h => by
                          obtain ⟨x0, x1, x2⟩ := (hZ.below h).cells
                          exact ⟨h, x0, x1, x2, below_cell h ba, below_cell h bb, below_cell h t0⟩
                        have hS0 := hS _ (bdrew (Below.refl _ wr))
                        go_wp2_with fail
                        go_region_held3 (fun W => Below wr.heap.size wr W ∧ W.cell? ⟨w.heap.size, 0, none⟩ = some (.int .i64 n) ∧ W.cell? ⟨w.heap.size, 1, none⟩ = some v ∧ W.cell? ⟨xb, 0, none⟩ = some (.slice (some ⟨w.heap.size + 1, 0, none⟩) n n) ∧ W.cell? ⟨w.heap.size + 1, a, none⟩ = some (.bool true) ∧ W.cell? ⟨w.heap.size + 1, b, none⟩ = some (.bool true) ∧ W.cell? ⟨w.heap.size + 1, t, none⟩ = some (.bool true))
                          (first | exact hS0 | assumption | exact hS _ (bcat2 (And.left ‹_›) hl1))
                          (first | (go_at_call 44; refine (HMt.out _ (bcat hZ.bel (And.left ‹_›) hZ.bel.size)).mono ?_; rintro e1 U1 ⟨rfl, hl1⟩))
                        have hBU := And.left ‹Below wr.heap.size wr U1 ∧ _›
                        have hZU := hZ.below hBU
                        clear hS hS0 hl1 c0 c1 c2 ba bb bf1 bf2 t0
                        all_goals (
                          go_wp2
                          go_roundw
                          case rel => exact ⟨ag', q', b + 1, by omega, rfl, by go_num, hZU, hNs⟩
                          case measure => simp [intOf]; omega)
                      | false =>
                        have hNh := hN.hit hg hla hlb hqa hqb hqt
                        generalize tm n zs a b = t at *
                        have hti : (t : Int) < (n : Int) := by omega
                        obtain ⟨t0, _⟩ := hZ.bit htn
                        rw [hqt] at t0
                        have hS : ∀ W, Below wr.heap.size wr W → (Below wr.heap.size wr W ∧ W.cell? ⟨w.heap.size, 0, none⟩ = some (.int .i64 n) ∧ W.cell? ⟨w.heap.size, 1, none⟩ = some v ∧ W.cell? ⟨xb, 0, none⟩ = some (.slice (some ⟨w.heap.size + 1, 0, none⟩) n n) ∧ W.cell? ⟨w.heap.size + 1, a, none⟩ = some (.bool true) ∧ W.cell? ⟨w.heap.size + 1, b, none⟩ = some (.bool true) ∧ W.cell? ⟨w.heap.size + 1, t, none⟩ = some (.bool false)) := fun W h => by
                          obtain ⟨x0, x1, x2⟩ := (hZ.below h).cells
                          exact ⟨h, x0, x1, x2, below_cell h ba, below_cell h bb, below_cell h t0⟩
                        have hS0 := hS _ (bdrew (Below.refl _ wr))
                        go_wp2_with fail
                        go_region_held3 (fun W => Below wr.heap.size wr W ∧ W.cell? ⟨w.heap.size, 0, none⟩ = some (.int .i64 n) ∧ W.cell? ⟨w.heap.size, 1, none⟩ = some v ∧ W.cell? ⟨xb, 0, none⟩ = some (.slice (some ⟨w.heap.size + 1, 0, none⟩) n n) ∧ W.cell? ⟨w.heap.size + 1, a, none⟩ = some (.bool true) ∧ W.cell? ⟨w.heap.size + 1, b, none⟩ = some (.bool true) ∧ W.cell? ⟨w.heap.size + 1, t, none⟩ = some (.bool false))
                          (first | exact hS0 | assumption | exact hS _ (bcat2 (And.left ‹_›) hl1))
                          (first | (go_at_call 44; refine (HMt.out _ (bcat hZ.bel (And.left ‹_›) hZ.bel.size)).mono ?_; rintro e1 U1 ⟨rfl, hl1⟩))
                        have hBU := And.left ‹Below wr.heap.size wr U1 ∧ _›
                        have hZU := hZ.below hBU
                        clear hS hS0 hl1 c0 c1 c2 ba bb bf1 bf2 t0
                        obtain ⟨c0, c1, c2⟩ := hZU.cells
                        go_wp2_with fail
                        clear c0 c1 c2
                        have hS : ∀ U, Below U1.heap.size U1 U → (Below w.heap.size w U ∧ U.cell? ⟨w.heap.size, 0, none⟩ = some (.int .i64 n) ∧ U.cell? ⟨w.heap.size, 1, none⟩ = some v ∧ U.cell? ⟨xb, 0, none⟩ = some (.slice (some ⟨w.heap.size + 1, 0, none⟩) n n)) := fun U hU => ⟨(hZU.below hU).bel, (hZU.below hU).cells⟩
                        have hS3 : ∀ U, Below U1.heap.size U1 U → (Below w.heap.size w (U.setCell ⟨w.heap.size + 1, t, none⟩ (.bool true)) ∧ (U.setCell ⟨w.heap.size + 1, t, none⟩ (.bool true)).cell? ⟨w.heap.size, 0, none⟩ = some (.int .i64 n) ∧ (U.setCell ⟨w.heap.size + 1, t, none⟩ (.bool true)).cell? ⟨w.heap.size, 1, none⟩ = some v ∧ (U.setCell ⟨w.heap.size + 1, t, none⟩ (.bool true)).cell? ⟨xb, 0, none⟩ = some (.slice (some ⟨w.heap.size + 1, 0, none⟩) n n)) := fun U hU => ⟨((hZU.below hU).put (y := t)).bel, ((hZU.below hU).put (y := t)).cells⟩
                        have hS0 := hS _ (bdrew (Below.refl _ U1))
                        go_region_held3 (fun U => Below w.heap.size w U ∧ U.cell? ⟨w.heap.size, 0, none⟩ = some (.int .i64 n) ∧ U.cell? ⟨w.heap.size, 1, none⟩ = some v ∧ U.cell? ⟨xb, 0, none⟩ = some (.slice (some ⟨w.heap.size + 1, 0, none⟩) n n))
                          (first | exact hS0 | assumption | exact hS _ hl2 | exact hS3 _ hl2)
                          (first | (go_at_call 44; refine (HMt.out _ (And.left ‹_›)).mono ?_; rintro e9 V1 ⟨rfl, hl1⟩; have hl2 := undrew' hl1; have hc1 := ((hZU.below hl2).bit (y := t) htn).1; have hf1 := ((hZU.below hl2).bit (y := t) htn).2))
                        have hP9 := ((hZU.below hl2).put (y := t))
                        clear hS hS3 hS0 hc1 hf1
                        generalize V1.setCell ⟨w.heap.size + 1, t, none⟩ (.bool true) = wv at *
                        go_wp2
                        go_roundw
                        case rel => exact ⟨true, _, b + 1, by omega, rfl, by go_num, hP9, hNh⟩
                        case measure => simp [intOf]; omega
                · have hNr := hN.row (by omega)
                  have hbn : b = n := by omega
                  subst hbn
                  clear hN
                  go_wp2
                  go_roundw
                  case rel => exact ⟨ag', q', a + 1, by omega, rfl, by go_num, hZ, hNr⟩
                  case measure => simp [intOf]; omega
            · have hst9 := Spn.start hN.one hN.base hN.made
              have HMO := hide hN.more
              have HFN : Hid (ag' = false → ∀ x, x < n → (q' x = true ↔ Mkd n zs e (fun a => decide (a ∈ xs)) x)) := fun hag => by subst hag; exact hN.fin (by omega)
              have HC9 := hide (cntB_blk hZ.blk)
              go_wp2
              go_roundw
              case rel => exact ⟨ag', q', rfl, hZ, hst9, HFN.out⟩
              case measure =>
                simp only [boolOf, HC9.out, HCN.out]
                cases hag : ag' with
                | false => simp
                | true => have := HMO.out hag; simp; omega
end Go.Proofs.YtjiapicknkjhmaaDoor

namespace Go.Proofs.YtjiapicknkjhmaaDoor
open Go Go.RowKit

theorem fo_good (n e : Nat) (v1 : Option Addr) (v2 v3 : Nat) (zs : List Int) (ls : List (List Int)) (lv : Value) (w : World) (hv : Sl w (.slice v1 v2 v3) zs) (hg : IsGrp n zs e) (hT : Tab w) (hF : FOK n zs e ls) (hL : SlL w lv ls) (QS : Nat → Int) (hQS : QS = fun t => (((lst n (pset (ls[t]?.getD []))).length / (lst n (pset (ls[t + 1]?.getD []))).length : Nat) : Int)) :
    Calls Tryd.prog 20 #[.agg #[.int .i64 n, .slice v1 v2 v3], lv] w fun x w' => ∃ y, x = .returned (.tuple #[y, .agg #[.int .i64 0, .int .i64 0]]) ∧ Row w' w.heap.size y (insF QS (ls.length - 1)) ∧ Below w.heap.size w w' := by
  have hn := hg.tab.le
  have l1 := hF.l1
  have l2 := hF.l2
  have hU : ∀ t, t < ls.length → ls[t]?.getD [] = li (lst n (pset (ls[t]?.getD []))) := fun t ht => (gd_lst (hF.gd t ht)).1
  have hlen : ∀ t, t < ls.length → (ls[t]?.getD []).length = (lst n (pset (ls[t]?.getD []))).length := fun t ht => gd_len (hF.gd t ht)
  have hS : ∀ t, t < ls.length → subT n zs e (pset (ls[t]?.getD [])) = true := fun t ht => (gd_lst (hF.gd t ht)).2
  refine fo_go n v1 v2 v3 ls (fun t => lst n (pset (ls[t]?.getD []))) (fun t a => li (lst n (cjl n zs e (lst n (pset (ls[t]?.getD []))) a))) (fun a x => Fin.cj (tm n zs) (iv n zs e) a x) (fun xs => lst n (spq n zs e xs)) lv w hL l1 l2 hU ⟨fun t ht => ?_, fun t ht => ?_, fun t ht x hx => (mem_lst.1 hx).1⟩ ?_ ?_ (hide fun W h => ?_) (hide fun W u t h ht hu => ?_) (hide fun W u t h ht hu => ?_) (hide fun t h1 ht => ?_) (hide fun W u t a h ht ha hu => ?_) (hide fun t a h1 ht ha => ?_) (hide fun t h1 ht => ?_) (hide fun W x y h hx hy => ?_) (hide fun x y hx hy => rcj_lt hg hx hy) (hide fun W u xs h hx hxl hu => ?_) (hide fun t a h1 ht ha hb => ?_) QS hQS
  · exact Fin.sz_pos (grp_fg hg) (subT_iff.1 (hS t ht))
  · have := lst_len n (pset (ls[t]?.getD []))
    show (lst n (pset (ls[t]?.getD []))).length ≤ 60
    omega
  · show (lst n (pset (ls[0]?.getD []))).length = n
    rw [← hlen 0 l1]; exact hF.s0
  · show (lst n (pset (ls[ls.length - 1]?.getD []))).length = 1
    rw [← hlen _ (by omega)]; exact hF.s1
  · have := groupFault_any n (.slice v1 v2 v3) zs W (hv.below h)
    rw [gfault_of_grp hg] at this
    exact this
  · have := rlist_any n (.slice v1 v2 v3) u _ W hn hu
    rw [lst_fault] at this
    exact this
  · have := closed_ok n e (.slice v1 v2 v3) u zs _ W (hv.below h) hg hu (fun x hx => (mem_lst.1 hx).1) (by have := lst_len n (pset (ls[t]?.getD [])); omega)
    rw [subT_congr hg (lst_dec (pset (ls[t]?.getD []))), hS t ht] at this
    exact this
  · refine List.all_eq_true.2 fun x hx => decide_eq_true ?_
    obtain ⟨a, ha, rfl⟩ := List.mem_map.1 hx
    obtain ⟨ha, h2⟩ := mem_lst.1 ha
    exact mem_li.2 (mem_lst.2 ⟨ha, (hF.mx t h1 ht).sub a (List.mem_range.2 ha) h2⟩)
  · refine (shf_ok n e a (.slice v1 v2 v3) u zs _ W hg (hv.below h) ha hu (fun x hx => (mem_lst.1 hx).1)).mono ?_
    rintro x W' ⟨r, rfl, hr, hb⟩
    obtain ⟨r1, r3, rfl, hs⟩ := row_slice hr (Nat.lt_of_lt_of_le (hT.below h).lt hb.size)
    exact ⟨_, _, _, rfl, hs, hb⟩
  · show li _ = li _
    rw [mxg_stay hg (hF.mx t h1 ht) (hS (t - 1) (by omega)) ha]
  · have h2 := hF.mx t h1 ht
    exact Nat.ne_of_lt (Fin.sz_lt h2.sub h2.less)
  · exact rcj_ok n e x y (.slice v1 v2 v3) zs W hg (hv.below h) hx hy
  · refine (span_ok n e (.slice v1 v2 v3) u zs xs (spq n zs e xs) W (hv.below h) hg hu hx (by omega) (spq_iff n zs e xs)).mono ?_
    rintro x W' ⟨r, rfl, hr, hb⟩
    obtain ⟨r1, r3, rfl, hs⟩ := row_slice hr (Nat.lt_of_lt_of_le (hT.below h).lt hb.size)
    rw [li_len]
    exact ⟨_, _, rfl, hb⟩
  · exact mxg_fill hg (hS (t - 1) (by omega)) (hF.mx t h1 ht) ha hb
theorem scom_law (N : Int) (v : Value) (zs : List Int) (w : World) (hv : Sl w v zs) (hT : Tab w) (hb : zs.length * 8 ≤ 140737488355328) :
    Calls Tryd.prog 4 #[.agg #[.int .i64 N, v]] w fun e w' => e = .returned (.bool true) ∧ Below w.heap.size w w' := by
  by_cases hc : (gfault N zs).1 = 0
  · obtain ⟨n, e, rfl, hg, _⟩ := gfault_grp hc
    obtain ⟨v1, v2, v3, rfl⟩ := hv.isSlice
    refine scom_good n e v1 v2 v3 zs w hv hT hb hg (hide fun W y ls h hF hL => ?_)
    refine (fo_good n e v1 v2 v3 zs ls y W (hv.below h) hg (hT.below h) hF hL _ rfl).mono ?_
    rintro x W' ⟨y', rfl, _, hb⟩
    exact ⟨y', rfl, hb⟩
  · exact scom_bad N v zs w hv hT hb hc
end Go.Proofs.YtjiapicknkjhmaaDoor

namespace Go.Proofs.YtjiapicknkjhmaaDoor
open Go.ChangeShapes Go.WideShapes Go.ChangeAt Go.RowKit

theorem own : ownKnob Tryd.prog.godebug = none := by kernel_rfl
theorem laidOut : laidOutB Tryd.prog = true := by kernel_rfl

/-- A slice of ints that reads as zs; where nothing is in it, nothing is told of the memory. -/
def SlA (w : World) (v : Value) (zs : List Int) : Prop := ∃ a cap pb po, v = .slice a zs.length cap ∧ Reads w a pb po zs ∧ (0 < zs.length → pb < w.heap.size) ∧ zs.length ≤ cap ∧ cap ≤ maxLen
theorem SlA.up {w w' : World} {v : Value} {zs : List Int} (h : SlA w v zs) (hb : Below w.heap.size w w') (h0 : 0 < w'.heap.size) : Sl w' v zs := by
  obtain ⟨a, cap, pb, po, hv, hr, hp, h1, h2⟩ := h
  rcases Nat.eq_zero_or_pos zs.length with hz | hz
  · exact ⟨a, cap, 0, 0, hv, ⟨fun h => by omega, fun j hj => by omega⟩, h0, h1, h2⟩
  · exact ⟨a, cap, pb, po, hv, hr.below hb (hp hz), Nat.lt_of_lt_of_le (hp hz) hb.size, h1, h2⟩
theorem SlA.of {w : World} {v : Value} {zs : List Int} (h : Sl w v zs) : SlA w v zs := by
  obtain ⟨a, cap, pb, po, hv, hr, hp, h1, h2⟩ := h
  exact ⟨a, cap, pb, po, hv, hr, fun _ => hp, h1, h2⟩

theorem und24 : ∃ f0 f1 : Field, Tryd.prog.underlying 24 = some (.struct #[f0, f1]) ∧ f0.type = 3 ∧ f1.type = 22 ∧ f0.offset = 0 ∧ f1.offset = 1 := ⟨_, _, Tryd.underlying24, rfl, rfl, rfl, rfl⟩
theorem und3 : Tryd.prog.underlying 3 = some (.int .i64) := by kernel_rfl
theorem und22 : Tryd.prog.underlying 22 = some (.slice 3) := by kernel_rfl
theorem und4 : Tryd.prog.underlying 4 = some .bool := by kernel_rfl

set_option maxRecDepth 100000 in
/-- What is told of a table that came in. -/
theorem open_group {H : Type} {enc : TypeId × Value → H} {W : World} {b0 : Nat} {v : Value} {d : DataW H} {ps : List MemPlace} (hval : Value.okWide Tryd.prog W .any b0 24 v)
    (hd : DataW.Trod enc Tryd.prog W 0 (fun _ => true) true 24 v d ps) :
    ∃ N u zs, v = .agg #[.int .i64 N, u] ∧ SlA W u zs ∧ (Lit.int .i64 N).wf = true ∧ ((d.weights Tryd.prog 24).all (· ≤ reachBytes) = true → zs.length * 8 ≤ 140737488355328) := by
  obtain ⟨f0, f1, hu, ht0, ht1, ho0, ho1⟩ := und24
  obtain ⟨cs, rfl, hsz⟩ := okWide_struct hu hval
  rw [show Tryd.prog.cellsOf 24 = 2 by kernel_rfl] at hsz
  obtain ⟨l⟩ := cs
  match l, hsz with
  | [c0, c1], _ =>
  obtain ⟨fuel, hf⟩ := hd
  obtain ⟨y0, y1, m, hx, _, hy0, hy1⟩ := trod_struct2 hu hf
  rw [ht0, ho0, show Tryd.prog.cellsOf 3 = 1 by kernel_rfl] at hy0
  rw [ht1, ho1, show Tryd.prog.cellsOf 22 = 1 by kernel_rfl] at hy1
  obtain ⟨N, e0, rfl, wN⟩ := DataW.trod_int und3 hy0
  simp [Value.cells] at e0
  subst e0
  simp [Value.cells] at hy1
  rcases open_ints und22 und3 (by kernel_rfl) hy1 with ⟨hcs, _⟩ | ⟨x, l, c, zs, hcs, _, hl, hm, hz, heq, hcell, hwz⟩
  · simp at hcs
    subst hcs
    exact ⟨N, _, [], rfl, ⟨none, 0, 0, 0, rfl, ⟨by simp, by simp⟩, by simp, by simp, by unfold maxLen; omega⟩, wN, fun _ => by simp⟩
  · simp at hcs
    subst hcs
    have hzc : zs.length = c := by simpa using hz
    have hlen : (zs.take l).length = l := by rw [List.length_take]; omega
    refine ⟨N, _, zs.take l, rfl, ?_, wN, fun hw => ?_⟩
    · by_cases hpos : 0 < c
      · obtain ⟨b, o, rfl, hc'⟩ := ints_at hcell (by omega)
        refine ⟨some ⟨b, o, none⟩, c, b, o, by rw [hlen], ⟨fun _ => rfl, fun j hj => ?_⟩, fun _ => World.block_lt_of_cell? W _ (hc' 0 (by omega)), by omega, hm⟩
        rw [hlen] at hj
        rw [hc' j (by omega), List.getElem?_take, if_pos hj, List.getD_eq_getElem?_getD]
      · have : l = 0 := by omega
        subst this
        exact ⟨some x, c, 0, 0, by simp, ⟨by simp, by simp⟩, by simp, by simp, hm⟩
    · have hd : d = .agg [.lit (.int .i64 N), .slice (lits .i64 (zs.take l)) (lits .i64 (zs.drop l))] := by
        have h1 := congrArg Prod.fst hx
        simp only [heq] at h1
        exact h1
      have hw2 := List.all_eq_true.1 hw (((lits (H := H) .i64 (zs.take l)).length + (lits (H := H) .i64 (zs.drop l)).length) * Tryd.prog.bytesOf 3) (by
        rw [hd]; simp [DataW.weights, DataW.weightsEach, hu, ht0, ht1])
      rw [show Tryd.prog.bytesOf 3 = 8 by kernel_rfl] at hw2
      simp only [lits, List.length_map, decide_eq_true_eq] at hw2
      unfold reachBytes at hw2
      omega
end Go.Proofs.YtjiapicknkjhmaaDoor

namespace Go.Proofs.YtjiapicknkjhmaaDoor
open Go.ChangeShapes Go.WideShapes Go.ChangeAt Go.RowKit

/-- What the rows list. -/
def laid1 : List (String × DataW Unit) := Rows.sylowFrattiniRow.laid
def tabZ : List Int := Lib.deBruijn64tab.map fun (x : Nat) => (x : Int)
theorem tab_data : (Rows.laid_math_bits_deBruijn64tab : DataW Unit) = Lib.tabData .u8 tabZ := by kernel_rfl
/-- The door's own heap meets the condition. -/
theorem door_met (os : Os) (args : Array Value) : laidMetH Tryd.prog laid1 ((World.doorLaid Tryd.prog 400 os).forCall (fun _ _ => 0) ⟨#[], args, []⟩).memory :=
  laidMetH_of_parts3 (fuel := 8) (laidMet_of_run' 8 (by kernel_rfl) (by kernel_rfl)) (by kernel_rfl) (by kernel_rfl)
theorem tab_of_laid {W : World} (h : laidMetH Tryd.prog laid1 W) : Tab W := by
  rw [MakeChecks.laidMetH_plain _ _ _ (by kernel_rfl)] at h
  have h2 : laidMet Tryd.prog [("math/bits.deBruijn64tab", (Rows.laid_math_bits_deBruijn64tab : DataW Unit))] W := h
  rw [tab_data] at h2
  have hg : Tryd.prog.globalNamed "math/bits.deBruijn64tab" = some 0 := by kernel_rfl
  have hT := Lib.tabIs_of_head hg (t := 112) (e := 5) (n := 64) (by kernel_rfl) (by kernel_rfl) (by kernel_rfl) (by kernel_rfl) (by kernel_rfl) h2
  intro j hj
  have hj' : j < tabZ.length := by simpa [tabZ] using hj
  have hc := hT.cell hg j hj'
  rw [hc]
  simp [tabZ, hj]
set_option maxRecDepth 100000 in
/-- A list of ints that came in: its value, what it reads as, and its size. -/
theorem open_list {H : Type} {enc : TypeId × Value → H} {W : World} {b0 : Nat} {v : Value} {d : DataW H} {ps : List MemPlace} (hval : Value.okWide Tryd.prog W .any b0 22 v)
    (hd : DataW.Trod enc Tryd.prog W 0 (fun _ => true) true 22 v d ps) (h0 : 0 < W.heap.size) :
    ∃ zs, Sl W v zs ∧ ((d.weights Tryd.prog 22).all (· ≤ reachBytes) = true → zs.length * 8 ≤ 140737488355328) := by
  obtain ⟨a, len, cap, rfl⟩ := okWide_slice und22 hval
  obtain ⟨fuel, hf⟩ := hd
  rcases open_ints und22 und3 (by kernel_rfl) hf with ⟨hcs, _⟩ | ⟨x, l, c, zs, hcs, _, hl, hm, hz, heq, hcell, hwz⟩
  · simp [Value.cells] at hcs
    obtain ⟨rfl, rfl, rfl⟩ := hcs
    exact ⟨[], Sl.nil h0, fun _ => by simp⟩
  · simp [Value.cells] at hcs
    obtain ⟨rfl, rfl, rfl⟩ := hcs
    have hzc : zs.length = cap := by simpa using hz
    have hlen : (zs.take len).length = len := by rw [List.length_take]; omega
    refine ⟨zs.take len, ?_, fun hw => ?_⟩
    · by_cases hpos : 0 < cap
      · obtain ⟨b, o, rfl, hc'⟩ := ints_at hcell (by omega)
        refine ⟨some ⟨b, o, none⟩, cap, b, o, by rw [hlen], ⟨fun _ => rfl, fun j hj => ?_⟩, World.block_lt_of_cell? W _ (hc' 0 (by omega)), by omega, hm⟩
        rw [hlen] at hj
        rw [hc' j (by omega), List.getElem?_take, if_pos hj, List.getD_eq_getElem?_getD]
      · have : len = 0 := by omega
        subst this
        exact ⟨some x, cap, 0, 0, by simp, ⟨by simp, by simp⟩, h0, by simp, hm⟩
    · simp only [Prod.mk.injEq] at heq
      have hw2 := List.all_eq_true.1 hw (((lits (H := H) .i64 (zs.take len)).length + (lits (H := H) .i64 (zs.drop len)).length) * Tryd.prog.bytesOf 3) (by
        rw [heq.1]; simp [DataW.weights])
      rw [show Tryd.prog.bytesOf 3 = 8 by kernel_rfl] at hw2
      simp only [lits, List.length_map, decide_eq_true_eq] at hw2
      unfold reachBytes at hw2
      omega
end Go.Proofs.YtjiapicknkjhmaaDoor
