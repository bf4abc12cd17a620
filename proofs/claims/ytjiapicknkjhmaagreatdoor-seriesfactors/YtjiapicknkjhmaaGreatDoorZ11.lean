/- What the document's Span, Stays, Commutator, Lists and SameGroup, and listsAs of the laws, answer. The law's factorsOf of a composition series. Condition: the library's table of places lies as its text lays it. The law's factorsOf where it is no group, where there are too many sets or none, and where the first is not all or the last more than one thing. The law's factorsOf where the first set is not all or the last more than one thing. What the document's factorsOf says of a step of a series: it stands, or what is wrong. Definitions alone. The law's factorsOf: the factors of a series, by the document's way; its walk, whatever is wrong with a step; what it calls as premises. The law's factorsOf where a set of a series is none: which is told. -/
import Derived.Test.YtjiapicknkjhmaaGreatDoorZ3
import Derived.Test.YtjiapicknkjhmaaGreatDoorZ6
import Derived.Test.YtjiapicknkjhmaaGreatDoorZ10
import Derived.Deep.AppendLies
import Derived.BigQuiet
import Derived.Deep.RegionHeld3
namespace Go.Proofs.YtjiapicknkjhmaaGreatDoor
open Go Go.RowKit

theorem under72b : Tryz.prog.underlying 87 = some (.slice 4) := by kernel_rfl
theorem callSp (a : Int) (x : Value) (W : World) : Sem.run Tryz.prog (callFunc 66 (#[.int .i64 a] ++ #[x])) W = .ok (.enter 66 (#[.int .i64 a] ++ #[x])) W := by kernel_rfl
set_option maxRecDepth 100000 in
theorem spn1_ok (n a xb ib : Nat) (p : Nat → Bool) (w : World) (ha : a < n) (hx : Boxed w xb 87 (.slice (some ⟨ib, 0, none⟩) n n)) (hb : Blk w ib 4 ((bm n p).map Value.bool)) :
    Calls Tryz.prog 66 (#[.int .i64 a] ++ #[.pointer (some ⟨xb, 0, none⟩)]) w fun y w' => y = .returned (.bool (p a)) ∧ Below w.heap.size w w' := by
  show Calls Tryz.prog 66 #[.int .i64 a, .pointer (some ⟨xb, 0, none⟩)] w _
  have c0 := hx.cell
  have c1 := hb.bool (y := a) (by rw [bm_len]; exact ha)
  rw [bm_get ha] at c1
  have hai : (a : Int) < (n : Int) := by omega
  go_enter Tryz.func66, Tryz.ntmps66
  go_wp2
  go_ret
  exact ⟨rfl, Below.refl _ _⟩
/-- How the search's memory stands. -/
structure SpS (w wr : World) (n : Nat) (v : Value) (xb : Nat) (p : Nat → Bool) : Prop where
  box : BoxG wr w.heap.size n v
  blk : Blk wr (w.heap.size + 1) 4 ((bm n p).map Value.bool)
  ind : Boxed wr xb 87 (.slice (some ⟨w.heap.size + 1, 0, none⟩) n n)
  bel : Below w.heap.size w wr
  xlt : w.heap.size + 1 < xb
theorem SpS.below {w wr W : World} {n xb : Nat} {v : Value} {p : Nat → Bool} (h : SpS w wr n v xb p) (hb : Below wr.heap.size wr W) : SpS w W n v xb p :=
  ⟨blk_below h.box hb, blk_below h.blk hb, Boxed.below h.ind hb, bcat h.bel hb h.bel.size, h.xlt⟩
theorem SpS.put {w wr : World} {n xb y : Nat} {v : Value} {p : Nat → Bool} (h : SpS w wr n v xb p) : SpS w (wr.setCell ⟨w.heap.size + 1, y, none⟩ (.bool true)) n v xb (fun a => p a || decide (a = y)) :=
  ⟨h.box.other (p := ⟨w.heap.size + 1, y, none⟩) (by simp) _, by rw [← bm_set]; exact h.blk.setBool y true, (Below.heap_setCell _ _ _ xb (by have := h.xlt; simp; omega)).trans h.ind, h.bel.setCell (p := ⟨w.heap.size + 1, y, none⟩) (by simp) _, h.xlt⟩
theorem SpS.drew {w wr : World} {n xb : Nat} {v : Value} {p : Nat → Bool} (h : SpS w wr n v xb p) : SpS w wr.drew n v xb p := ⟨h.box, h.blk, h.ind, bdrew h.bel, h.xlt⟩
theorem SpS.drewN {w wr : World} {n xb : Nat} {v : Value} {p : Nat → Bool} (h : SpS w wr n v xb p) (k : Nat) : SpS w (wr.drewN k) n v xb p := ⟨h.box, h.blk, h.ind, bdrewN h.bel k, h.xlt⟩
theorem SpS.cells {w wr : World} {n xb : Nat} {v : Value} {p : Nat → Bool} (h : SpS w wr n v xb p) : wr.cell? ⟨w.heap.size, 0, none⟩ = some (.int .i64 n) ∧ wr.cell? ⟨w.heap.size, 1, none⟩ = some v ∧ wr.cell? ⟨xb, 0, none⟩ = some (.slice (some ⟨w.heap.size + 1, 0, none⟩) n n) := ⟨h.box.two.1, h.box.two.2.1, h.ind.cell⟩
theorem SpS.bit {w wr : World} {n xb y : Nat} {v : Value} {p : Nat → Bool} (h : SpS w wr n v xb p) (hy : y < n) : wr.cell? ⟨w.heap.size + 1, y, none⟩ = some (.bool (p y)) ∧ wr.frozen? ⟨w.heap.size + 1, y, none⟩ = false := by
  refine ⟨?_, h.blk.frozen y⟩
  have := h.blk.bool (y := y) (by rw [bm_len]; exact hy)
  rwa [bm_get hy] at this
set_option maxRecDepth 100000 in
set_option maxHeartbeats 40000000 in
theorem span_ok (n e : Nat) (v u : Value) (zs : List Int) (xs : List Nat) (p : Nat → Bool) (w : World) (hv : Sl w v zs) (hg : IsGrp n zs e) (hu : Sl w u (li xs)) (hx : ∀ x, x ∈ xs → x < n) (hxl : xs.length ≤ 100000) (hp : ∀ a, a < n → (p a = true ↔ Mkd n zs e (fun a => decide (a ∈ xs)) a)) :
    Calls Tryz.prog 34 #[.agg #[.int .i64 n, v], u] w fun x w' => ∃ r, x = .returned r ∧ Row w' w.heap.size r (li (lst n p)) ∧ Below w.heap.size w w' := by
  obtain ⟨i0, hi, hz0, hz1, hz2⟩ := info_parts info4b
  have hn := hg.tab.le
  have hpos := hg.tab.pos
  have hB0 : Below w.heap.size w (w.alloc (.cells #[.int .i64 n, v] 24)) := balloc w _
  have hX0 : BoxG (w.alloc (.cells #[.int .i64 n, v] 24)) w.heap.size n v := blk0 _ _
  obtain ⟨c0, c1, _, _⟩ := hX0.two
  obtain ⟨ua, ucap, upb, upo, rfl, hur, hup, huq, hum⟩ := id hu
  rw [li_len] at huq ⊢
  have HUR := hide hur
  have HUL := hide (li_len xs)
  have HX := hide hx
  have HP := hide hp
  clear hur hx hp hum
  go_enter Tryz.func34, Tryz.ntmps34
  go_wp2_with (first
    | (at_make; refine wpList_make_full _ rfl _ _ 87 rfl (w.heap.size + 1) 4 i0 (.bool false) 1 under72b hi hz0 hz1 _ _ _ _ n rfl rfl rfl rfl (by rw [hz2]; omega) (by unfold maxLen; omega) (by simp) ?_))
  intro w2 hown hgr
  have hM2 : Blk w2 (w.heap.size + 1) 4 ((bm n fun _ => false).map Value.bool) := by
    have := Blk.of_owns hown
    rw [made_rep] at this
    rw [bm_none, List.map_replicate]; exact this
  have hB2 : Below w.heap.size w w2 := hB0.grown hgr hB0.size (by simp)
  have hX2 := hX0.grown hgr (by simp)
  clear hown hgr c0 c1 hX0 hB0
  have hB3 := hB2.alloc hB2.size (.cells #[.slice (some ⟨w.heap.size + 1, 0, none⟩) n n] 87)
  have hX3 := hX2.alloc (.cells #[.slice (some ⟨w.heap.size + 1, 0, none⟩) n n] 87)
  have hM3 := hM2.alloc (.cells #[.slice (some ⟨w.heap.size + 1, 0, none⟩) n n] 87)
  have hI3 := Boxed.new w2 87 (.slice (some ⟨w.heap.size + 1, 0, none⟩) n n)
  have hs2 := hM2.lt
  have hQ3 : SpS w (w2.alloc (.cells #[.slice (some ⟨w.heap.size + 1, 0, none⟩) n n] 87)) n v w2.heap.size (fun _ => false) := ⟨hX3, hM3, hI3, hB3, hs2⟩
  obtain ⟨c0, c1, c2⟩ := hQ3.cells
  have HE := hide (fun W (h : Below w.heap.size w W) => E_ok n v zs W hg.tab (hv.below h))
  rw [hg.one] at HE
  have HM := hide (fun W a b (h : Below w.heap.size w W) (ha : a < n) (hb : b < n) => M_ok n v zs a b W hg.tab (hv.below h) ha hb)
  have helt := hg.elt
  have hei : (e : Int) < (n : Int) := by omega
  go_wp2_with fail
  clear hB3 hX3 hM3 hI3 hM2 hX2 hB2 c0 c1 c2
  generalize w2.alloc (.cells #[.slice (some ⟨w.heap.size + 1, 0, none⟩) n n] 87) = w3 at *
  generalize w2.heap.size = xb at *
  have hS : ∀ U, Below w3.heap.size w3 U → (Below w.heap.size w U ∧ U.cell? ⟨w.heap.size, 0, none⟩ = some (.int .i64 n) ∧ U.cell? ⟨w.heap.size, 1, none⟩ = some v ∧ U.cell? ⟨xb, 0, none⟩ = some (.slice (some ⟨w.heap.size + 1, 0, none⟩) n n)) := fun U hU => ⟨(hQ3.below hU).bel, (hQ3.below hU).cells⟩
  have hS3 : ∀ U, Below w3.heap.size w3 U → (Below w.heap.size w (U.setCell ⟨w.heap.size + 1, e, none⟩ (.bool true)) ∧ (U.setCell ⟨w.heap.size + 1, e, none⟩ (.bool true)).cell? ⟨w.heap.size, 0, none⟩ = some (.int .i64 n) ∧ (U.setCell ⟨w.heap.size + 1, e, none⟩ (.bool true)).cell? ⟨w.heap.size, 1, none⟩ = some v ∧ (U.setCell ⟨w.heap.size + 1, e, none⟩ (.bool true)).cell? ⟨xb, 0, none⟩ = some (.slice (some ⟨w.heap.size + 1, 0, none⟩) n n)) := fun U hU => ⟨((hQ3.below hU).put (y := e)).bel, ((hQ3.below hU).put (y := e)).cells⟩
  have hS0 := hS _ (bdrew (Below.refl _ w3))
  go_region_held3 (fun U => Below w.heap.size w U ∧ U.cell? ⟨w.heap.size, 0, none⟩ = some (.int .i64 n) ∧ U.cell? ⟨w.heap.size, 1, none⟩ = some v ∧ U.cell? ⟨xb, 0, none⟩ = some (.slice (some ⟨w.heap.size + 1, 0, none⟩) n n))
    (first | exact hS0 | assumption | exact hS _ hl2 | exact hS3 _ hl2)
    (first | (go_at_call 38; refine (HE.out _ (And.left ‹_›)).mono ?_; rintro e9 V1 ⟨rfl, hl1⟩; have hl2 := undrew' hl1; have hc1 := ((hQ3.below hl2).bit (y := e) helt).1; have hf1 := ((hQ3.below hl2).bit (y := e) helt).2))
  have hP9 := ((hQ3.below hl2).put (y := e))
  clear hS hS3 hS0 hc1 hf1
  generalize V1.setCell ⟨w.heap.size + 1, e, none⟩ (.bool true) = w4 at *
  go_wp2
  go_loopw [6] (fun i wr => ∃ k : Nat, k ≤ xs.length ∧ i = .int .i64 k ∧ SpS w wr n v xb (fun a => decide (a = e) || decide (a ∈ xs.take k))) (fun i _ => xs.length - (intOf i).toNat)
  case atStart => exact ⟨0, Nat.zero_le _, rfl, by simpa using hP9⟩
  case round =>
    obtain ⟨k, hk, rfl, hSk⟩ := hrel
    clear hP9 hl1 hl2
    obtain ⟨c0, c1, c2⟩ := hSk.cells
    by_cases hlt : k < xs.length
    · have hck := (HUR.out.below hSk.bel hup).cell k (by rw [HUL.out]; exact hlt)
      rw [li_get hlt] at hck
      obtain rfl := HUR.out.at_ (by rw [HUL.out]; omega)
      obtain ⟨x, hxe⟩ : ∃ x, xs[k] = x := ⟨_, rfl⟩
      have hxn : x < n := by rw [← hxe]; exact HX.out _ (List.getElem_mem hlt)
      have HSN := hide (show (fun a => (decide (a = e) || decide (a ∈ xs.take k)) || decide (a = x)) = fun a => decide (a = e) || decide (a ∈ xs.take (k + 1)) by
        funext a
        rw [← hxe]
        simp only [List.take_succ_eq_append_getElem hlt, List.mem_append, List.mem_singleton, Bool.decide_or, Bool.or_assoc])
      rw [hxe] at hck
      clear hxe
      have hxi : (x : Int) < (n : Int) := by omega
      obtain ⟨b0, b1⟩ := hSk.bit hxn
      have hP := (hSk.put (y := x)).drew
      rw [HSN.out] at hP
      go_wp2_with fail
      go_region
      all_goals (
        clear c0 c1 c2 hck b0 b1
        go_wp2
        go_roundw
        case rel => exact ⟨k + 1, by omega, by go_num, hP⟩
        case measure => simp [intOf]; omega)
    · have hkn : k = xs.length := by omega
      subst hkn
      rw [List.take_length] at hSk
      have hst : ∀ q' : Nat → Bool, (∀ a, q' a = (decide (a = e) || decide (a ∈ xs))) → Spn n zs e (fun a => decide (a ∈ xs)) q' q' false 0 0 := fun q' hq => Spn.start (by rw [hq]; simp) (fun a _ h => by rw [hq]; simp at h; simp [h]) (fun a ha h => by
        rw [hq] at h
        simp only [Bool.or_eq_true, decide_eq_true_eq] at h
        rcases h with rfl | h
        · exact (Fin.Gen.sg _).one
        · exact Fin.Gen.base (List.mem_range.2 ha) (by simpa using h))
      have hst0 := hst _ (fun a => rfl)
      clear hst
      generalize (fun a => decide (a = e) || decide (a ∈ xs)) = q0 at hSk hst0
      go_wp2
      go_loopw [7] (fun s7 wr => ∃ (ag : Bool) (q : Nat → Bool), s7 = .bool ag ∧ SpS w wr n v xb q ∧ Spn n zs e (fun a => decide (a ∈ xs)) q q false 0 0 ∧ (ag = false → ∀ a, a < n → (q a = true ↔ Mkd n zs e (fun a => decide (a ∈ xs)) a))) (fun s7 wr => if boolOf s7 then cntB (w.heap.size + 1) wr + 1 else 0)
      case atStart => exact ⟨true, q0, rfl, hSk, hst0, fun h => by cases h⟩
      case round =>
        obtain ⟨ag, q, rfl, hZ0, hN0, hfin⟩ := hrel
        have HCN := hide (cntB_blk hZ0.blk)
        clear c0 c1 c2
        cases ag with
        | false =>
          have HFI := hide (hfin rfl)
          have hlq : lst n q = lst n p := lst_congr fun a ha => by rw [Bool.eq_iff_iff, HFI.out a ha, HP.out a ha]
          obtain ⟨c0, c1, c2⟩ := hZ0.cells
          go_wp2_with fail
          have HTH := hide (rthose_ok n 66 v #[.pointer (some ⟨xb, 0, none⟩)] q wr hn (fun a W => callSp a _ W) (fun W a hW ha => spn1_ok n a xb (w.heap.size + 1) q W ha (hZ0.below hW).ind (hZ0.below hW).blk))
          rw [hlq] at HTH
          refine HTH.out.mono ?_
          rintro x w9 ⟨r, rfl, hr, hb9⟩
          go_wp2
          go_ret
          exact ⟨_, rfl, owns_mono hr hZ0.bel.size, bcat hZ0.bel hb9 hZ0.bel.size⟩
        | true =>
          clear hfin
          go_wp2
          go_loopw [7, 8] (fun s7 s8 wx => ∃ (ag' : Bool) (q' : Nat → Bool) (a : Nat), a ≤ n ∧ s7 = .bool ag' ∧ s8 = .int .i64 a ∧ SpS w wx n v xb q' ∧ Spn n zs e (fun a => decide (a ∈ xs)) q q' ag' a 0) (fun _ s8 _ => n - (intOf s8).toNat)
          case atStart => exact ⟨false, q, 0, by omega, rfl, rfl, hZ0, hN0⟩
          case round =>
            obtain ⟨ag', q', a, ha, rfl, rfl, hZ, hN⟩ := hrel
            obtain ⟨c0, c1, c2⟩ := hZ.cells
            by_cases hla : a < n
            · have hai : (a : Int) < (n : Int) := by omega
              go_wp2
              clear c0 c1 c2
              go_loopw [7, 9] (fun s7 s9 wx => ∃ (ag' : Bool) (q' : Nat → Bool) (b : Nat), b ≤ n ∧ s7 = .bool ag' ∧ s9 = .int .i64 b ∧ SpS w wx n v xb q' ∧ Spn n zs e (fun a => decide (a ∈ xs)) q q' ag' a b) (fun _ s9 _ => n - (intOf s9).toNat)
              case atStart => exact ⟨ag', q', 0, by omega, rfl, rfl, hZ, hN⟩
              case round =>
                clear hZ hN
                obtain ⟨ag', q', b, hb, rfl, rfl, hZ, hN⟩ := hrel
                obtain ⟨c0, c1, c2⟩ := hZ.cells
                by_cases hlb : b < n
                · have hbi : (b : Int) < (n : Int) := by omega
                  obtain ⟨ba, bf1⟩ := hZ.bit hla
                  obtain ⟨bb, bf2⟩ := hZ.bit hlb
                  cases hqa : q' a with
                  | false =>
                    rw [hqa] at ba
                    go_wp2_with fail
                    go_quiet (fail)
                    have hZq := hZ.drewN nq
                    have hNq := hN.skip (fun h1 h2 => by rw [hqa] at h1; cases h1)
                    clear c0 c1 c2 ba bb bf1 bf2
                    generalize wr.drewN nq = wq at *
                    go_wp2
                    go_roundw
                    case rel => exact ⟨ag', q', b + 1, by omega, rfl, by go_num, hZq, hNq⟩
                    case measure => simp [intOf]; omega
                  | true =>
                    rw [hqa] at ba
                    cases hqb : q' b with
                    | false =>
                      rw [hqb] at bb
                      go_wp2_with fail
                      go_quiet (fail)
                      have hZq := hZ.drewN nq
                      have hNq := hN.skip (fun h1 h2 => by rw [hqb] at h2; cases h2)
                      clear c0 c1 c2 ba bb bf1 bf2
                      generalize wr.drewN nq = wq at *
                      go_wp2
                      go_roundw
                      case rel => exact ⟨ag', q', b + 1, by omega, rfl, by go_num, hZq, hNq⟩
                      case measure => simp [intOf]; omega
                    | true =>
                      rw [hqb] at bb
                      have htn := tm_lt hg.tab hla hlb
                      have HMt := hide (fun W (h : Below w.heap.size w W) => HM.out W a b h hla hlb)
                      cases hqt : q' (tm n zs a b) with
                      | true =>
                        have hNs := hN.skip (fun _ _ => hqt)
                        generalize tm n zs a b = t at *
                        have hti : (t : Int) < (n : Int) := by omega
                        obtain ⟨t0, _⟩ := hZ.bit htn
                        rw [hqt] at t0
                        have hS : ∀ W, Below wr.heap.size wr W → (Below wr.heap.size wr W ∧ W.cell? ⟨w.heap.size, 0, none⟩ = some (.int .i64 n) ∧ W.cell? ⟨w.heap.size, 1, none⟩ = some v ∧ W.cell? ⟨xb, 0, none⟩ = some (.slice (some ⟨w.heap.size + 1, 0, none⟩) n n) ∧ W.cell? ⟨w.heap.size + 1, a, none⟩ = some (.bool true) ∧ W.cell? ⟨w.heap.size + 1, b, none⟩ = some (.bool true) ∧ W.cell? ⟨w.heap.size + 1, t, none⟩ = some (.bool true)) := fun W h => by
                          obtain ⟨x0, x1, x2⟩ := (hZ.below h).cells
                          exact ⟨h, x0, x1, x2, below_cell h ba, below_cell h bb, below_cell h t0⟩
                        have hS0 := hS _ (bdrew (Below.refl _ wr))
                        go_wp2_with fail
                        go_region_held3 (fun W => Below wr.heap.size wr W ∧ W.cell? ⟨w.heap.size, 0, none⟩ = some (.int .i64 n) ∧ W.cell? ⟨w.heap.size, 1, none⟩ = some v ∧ W.cell? ⟨xb, 0, none⟩ = some (.slice (some ⟨w.heap.size + 1, 0, none⟩) n n) ∧ W.cell? ⟨w.heap.size + 1, a, none⟩ = some (.bool true) ∧ W.cell? ⟨w.heap.size + 1, b, none⟩ = some (.bool true) ∧ W.cell? ⟨w.heap.size + 1, t, none⟩ = some (.bool true))
                          (first | exact hS0 | assumption | exact hS _ (bcat2 (And.left ‹_›) hl1))
                          (first | (go_at_call 39; refine (HMt.out _ (bcat hZ.bel (And.left ‹_›) hZ.bel.size)).mono ?_; rintro e1 U1 ⟨rfl, hl1⟩))
                        have hBU := And.left ‹Below wr.heap.size wr U1 ∧ _›
                        have hZU := hZ.below hBU
                        clear hS hS0 hl1 c0 c1 c2 ba bb bf1 bf2 t0
                        all_goals (
                          go_wp2
                          go_roundw
                          case rel => exact ⟨ag', q', b + 1, by omega, rfl, by go_num, hZU, hNs⟩
                          case measure => simp [intOf]; omega)
                      | false =>
                        have hNh := hN.hit hg hla hlb hqa hqb hqt
                        generalize tm n zs a b = t at *
                        have hti : (t : Int) < (n : Int) := by omega
                        obtain ⟨t0, _⟩ := hZ.bit htn
                        rw [hqt] at t0
                        have hS : ∀ W, Below wr.heap.size wr W → (Below wr.heap.size wr W ∧ W.cell? ⟨w.heap.size, 0, none⟩ = some (.int .i64 n) ∧ W.cell? ⟨w.heap.size, 1, none⟩ = some v ∧ W.cell? ⟨xb, 0, none⟩ = some (.slice (some ⟨w.heap.size + 1, 0, none⟩) n n) ∧ W.cell? ⟨w.heap.size + 1, a, none⟩ = some (.bool true) ∧ W.cell? ⟨w.heap.size + 1, b, none⟩ = some (.bool true) ∧ W.cell? ⟨w.heap.size + 1, t, none⟩ = some (.bool false)) := fun W h => by
                          obtain ⟨x0, x1, x2⟩ := (hZ.below h).cells
                          exact ⟨h, x0, x1, x2, below_cell h ba, below_cell h bb, below_cell h t0⟩
                        have hS0 := hS _ (bdrew (Below.refl _ wr))
                        go_wp2_with fail
                        go_region_held3 (fun W => Below wr.heap.size wr W ∧ W.cell? ⟨w.heap.size, 0, none⟩ = some (.int .i64 n) ∧ W.cell? ⟨w.heap.size, 1, none⟩ = some v ∧ W.cell? ⟨xb, 0, none⟩ = some (.slice (some ⟨w.heap.size + 1, 0, none⟩) n n) ∧ W.cell? ⟨w.heap.size + 1, a, none⟩ = some (.bool true) ∧ W.cell? ⟨w.heap.size + 1, b, none⟩ = some (.bool true) ∧ W.cell? ⟨w.heap.size + 1, t, none⟩ = some (.bool false))
                          (first | exact hS0 | assumption | exact hS _ (bcat2 (And.left ‹_›) hl1))
                          (first | (go_at_call 39; refine (HMt.out _ (bcat hZ.bel (And.left ‹_›) hZ.bel.size)).mono ?_; rintro e1 U1 ⟨rfl, hl1⟩))
                        have hBU := And.left ‹Below wr.heap.size wr U1 ∧ _›
                        have hZU := hZ.below hBU
                        clear hS hS0 hl1 c0 c1 c2 ba bb bf1 bf2 t0
                        obtain ⟨c0, c1, c2⟩ := hZU.cells
                        go_wp2_with fail
                        clear c0 c1 c2
                        have hS : ∀ U, Below U1.heap.size U1 U → (Below w.heap.size w U ∧ U.cell? ⟨w.heap.size, 0, none⟩ = some (.int .i64 n) ∧ U.cell? ⟨w.heap.size, 1, none⟩ = some v ∧ U.cell? ⟨xb, 0, none⟩ = some (.slice (some ⟨w.heap.size + 1, 0, none⟩) n n)) := fun U hU => ⟨(hZU.below hU).bel, (hZU.below hU).cells⟩
                        have hS3 : ∀ U, Below U1.heap.size U1 U → (Below w.heap.size w (U.setCell ⟨w.heap.size + 1, t, none⟩ (.bool true)) ∧ (U.setCell ⟨w.heap.size + 1, t, none⟩ (.bool true)).cell? ⟨w.heap.size, 0, none⟩ = some (.int .i64 n) ∧ (U.setCell ⟨w.heap.size + 1, t, none⟩ (.bool true)).cell? ⟨w.heap.size, 1, none⟩ = some v ∧ (U.setCell ⟨w.heap.size + 1, t, none⟩ (.bool true)).cell? ⟨xb, 0, none⟩ = some (.slice (some ⟨w.heap.size + 1, 0, none⟩) n n)) := fun U hU => ⟨((hZU.below hU).put (y := t)).bel, ((hZU.below hU).put (y := t)).cells⟩
                        have hS0 := hS _ (bdrew (Below.refl _ U1))
                        go_region_held3 (fun U => Below w.heap.size w U ∧ U.cell? ⟨w.heap.size, 0, none⟩ = some (.int .i64 n) ∧ U.cell? ⟨w.heap.size, 1, none⟩ = some v ∧ U.cell? ⟨xb, 0, none⟩ = some (.slice (some ⟨w.heap.size + 1, 0, none⟩) n n))
                          (first | exact hS0 | assumption | exact hS _ hl2 | exact hS3 _ hl2)
                          (first | (go_at_call 39; refine (HMt.out _ (And.left ‹_›)).mono ?_; rintro e9 V1 ⟨rfl, hl1⟩; have hl2 := undrew' hl1; have hc1 := ((hZU.below hl2).bit (y := t) htn).1; have hf1 := ((hZU.below hl2).bit (y := t) htn).2))
                        have hP9 := ((hZU.below hl2).put (y := t))
                        clear hS hS3 hS0 hc1 hf1
                        generalize V1.setCell ⟨w.heap.size + 1, t, none⟩ (.bool true) = wv at *
                        go_wp2
                        go_roundw
                        case rel => exact ⟨true, _, b + 1, by omega, rfl, by go_num, hP9, hNh⟩
                        case measure => simp [intOf]; omega
                · have hNr := hN.row (by omega)
                  have hbn : b = n := by omega
                  subst hbn
                  clear hN
                  go_wp2
                  go_roundw
                  case rel => exact ⟨ag', q', a + 1, by omega, rfl, by go_num, hZ, hNr⟩
                  case measure => simp [intOf]; omega
            · have hst9 := Spn.start hN.one hN.base hN.made
              have HMO := hide hN.more
              have HFN : Hid (ag' = false → ∀ x, x < n → (q' x = true ↔ Mkd n zs e (fun a => decide (a ∈ xs)) x)) := fun hag => by subst hag; exact hN.fin (by omega)
              have HC9 := hide (cntB_blk hZ.blk)
              go_wp2
              go_roundw
              case rel => exact ⟨ag', q', rfl, hZ, hst9, HFN.out⟩
              case measure =>
                simp only [boolOf, HC9.out, HCN.out]
                cases hag : ag' with
                | false => simp
                | true => have := HMO.out hag; simp; omega
end Go.Proofs.YtjiapicknkjhmaaGreatDoor

namespace Go.Proofs.YtjiapicknkjhmaaGreatDoor
open Go Go.RowKit

theorem row_slice {W : World} {B : Nat} {v : Value} {zs : List Int} (h : Row W B v zs) (h0 : 0 < W.heap.size) : ∃ a cap, v = .slice a zs.length cap ∧ Sl W (.slice a zs.length cap) zs := by
  have hs := row_sl h h0
  obtain ⟨a, cap, rfl⟩ := own_slice h
  exact ⟨a, cap, rfl, hs⟩
theorem fo_good (n e : Nat) (v1 : Option Addr) (v2 v3 : Nat) (zs : List Int) (ls : List (List Int)) (lv : Value) (w : World) (hv : Sl w (.slice v1 v2 v3) zs) (hg : IsGrp n zs e) (hT : Tab w) (hF : FOK n zs e ls) (hL : SlL w lv ls) (QS : Nat → Int) (hQS : QS = fun t => (((lst n (pset (ls[t]?.getD []))).length / (lst n (pset (ls[t + 1]?.getD []))).length : Nat) : Int)) :
    Calls Tryz.prog 9 #[.agg #[.int .i64 n, .slice v1 v2 v3], lv] w fun x w' => ∃ y, x = .returned (.tuple #[y, .agg #[.int .i64 0, .int .i64 0]]) ∧ Row w' w.heap.size y (insF QS (ls.length - 1)) ∧ Below w.heap.size w w' := by
  have hn := hg.tab.le
  have l1 := hF.l1
  have l2 := hF.l2
  have hU : ∀ t, t < ls.length → ls[t]?.getD [] = li (lst n (pset (ls[t]?.getD []))) := fun t ht => (gd_lst (hF.gd t ht)).1
  have hlen : ∀ t, t < ls.length → (ls[t]?.getD []).length = (lst n (pset (ls[t]?.getD []))).length := fun t ht => gd_len (hF.gd t ht)
  have hS : ∀ t, t < ls.length → subT n zs e (pset (ls[t]?.getD [])) = true := fun t ht => (gd_lst (hF.gd t ht)).2
  refine fo_go n v1 v2 v3 ls (fun t => lst n (pset (ls[t]?.getD []))) (fun t a => li (lst n (cjl n zs e (lst n (pset (ls[t]?.getD []))) a))) (fun a x => Fin.cj (tm n zs) (iv n zs e) a x) (fun xs => lst n (spq n zs e xs)) lv w hL l1 l2 hU ⟨fun t ht => ?_, fun t ht => ?_, fun t ht x hx => (mem_lst.1 hx).1⟩ ?_ ?_ (hide fun W h => ?_) (hide fun W u t h ht hu => ?_) (hide fun W u t h ht hu => ?_) (hide fun t h1 ht => ?_) (hide fun W u t a h ht ha hu => ?_) (hide fun t a h1 ht ha => ?_) (hide fun t h1 ht => ?_) (hide fun W x y h hx hy => ?_) (hide fun x y hx hy => rcj_lt hg hx hy) (hide fun W u xs h hx hxl hu => ?_) (hide fun t a h1 ht ha hb => ?_) QS hQS
  · exact Fin.sz_pos (grp_fg hg) (subT_iff.1 (hS t ht))
  · have := lst_len n (pset (ls[t]?.getD []))
    show (lst n (pset (ls[t]?.getD []))).length ≤ 60
    omega
  · show (lst n (pset (ls[0]?.getD []))).length = n
    rw [← hlen 0 l1]; exact hF.s0
  · show (lst n (pset (ls[ls.length - 1]?.getD []))).length = 1
    rw [← hlen _ (by omega)]; exact hF.s1
  · have := groupFault_any n (.slice v1 v2 v3) zs W (hv.below h)
    rw [gfault_of_grp hg] at this
    exact this
  · have := rlist_any n (.slice v1 v2 v3) u _ W hn hu
    rw [lst_fault] at this
    exact this
  · have := closed_ok n e (.slice v1 v2 v3) u zs _ W (hv.below h) hg hu (fun x hx => (mem_lst.1 hx).1) (by have := lst_len n (pset (ls[t]?.getD [])); omega)
    rw [subT_congr hg (lst_dec (pset (ls[t]?.getD []))), hS t ht] at this
    exact this
  · refine List.all_eq_true.2 fun x hx => decide_eq_true ?_
    obtain ⟨a, ha, rfl⟩ := List.mem_map.1 hx
    obtain ⟨ha, h2⟩ := mem_lst.1 ha
    exact mem_li.2 (mem_lst.2 ⟨ha, (hF.mx t h1 ht).sub a (List.mem_range.2 ha) h2⟩)
  · refine (shf_ok n e a (.slice v1 v2 v3) u zs _ W hg (hv.below h) ha hu (fun x hx => (mem_lst.1 hx).1)).mono ?_
    rintro x W' ⟨r, rfl, hr, hb⟩
    obtain ⟨r1, r3, rfl, hs⟩ := row_slice hr (Nat.lt_of_lt_of_le (hT.below h).lt hb.size)
    exact ⟨_, _, _, rfl, hs, hb⟩
  · show li _ = li _
    rw [mxg_stay hg (hF.mx t h1 ht) (hS (t - 1) (by omega)) ha]
  · have h2 := hF.mx t h1 ht
    exact Nat.ne_of_lt (Fin.sz_lt h2.sub h2.less)
  · exact rcj_ok n e x y (.slice v1 v2 v3) zs W hg (hv.below h) hx hy
  · refine (span_ok n e (.slice v1 v2 v3) u zs xs (spq n zs e xs) W (hv.below h) hg hu hx (by omega) (spq_iff n zs e xs)).mono ?_
    rintro x W' ⟨r, rfl, hr, hb⟩
    obtain ⟨r1, r3, rfl, hs⟩ := row_slice hr (Nat.lt_of_lt_of_le (hT.below h).lt hb.size)
    rw [li_len]
    exact ⟨_, _, rfl, hb⟩
  · exact mxg_fill hg (hS (t - 1) (by omega)) (hF.mx t h1 ht) ha hb
end Go.Proofs.YtjiapicknkjhmaaGreatDoor

namespace Go.Proofs.YtjiapicknkjhmaaGreatDoor
open Go Go.RowKit

set_option maxRecDepth 100000 in
set_option maxHeartbeats 8000000 in
theorem fo_bad (N : Int) (v : Value) (lv : Value) (w : World) (c i : Int) (hc : c ≠ 0)
    (HCK : Hid (∀ W, Below w.heap.size w W → Calls Tryz.prog 14 #[.agg #[.int .i64 N, v]] W fun x W' => x = .returned (.agg #[.int .i64 c, .int .i64 i]) ∧ Below W.heap.size W W')) :
    Calls Tryz.prog 9 #[.agg #[.int .i64 N, v], lv] w fun x w' => x = .returned (.tuple #[.slice none 0 0, .agg #[.int .i64 c, .int .i64 i]]) ∧ Below w.heap.size w w' := by
  have hcb : (c != 0) = true := by simpa using hc
  obtain ⟨w0, BG⟩ := Beg.new w N v
  obtain ⟨c0, c1, _, _⟩ := BG.box.two
  rw [BG.eq] at c0 c1
  go_enter Tryz.func9, Tryz.ntmps9
  go_wp2_with fail
  rw [← BG.eq]
  refine (HCK.out _ BG.bel).mono ?_
  rintro x w1 ⟨rfl, hb1⟩
  clear c0 c1
  obtain ⟨w2, hw2⟩ : ∃ w2, w2 = w1.alloc (.cells #[.int .i64 c, .int .i64 i] 28) := ⟨_, rfl⟩
  have hB1 : Below w0.heap.size w0 w2 := by rw [hw2]; exact bcat2 hb1 (balloc w1 _)
  have hF1 : Blk w2 w1.heap.size 28 [.int .i64 c, .int .i64 i] := by rw [hw2]; exact blk0 _ _
  have hR1 := blk_below BG.res hB1
  have hBw := bcat BG.bel hB1 BG.bel.size
  obtain ⟨y0, y1, fy0, fy1⟩ := hR1.two
  obtain ⟨t0, t1, _, _⟩ := hF1.two
  rw [hw2] at t0 t1
  go_wp2_with fail
  rw [← hw2]
  rw [← hw2] at t0 t1
  clear hw2
  go_region
  all_goals (
    go_wp2
    obtain ⟨hR6, hB6⟩ := put2 hR1 hBw (by omega) c i
    have hB7 := bdrew hB6
    have hR7 : Blk ((w2.setCell ⟨w.heap.size + 1, 0, none⟩ (.int .i64 c)).setCell ⟨w.heap.size + 1, 1, none⟩ (.int .i64 i)).drew (w.heap.size + 1) 28 [.int .i64 c, .int .i64 i] := hR6
    generalize ((w2.setCell ⟨w.heap.size + 1, 0, none⟩ (.int .i64 c)).setCell ⟨w.heap.size + 1, 1, none⟩ (.int .i64 i)).drew = W at hR7 hB7 ⊢
    obtain ⟨z0, z1, _, _⟩ := hR7.two
    exact bodyPost_ret (v := .tuple #[.slice none 0 0, .agg #[.int .i64 c, .int .i64 i]]) (by simp [results, Tryz.results9, go_sem, z0, z1]) rfl ⟨rfl, hB7⟩)
/-- A fault that is told: the end of a way. -/
theorem fo_tell {w W : World} {c i : Int} (hR : Blk W (w.heap.size + 1) 28 [.int .i64 0, .int .i64 0]) (hB : Below w.heap.size w W) : ∃ W', (W.setCell ⟨w.heap.size + 1, 0, none⟩ (.int .i64 c)).setCell ⟨w.heap.size + 1, 1, none⟩ (.int .i64 i) = W' ∧ W'.cell? ⟨w.heap.size + 1, 0, none⟩ = some (.int .i64 c) ∧ W'.cell? ⟨w.heap.size + 1, 1, none⟩ = some (.int .i64 i) ∧ Below w.heap.size w W' := by
  obtain ⟨hR6, hB6⟩ := put2 hR hB (by omega) c i
  obtain ⟨z0, z1, _, _⟩ := hR6.two
  exact ⟨_, rfl, z0, z1, hB6⟩
set_option maxRecDepth 100000 in
set_option maxHeartbeats 8000000 in
theorem fo_many (n : Nat) (v lv : Value) (ls : List (List Int)) (w : World) (hL : SlL w lv ls) (hm : ls.length < 1 ∨ 10 < ls.length)
    (HGF : Hid (∀ W, Below w.heap.size w W → Calls Tryz.prog 14 #[.agg #[.int .i64 n, v]] W fun x W' => x = .returned (.agg #[.int .i64 0, .int .i64 0]) ∧ Below W.heap.size W W')) :
    Calls Tryz.prog 9 #[.agg #[.int .i64 n, v], lv] w fun x w' => x = .returned (.tuple #[.slice none 0 0, .agg #[.int .i64 2, .int .i64 0]]) ∧ Below w.heap.size w w' := by
  obtain ⟨la, lc, lb, lo, rfl, _⟩ := hL
  obtain ⟨w0, BG⟩ := Beg.new w n v
  obtain ⟨c0, c1, _, _⟩ := BG.box.two
  rw [BG.eq] at c0 c1
  go_enter Tryz.func9, Tryz.ntmps9
  go_wp2_with fail
  rw [← BG.eq]
  refine (HGF.out _ BG.bel).mono ?_
  rintro x w1 ⟨rfl, hb1⟩
  clear c0 c1
  obtain ⟨w2, hw2⟩ : ∃ w2, w2 = w1.alloc (.cells #[.int .i64 0, .int .i64 0] 28) := ⟨_, rfl⟩
  have hb2 : Below w1.heap.size w1 w2 := by rw [hw2]; exact balloc w1 _
  have hF2 : Blk w2 w1.heap.size 28 [.int .i64 0, .int .i64 0] := by rw [hw2]; exact blk0 _ _
  have hB2 := bcat2 BG.bel (bcat2 hb1 hb2)
  have hR2 := blk_below BG.res (bcat2 hb1 hb2)
  obtain ⟨f0, f1, _, _⟩ := hF2.two
  rw [hw2] at f0 f1
  clear BG HGF
  rcases hm with hm | hm
  · have g1 : (ls.length : Int) < 1 := by omega
    go_wp2_with fail
    rw [← hw2]
    clear f0 f1 hw2
    refine (f_any 2 0 _).mono ?_
    rintro x w3 ⟨rfl, hb3⟩
    have hB3 := bcat2 hB2 hb3
    have hR3 := blk_below hR2 hb3
    obtain ⟨y0, y1, fy0, fy1⟩ := hR3.two
    go_wp2
    obtain ⟨W', hW, z0, z1, hB⟩ := fo_tell (c := 2) (i := 0) hR3 hB3
    rw [hW]
    exact bodyPost_ret (v := .tuple #[.slice none 0 0, .agg #[.int .i64 2, .int .i64 0]]) (by simp [results, Tryz.results9, go_sem, z0, z1]) rfl ⟨rfl, hB⟩
  · have g1 : ¬ (ls.length : Int) < 1 := by omega
    have g2 : (ls.length : Int) > 10 := by omega
    go_wp2_with fail
    rw [← hw2]
    clear f0 f1 hw2
    refine (f_any 2 0 _).mono ?_
    rintro x w3 ⟨rfl, hb3⟩
    have hB3 := bcat2 hB2 hb3
    have hR3 := blk_below hR2 hb3
    obtain ⟨y0, y1, fy0, fy1⟩ := hR3.two
    go_wp2
    obtain ⟨W', hW, z0, z1, hB⟩ := fo_tell (c := 2) (i := 0) hR3 hB3
    rw [hW]
    exact bodyPost_ret (v := .tuple #[.slice none 0 0, .agg #[.int .i64 2, .int .i64 0]]) (by simp [results, Tryz.results9, go_sem, z0, z1]) rfl ⟨rfl, hB⟩
end Go.Proofs.YtjiapicknkjhmaaGreatDoor

namespace Go.Proofs.YtjiapicknkjhmaaGreatDoor
open Go Go.RowKit

set_option maxRecDepth 100000 in
set_option maxHeartbeats 8000000 in
theorem fo_size (n : Nat) (v lv : Value) (ls : List (List Int)) (w : World) (hL : SlL w lv ls) (hl1 : 1 ≤ ls.length) (hl2 : ls.length ≤ 10) (hm : (ls[0]?.getD []).length ≠ n ∨ (ls[ls.length - 1]?.getD []).length ≠ 1)
    (HGF : Hid (∀ W, Below w.heap.size w W → Calls Tryz.prog 14 #[.agg #[.int .i64 n, v]] W fun x W' => x = .returned (.agg #[.int .i64 0, .int .i64 0]) ∧ Below W.heap.size W W')) :
    Calls Tryz.prog 9 #[.agg #[.int .i64 n, v], lv] w fun x w' => x = .returned (.tuple #[.slice none 0 0, .agg #[.int .i64 8, .int .i64 0]]) ∧ Below w.heap.size w w' := by
  obtain ⟨la, lc, lb, lo, rfl, h1, h2, h3, _, _⟩ := hL
  obtain rfl := h1 (by omega)
  obtain ⟨w0, BG⟩ := Beg.new w n v
  obtain ⟨c0, c1, _, _⟩ := BG.box.two
  rw [BG.eq] at c0 c1
  go_enter Tryz.func9, Tryz.ntmps9
  go_wp2_with fail
  rw [← BG.eq]
  refine (HGF.out _ BG.bel).mono ?_
  rintro x w1 ⟨rfl, hb1⟩
  clear c0 c1
  obtain ⟨w2, hw2⟩ : ∃ w2, w2 = w1.alloc (.cells #[.int .i64 0, .int .i64 0] 28) := ⟨_, rfl⟩
  have hb2 : Below w1.heap.size w1 w2 := by rw [hw2]; exact balloc w1 _
  have hF2 : Blk w2 w1.heap.size 28 [.int .i64 0, .int .i64 0] := by rw [hw2]; exact blk0 _ _
  have hB2 := bcat2 BG.bel (bcat2 hb1 hb2)
  have hX2 := blk_below BG.box (bcat2 hb1 hb2)
  have hR2 := blk_below BG.res (bcat2 hb1 hb2)
  obtain ⟨a1, a3, ca, sa⟩ := row_at h2 (show 0 < ls.length by omega)
  obtain ⟨b1, b3, cb, sb⟩ := row_at h2 (show ls.length - 1 < ls.length by omega)
  rw [Nat.add_zero] at ca
  have ca := below_cell hB2 ca
  have cb := below_cell hB2 cb
  have g1 : ¬ (ls.length : Int) < 1 := by omega
  have g2 : ¬ (ls.length : Int) > 10 := by omega
  have g3 : (ls.length : Int) - 1 = ((ls.length - 1 : Nat) : Int) := by omega
  have g4 : ((ls.length - 1 : Nat) : Int) < (ls.length : Int) := by omega
  have g5 : (0 : Int) < (ls.length : Int) := by omega
  generalize hk : ls.length - 1 = k at *
  clear hk h2 sa sb h1 BG HGF hb1 hb2
  have HM := hide hm
  clear hm
  generalize (ls[0]?.getD []).length = L0 at *
  generalize (ls[k]?.getD []).length = L1 at *
  obtain ⟨f0, f1, _, _⟩ := hF2.two
  obtain ⟨c0, c1, _, _⟩ := hX2.two
  rw [hw2] at f0 f1 c0 c1 ca cb
  by_cases hm0 : L0 = n
  · have h9 : ¬ L1 = 1 := fun h => by
      rcases HM.out with h8 | h8
      · exact h8 hm0
      · exact h8 h
    have e0 : ((L0 : Int) != (n : Int)) = false := by simp [hm0]
    have e1 : ((L1 : Int) != 1) = true := by
      have : ¬ (L1 : Int) = 1 := by omega
      simpa using this
    clear hm0 h9
    go_wp2_with fail
    go_quiet (fail)
    rw [← hw2]
    have hBq := bdrewN hB2 nq
    have hRq : Blk (w2.drewN nq) (w.heap.size + 1) 28 [.int .i64 0, .int .i64 0] := hR2
    clear f0 f1 c0 c1 ca cb hw2
    generalize w2.drewN nq = w4 at *
    go_wp2_with fail
    refine (f_any 8 0 _).mono ?_
    rintro x w3 ⟨rfl, hb3⟩
    have hB3 := bcat2 hBq hb3
    have hR3 := blk_below hRq hb3
    obtain ⟨y0, y1, fy0, fy1⟩ := hR3.two
    go_wp2
    obtain ⟨W', hW, z0, z1, hB⟩ := fo_tell (c := 8) (i := 0) hR3 hB3
    rw [hW]
    exact bodyPost_ret (v := .tuple #[.slice none 0 0, .agg #[.int .i64 8, .int .i64 0]]) (by simp [results, Tryz.results9, go_sem, z0, z1]) rfl ⟨rfl, hB⟩
  · have e0 : ((L0 : Int) != (n : Int)) = true := by
      have : ¬ (L0 : Int) = (n : Int) := by omega
      simpa using this
    go_wp2_with fail
    go_quiet (fail)
    rw [← hw2]
    have hBq := bdrewN hB2 nq
    have hRq : Blk (w2.drewN nq) (w.heap.size + 1) 28 [.int .i64 0, .int .i64 0] := hR2
    clear f0 f1 c0 c1 ca cb hw2
    generalize w2.drewN nq = w4 at *
    go_wp2_with fail
    refine (f_any 8 0 _).mono ?_
    rintro x w3 ⟨rfl, hb3⟩
    have hB3 := bcat2 hBq hb3
    have hR3 := blk_below hRq hb3
    obtain ⟨y0, y1, fy0, fy1⟩ := hR3.two
    go_wp2
    obtain ⟨W', hW, z0, z1, hB⟩ := fo_tell (c := 8) (i := 0) hR3 hB3
    rw [hW]
    exact bodyPost_ret (v := .tuple #[.slice none 0 0, .agg #[.int .i64 8, .int .i64 0]]) (by simp [results, Tryz.results9, go_sem, z0, z1]) rfl ⟨rfl, hB⟩
end Go.Proofs.YtjiapicknkjhmaaGreatDoor

namespace Go.Proofs.YtjiapicknkjhmaaGreatDoor
open Go Go.RowKit

/-- A step of a series stands. -/
structure OKS (U : Nat → List Nat) (SHL : Nat → Nat → List Int) (CJ : Nat → Nat → Nat) (SPL : List Nat → List Nat) (t : Nat) : Prop where
  pt : ((li (U t)).all fun a => decide (a ∈ li (U (t - 1)))) = true
  sl : ∀ a, a ∈ U (t - 1) → SHL t a = li (U t)
  ne : (U t).length ≠ (U (t - 1)).length
  sq : ∀ a, a ∈ U (t - 1) → a ∉ U t → (SPL (U t ++ (U (t - 1)).map (CJ a))).length = (U (t - 1)).length
/-- A step of a series does not stand, and its code. -/
def BDS (U : Nat → List Nat) (SHL : Nat → Nat → List Int) (CJ : Nat → Nat → Nat) (SPL : List Nat → List Nat) (t : Nat) (c : Int) : Prop :=
  (((li (U t)).all fun a => decide (a ∈ li (U (t - 1)))) = false ∧ c = 7) ∨
  (((li (U t)).all fun a => decide (a ∈ li (U (t - 1)))) = true ∧ (∃ a, a ∈ U (t - 1) ∧ SHL t a ≠ li (U t)) ∧ c = 4) ∨
  (((li (U t)).all fun a => decide (a ∈ li (U (t - 1)))) = true ∧ (∀ a, a ∈ U (t - 1) → SHL t a = li (U t)) ∧ ((U t).length = (U (t - 1)).length ∨ ∃ a, a ∈ U (t - 1) ∧ a ∉ U t ∧ (SPL (U t ++ (U (t - 1)).map (CJ a))).length ≠ (U (t - 1)).length) ∧ c = 6)
theorem bds7 (U : Nat → List Nat) (SHL : Nat → Nat → List Int) (CJ : Nat → Nat → Nat) (SPL : List Nat → List Nat) (t : Nat) (h1 : ((li (U t)).all fun a => decide (a ∈ li (U (t - 1)))) = false) : BDS U SHL CJ SPL t 7 := Or.inl ⟨h1, rfl⟩
theorem bds4 (U : Nat → List Nat) (SHL : Nat → Nat → List Int) (CJ : Nat → Nat → Nat) (SPL : List Nat → List Nat) (t : Nat) (h1 : ((li (U t)).all fun a => decide (a ∈ li (U (t - 1)))) = true) (h2 : ∃ a, a ∈ U (t - 1) ∧ SHL t a ≠ li (U t)) : BDS U SHL CJ SPL t 4 := Or.inr (Or.inl ⟨h1, h2, rfl⟩)
theorem bds6 (U : Nat → List Nat) (SHL : Nat → Nat → List Int) (CJ : Nat → Nat → Nat) (SPL : List Nat → List Nat) (t : Nat) (h1 : ((li (U t)).all fun a => decide (a ∈ li (U (t - 1)))) = true) (h2 : ∀ a, a ∈ U (t - 1) → SHL t a = li (U t)) (h3 : (U t).length = (U (t - 1)).length ∨ ∃ a, a ∈ U (t - 1) ∧ a ∉ U t ∧ (SPL (U t ++ (U (t - 1)).map (CJ a))).length ≠ (U (t - 1)).length) : BDS U SHL CJ SPL t 6 := Or.inr (Or.inr ⟨h1, h2, h3, rfl⟩)
/-- What factorsOf answers of subgroups. -/
def FoR (m : Nat) (U : Nat → List Nat) (SHL : Nat → Nat → List Int) (CJ : Nat → Nat → Nat) (SPL : List Nat → List Nat) (QS : Nat → Int) (B : Nat) (y : Value) (c i : Int) (w' : World) : Prop :=
  (∃ t : Nat, 1 ≤ t ∧ t < m ∧ (∀ s, 1 ≤ s → s < t → OKS U SHL CJ SPL s) ∧ BDS U SHL CJ SPL t c ∧ i = t ∧ y = .slice none 0 0) ∨
  ((∀ s, 1 ≤ s → s < m → OKS U SHL CJ SPL s) ∧ c = 0 ∧ i = 0 ∧ Row w' B y (insF QS (m - 1)))
theorem for_tell {m : Nat} {U : Nat → List Nat} {SHL : Nat → Nat → List Int} {CJ : Nat → Nat → Nat} {SPL : List Nat → List Nat} {QS : Nat → Int} {B t : Nat} {c : Int} {w' : World} (h1 : 1 ≤ t) (h2 : t < m) (h3 : ∀ s, 1 ≤ s → s < t → OKS U SHL CJ SPL s) (h4 : BDS U SHL CJ SPL t c) : FoR m U SHL CJ SPL QS B (.slice none 0 0) c t w' := .inl ⟨t, h1, h2, h3, h4, rfl, rfl⟩
/-- A fault that is told: the end of a way. -/
theorem fo_end {w W : World} {c i : Int} (hR : Blk W (w.heap.size + 1) 28 [.int .i64 0, .int .i64 0]) (hB : Below w.heap.size w W) : ∃ W', (W.setCell ⟨w.heap.size + 1, 0, none⟩ (.int .i64 c)).setCell ⟨w.heap.size + 1, 1, none⟩ (.int .i64 i) = W' ∧ W'.cell? ⟨w.heap.size + 1, 0, none⟩ = some (.int .i64 c) ∧ W'.cell? ⟨w.heap.size + 1, 1, none⟩ = some (.int .i64 i) ∧ Below w.heap.size w W' := by
  obtain ⟨hR6, hB6⟩ := put2 hR hB (by omega) c i
  obtain ⟨z0, z1, _, _⟩ := hR6.two
  exact ⟨_, rfl, z0, z1, hB6⟩
end Go.Proofs.YtjiapicknkjhmaaGreatDoor

namespace Go.Proofs.YtjiapicknkjhmaaGreatDoor
open Go Go.RowKit

set_option maxRecDepth 100000 in
set_option maxHeartbeats 16000000 in
theorem fo_all (n : Nat) (v1 : Option Addr) (v2 v3 : Nat) (ls : List (List Int)) (U : Nat → List Nat) (SHL : Nat → Nat → List Int) (CJ : Nat → Nat → Nat) (SPL : List Nat → List Nat) (lv : Value) (w : World) (hL : SlL w lv ls) (hl1 : 1 ≤ ls.length) (hl2 : ls.length ≤ 10)
    (hU : ∀ t, t < ls.length → ls[t]?.getD [] = li (U t)) (FP : FoP n U ls.length) (hs0 : (U 0).length = n) (hs1 : (U (ls.length - 1)).length = 1)
    (HGF : Hid (∀ W, Below w.heap.size w W → Calls Tryz.prog 14 #[.agg #[.int .i64 n, .slice v1 v2 v3]] W fun x W' => x = .returned (.agg #[.int .i64 0, .int .i64 0]) ∧ Below W.heap.size W W'))
    (HLF : Hid (∀ W u t, Below w.heap.size w W → t < ls.length → Sl W u (li (U t)) → Calls Tryz.prog 28 #[.agg #[.int .i64 n, .slice v1 v2 v3], u] W fun x W' => x = .returned (.agg #[.int .i64 0, .int .i64 0]) ∧ Below W.heap.size W W'))
    (HCD : Hid (∀ W u t, Below w.heap.size w W → t < ls.length → Sl W u (li (U t)) → Calls Tryz.prog 29 #[.agg #[.int .i64 n, .slice v1 v2 v3], u] W fun x W' => x = .returned (.bool true) ∧ Below W.heap.size W W'))
    (HSH : Hid (∀ W u t a, Below w.heap.size w W → t < ls.length → a < n → Sl W u (li (U t)) → Calls Tryz.prog 31 #[.agg #[.int .i64 n, .slice v1 v2 v3], u, .int .i64 a] W fun x W' => ∃ r1 r2 r3, x = .returned (.slice r1 r2 r3) ∧ Sl W' (.slice r1 r2 r3) (SHL t a) ∧ Below W.heap.size W W'))
    (HCJ : Hid (∀ W x y, Below w.heap.size w W → x < n → y < n → Calls Tryz.prog 33 #[.agg #[.int .i64 n, .slice v1 v2 v3], .int .i64 x, .int .i64 y] W fun r W' => r = .returned (.int .i64 (CJ x y)) ∧ Below W.heap.size W W'))
    (HCL : Hid (∀ x y, x < n → y < n → CJ x y < n))
    (HSP : Hid (∀ W u xs, Below w.heap.size w W → (∀ x, x ∈ xs → x < n) → xs.length ≤ 200 → Sl W u (li xs) → Calls Tryz.prog 34 #[.agg #[.int .i64 n, .slice v1 v2 v3], u] W fun r W' => ∃ r1 r3, r = .returned (.slice r1 (SPL xs).length r3) ∧ Below W.heap.size W W'))
    (QS : Nat → Int) (hQS : QS = fun t => (((U t).length / (U (t + 1)).length : Nat) : Int)) :
    Calls Tryz.prog 9 #[.agg #[.int .i64 n, .slice v1 v2 v3], lv] w fun x w' => ∃ (y : Value) (c i : Int), x = .returned (.tuple #[y, .agg #[.int .i64 c, .int .i64 i]]) ∧ FoR ls.length U SHL CJ SPL QS w.heap.size y c i w' ∧ Below w.heap.size w w' := by
  obtain ⟨i3, hi3, hy0, hy1, hy2⟩ := info_parts info3b
  obtain ⟨la, lc, lb, lo, rfl, h1, h2, h3, _, _⟩ := id hL
  obtain rfl := h1 (by omega)
  obtain ⟨w0, BG⟩ := Beg.new w n (.slice v1 v2 v3)
  have HROW := hide (fun j (hj : j < ls.length) => (show ∃ r1 r3, w.cell? ⟨lb, lo + j, none⟩ = some (.slice r1 (U j).length r3) ∧ Sl w (.slice r1 (U j).length r3) (li (U j)) by
    obtain ⟨r1, r3, hc, hs⟩ := row_at h2 hj
    rw [hU j hj, li_len] at hc hs
    exact ⟨r1, r3, hc, hs⟩))
  have HFP := hide FP
  clear h1 h2 hU FP hL
  obtain ⟨c0, c1, _, _⟩ := BG.box.two
  rw [BG.eq] at c0 c1
  go_enter Tryz.func9, Tryz.ntmps9
  go_wp2_with fail
  rw [← BG.eq]
  refine (HGF.out _ BG.bel).mono ?_
  rintro x w1 ⟨rfl, hb1⟩
  clear c0 c1
  obtain ⟨w2, hw2⟩ : ∃ w2, w2 = w1.alloc (.cells #[.int .i64 0, .int .i64 0] 28) := ⟨_, rfl⟩
  have hb2 : Below w1.heap.size w1 w2 := by rw [hw2]; exact balloc w1 _
  have hF2 : Blk w2 w1.heap.size 28 [.int .i64 0, .int .i64 0] := by rw [hw2]; exact blk0 _ _
  have hB2 := bcat2 BG.bel (bcat2 hb1 hb2)
  have hX2 := blk_below BG.box (bcat2 hb1 hb2)
  have hR2 := blk_below BG.res (bcat2 hb1 hb2)
  obtain ⟨a1, a3, ca, sa⟩ := HROW.out 0 (by omega)
  obtain ⟨b1, b3, cb, sb⟩ := HROW.out (ls.length - 1) (by omega)
  rw [Nat.add_zero, hs0] at ca
  rw [hs1] at cb
  have ca := below_cell hB2 ca
  have cb := below_cell hB2 cb
  have hs12 : w.heap.size ≤ w1.heap.size := Nat.le_trans BG.bel.size hb1.size
  clear sa sb hs0 hs1 BG HGF
  have g1 : ¬ (ls.length : Int) < 1 := by omega
  have g2 : ¬ (ls.length : Int) > 10 := by omega
  have g3 : (ls.length : Int) - 1 = ((ls.length - 1 : Nat) : Int) := by omega
  have g4 : ((ls.length - 1 : Nat) : Int) < (ls.length : Int) := by omega
  have g5 : (0 : Int) < (ls.length : Int) := by omega
  generalize hkk : ls.length - 1 = kk at *
  have HKK := hide hkk
  clear hkk
  obtain ⟨c0, c1, _, _⟩ := hX2.two
  obtain ⟨f0, f1, _, _⟩ := hF2.two
  rw [hw2] at c0 c1 f0 f1 ca cb
  go_wp2_with fail
  go_quiet (fail)
  rw [← hw2]
  have hBq := bdrewN hB2 nq
  have hXq : BoxG (w2.drewN nq) w.heap.size n (.slice v1 v2 v3) := hX2
  have hRq : Blk (w2.drewN nq) (w.heap.size + 1) 28 [.int .i64 0, .int .i64 0] := hR2
  have hFq : Blk (w2.drewN nq) w1.heap.size 28 [.int .i64 0, .int .i64 0] := hF2
  clear c0 c1 f0 f1 ca cb hw2 hB2 hX2 hR2 hF2 hb1 hb2 g3 g4
  generalize w2.drewN nq = w3 at *
  go_wp2_with fail
  go_loopw [7] (fun iv wr => ∃ j : Nat, j ≤ ls.length ∧ iv = .int .i64 j ∧ Below w3.heap.size w3 wr) (fun iv _ => ls.length - (intOf iv).toNat)
  case atStart => exact ⟨0, Nat.zero_le _, rfl, Below.refl _ _⟩
  case round =>
    obtain ⟨j, hj, rfl, hb⟩ := hrel
    have hBr := bcat2 hBq hb
    have hXr := blk_below hXq hb
    by_cases hlt : j < ls.length
    · have hji : (j : Int) < (ls.length : Int) := by omega
      obtain ⟨r1, r3, cr, sr⟩ := HROW.out j hlt
      have crw := below_cell hBq cr
      have HL1 := hide (fun W (h : Below w3.heap.size w3 W) => HLF.out W _ j (bcat2 hBq h) hlt (sr.below (bcat2 hBq h)))
      have HC1 := hide (fun W (h : Below w3.heap.size w3 W) => HCD.out W _ j (bcat2 hBq h) hlt (sr.below (bcat2 hBq h)))
      have hfld : ∀ W, Sem.run Tryz.prog (Instr.field 28 (.agg #[.int .i64 0, .int .i64 0]) 0) W = .ok (.int .i64 0) W := fun W => by kernel_rfl
      obtain ⟨d0, d1, _, _⟩ := hXq.two
      have hS : ∀ W, Below w3.heap.size w3 W → (Below w3.heap.size w3 W ∧ W.cell? ⟨w.heap.size, 0, none⟩ = some (.int .i64 n) ∧ W.cell? ⟨w.heap.size, 1, none⟩ = some (.slice v1 v2 v3) ∧ W.cell? ⟨lb, lo + j, none⟩ = some (.slice r1 (U j).length r3)) := fun W h => ⟨h, below_cell h d0, below_cell h d1, below_cell h crw⟩
      have hS0 := hS _ (bdrew hb)
      clear crw d0 d1 cr sr
      go_wp2_with fail
      go_region_held3 (fun W => Below w3.heap.size w3 W ∧ W.cell? ⟨w.heap.size, 0, none⟩ = some (.int .i64 n) ∧ W.cell? ⟨w.heap.size, 1, none⟩ = some (.slice v1 v2 v3) ∧ W.cell? ⟨lb, lo + j, none⟩ = some (.slice r1 (U j).length r3))
        (first | exact hS0 | assumption | exact hS _ (bcat2 (And.left ‹_›) hl6) | exact hS _ (bcat2 (And.left ‹_›) hl5))
        (first
          | (go_at_call 28; refine (HL1.out _ (And.left ‹_›)).mono ?_; rintro e5 U5 ⟨rfl, hl5⟩; have hU5 := bcat2 (And.left ‹_›) hl5)
          | (go_at_call 29; refine (HC1.out _ (And.left ‹_›)).mono ?_; rintro e6 U6 ⟨rfl, hl6⟩; have hU6 := bcat2 (And.left ‹_›) hl6))
      all_goals (
        go_wp2
        go_roundw
        case rel => exact ⟨j + 1, by omega, by go_num, hU6⟩
        case measure => simp [intOf]; omega)
    · have hji : ¬ (j : Int) < (ls.length : Int) := by omega
      have hFr := blk_below hFq hb
      have hRr := blk_below hRq hb
      clear hBq hXq hRq hFq
      obtain ⟨w4, hw4⟩ : ∃ w4, w4 = wr := ⟨_, rfl⟩
      rw [← hw4] at hBr hXr hFr hRr ⊢
      clear hw4 hb HLF HCD
      have hps4 : 0 < w4.heap.size := Nat.lt_of_le_of_lt (Nat.zero_le _) hXr.lt
      go_wp2_with fail
      go_loopw [8, 9] (fun ov iv wr => ∃ (t : Nat) (oa : Option Addr) (op : Nat), 1 ≤ t ∧ t ≤ ls.length ∧ iv = .int .i64 t ∧ ov = .slice oa (insF QS (t - 1)).length op ∧ (t = 1 → oa = none ∧ op = 0) ∧ (∀ s, 1 ≤ s → s < t → OKS U SHL CJ SPL s) ∧ Row wr w4.heap.size (.slice oa (insF QS (t - 1)).length op) (insF QS (t - 1)) ∧ Below w4.heap.size w4 wr) (fun _ iv _ => ls.length - (intOf iv).toNat)
      case atStart => exact ⟨1, none, 0, Nat.le_refl _, hl1, rfl, rfl, fun _ => ⟨rfl, rfl⟩, fun s h1 h2 => by omega, nil_row _ _, Below.refl _ _⟩
      case round =>
        obtain ⟨t, oa, op, ht1, htl, rfl, rfl, hnil, hok, hrow, hb⟩ := hrel
        have HNIL := hide hnil
        have HOK := hide hok
        clear hnil hok
        by_cases hlt : t < ls.length
        · have hti : (t : Int) < (ls.length : Int) := by omega
          have htj : ((t - 1 : Nat) : Int) < (ls.length : Int) := by omega
          have hts : (t : Int) - 1 = ((t - 1 : Nat) : Int) := by omega
          have hwt : IntKind.i64.wrap ((t : Int) - 1) = ((t - 1 : Nat) : Int) := by rw [IntKind.wrap_i64]; omega
          have hk0 : (0 : Int) ≤ ((t - 1 : Nat) : Int) := by omega
          obtain ⟨a1, a3, ca, sa⟩ := HROW.out (t - 1) (by omega)
          obtain ⟨b1, b3, cb, sb⟩ := HROW.out t hlt
          have hBw := bcat2 hBr hb
          have ca := below_cell hBw ca
          have cb := below_cell hBw cb
          have HOKT := hide (fun h1 h2 h3 h4 => (OKS.mk h1 h2 h3 h4 : OKS U SHL CJ SPL t))
          have HB7 := hide (bds7 U SHL CJ SPL t)
          have HB4 := hide (bds4 U SHL CJ SPL t)
          have HB6 := hide (bds6 U SHL CJ SPL t)
          have HTELL := hide (fun (W : World) (c : Int) (h1 : BDS U SHL CJ SPL t c) => for_tell (QS := QS) (B := w.heap.size) (w' := W) ht1 hlt HOK.out h1)
          have hR5w := hRr
          have hpa := HFP.out.pos (t - 1) (by omega)
          have hpb := HFP.out.pos t hlt
          have hqa := HFP.out.le (t - 1) (by omega)
          have hqb := HFP.out.le t hlt
          have HUA := hide (HFP.out.lt (t - 1) (by omega))
          have HUB := hide (HFP.out.lt t hlt)
          have HSH1 := hide (fun W u a (h : Below w.heap.size w W) => HSH.out W u t a h hlt)
          have HQS := hide (show insF QS (t + 1 - 1) = insI (((U (t - 1)).length / (U t).length : Nat) : Int) (insF QS (t - 1)) by
            obtain ⟨k, rfl⟩ : ∃ k, t = k + 1 := ⟨t - 1, by omega⟩
            show insI (QS k) _ = _
            rw [hQS]
            rfl)
          have hln : (insF QS (t - 1)).length ≤ 10 := by rw [insF_len]; omega
          have HLK := hide (insF_len QS (t - 1))
          generalize hUu : U (t - 1) = up at *
          generalize hUd : U t = dn at *
          generalize hol : insF QS (t - 1) = ol at *
          have HT1 := hide hts
          clear hUu hUd hol hts
          generalize hk : t - 1 = k at *
          have HKT := hide hk
          clear hk
          go_wp2_with fail
          go_quiet (fail)
          have hb5 : Below w4.heap.size w4 (wr.drewN nq) := bdrewN hb nq
          have hrow5 : Row (wr.drewN nq) w4.heap.size (.slice oa ol.length op) ol := own_keep2 hrow (fun _ _ _ => rfl)
          clear ca cb hb hrow hBw
          generalize wr.drewN nq = w5 at *
          have hB5 := bcat2 hBr hb5
          have hX5 := blk_below hXr hb5
          have su5 := sa.below hB5
          have sd5 := sb.below hB5
          have hP5 := parted_ok _ _ _ _ w5 sd5 su5
          have hR5 := blk_below hRr hb5
          by_cases hpt : ((li dn).all fun a => decide (a ∈ li up)) = true
          · have HPT1 := hide hpt
            rw [hpt] at hP5
            have HP5 := hide hP5
            clear hP5 hpt
            go_wp2_with fail
            refine HP5.out.mono ?_
            rintro x w9 ⟨rfl, rfl⟩
            obtain ⟨ua, ucap, ub, uo, hue, hur, hup, huq, hum⟩ := id su5
            injection hue with hue1 hue2 hue3
            subst hue1 hue3
            have HUR := hide hur
            have HLU := hide (li_len up)
            clear hur hue2 HP5
            go_wp2_with fail
            go_loopw [12] (fun iv wr => ∃ a : Nat, a ≤ up.length ∧ iv = .int .i64 a ∧ (∀ x, x ∈ up.take a → SHL t x = li dn) ∧ Below w9.heap.size w9 wr) (fun iv _ => up.length - (intOf iv).toNat)
            case atStart => exact ⟨0, Nat.zero_le _, rfl, fun x h => by simp at h, Below.refl _ _⟩
            case round =>
              obtain ⟨a, ha, rfl, hsl, hb6⟩ := hrel
              have HSLA := hide hsl
              clear hsl
              by_cases hlta : a < up.length
              · have hai : (a : Int) < (up.length : Int) := by omega
                have hck := HUR.out.cell a (by rw [HLU.out]; exact hlta)
                rw [li_get hlta] at hck
                obtain rfl := HUR.out.at_ (by rw [HLU.out]; omega)
                obtain ⟨x, hxe⟩ : ∃ x, up[a] = x := ⟨_, rfl⟩
                have hxm : x ∈ up := by rw [← hxe]; exact List.getElem_mem hlta
                rw [hxe] at hck
                have HXE := hide (show up.take (a + 1) = up.take a ++ [x] by rw [List.take_succ_eq_append_getElem hlta, hxe])
                by_cases hse : SHL t x = li dn
                · have HSE := hide hse
                  have HSLN := hide (show ∀ z, z ∈ up.take (a + 1) → SHL t z = li dn from fun z hz => by
                    rw [HXE.out] at hz
                    rcases List.mem_append.1 hz with hz | hz
                    · exact HSLA.out z hz
                    · rw [List.mem_singleton.1 hz]; exact HSE.out)
                  clear hse
                  have HS1 := hide (fun W (h : Below w9.heap.size w9 W) => HSH1.out W _ x (bcat2 hB5 h) (HUA.out x hxm) (sd5.below h))
                  rw [HSE.out] at HS1
                  have HI1 := hide (fun W (u : Value) (h : Below w9.heap.size w9 W) (hu : Sl W u (li dn)) => ints_any u _ _ _ W hu (sd5.below h))
                  rw [decide_eq_true (show li dn = li dn from rfl)] at HI1
                  obtain ⟨d0, d1, _, _⟩ := hX5.two
                  have hS : ∀ W, Below w9.heap.size w9 W → (Below w9.heap.size w9 W ∧ W.cell? ⟨w.heap.size, 0, none⟩ = some (.int .i64 n) ∧ W.cell? ⟨w.heap.size, 1, none⟩ = some (.slice v1 v2 v3) ∧ W.cell? ⟨ub, uo + a, none⟩ = some (.int .i64 x)) := fun W h => ⟨h, below_cell h d0, below_cell h d1, below_cell h hck⟩
                  have hS0 := hS _ (bdrew hb6)
                  clear hxe hck d0 d1
                  go_wp2_with fail
                  go_region_held3 (fun W => Below w9.heap.size w9 W ∧ W.cell? ⟨w.heap.size, 0, none⟩ = some (.int .i64 n) ∧ W.cell? ⟨w.heap.size, 1, none⟩ = some (.slice v1 v2 v3) ∧ W.cell? ⟨ub, uo + a, none⟩ = some (.int .i64 x))
                    (first | exact hS0 | assumption | exact hS _ (bcat2 (And.left ‹_›) hl6) | exact hS _ (bcat2 (And.left ‹_›) hl5))
                    (first
                      | (go_at_call 31; refine (HS1.out _ (And.left ‹_›)).mono ?_; rintro e5 U5 ⟨r1, r2, r3, rfl, hs5, hl5⟩; have hU5 := bcat2 (And.left ‹_›) hl5)
                      | (go_at_call 21; refine (HI1.out _ _ (And.left ‹_›) hs5).mono ?_; rintro e6 U6 ⟨rfl, hl6⟩; have hU6 := bcat2 (And.left ‹_›) hl6))
                  all_goals (
                    go_wp2
                    go_roundw
                    case rel => exact ⟨a + 1, by omega, by go_num, HSLN.out, hU6⟩
                    case measure => simp [intOf]; omega)
                · have HS1 := hide (fun W (h : Below w9.heap.size w9 W) => HSH1.out W _ x (bcat2 hB5 h) (HUA.out x hxm) (sd5.below h))
                  have HI1 := hide (fun W (u : Value) (h : Below w9.heap.size w9 W) (hu : Sl W u (SHL t x)) => ints_any u _ _ _ W hu (sd5.below h))
                  rw [decide_eq_false hse] at HI1
                  have HSE := hide hse
                  clear hse
                  obtain ⟨d0, d1, _, _⟩ := hX5.two
                  have hS : ∀ W, Below w9.heap.size w9 W → (Below w9.heap.size w9 W ∧ W.cell? ⟨w.heap.size, 0, none⟩ = some (.int .i64 n) ∧ W.cell? ⟨w.heap.size, 1, none⟩ = some (.slice v1 v2 v3) ∧ W.cell? ⟨ub, uo + a, none⟩ = some (.int .i64 x)) := fun W h => ⟨h, below_cell h d0, below_cell h d1, below_cell h hck⟩
                  have hS0 := hS _ (bdrew hb6)
                  clear hxe hck d0 d1
                  go_wp2_with fail
                  go_region_held3 (fun W => Below w9.heap.size w9 W ∧ W.cell? ⟨w.heap.size, 0, none⟩ = some (.int .i64 n) ∧ W.cell? ⟨w.heap.size, 1, none⟩ = some (.slice v1 v2 v3) ∧ W.cell? ⟨ub, uo + a, none⟩ = some (.int .i64 x))
                    (first | exact hS0 | assumption | exact hS _ (bcat2 (And.left ‹_›) hl6) | exact hS _ (bcat2 (And.left ‹_›) hl5))
                    (first
                      | (go_at_call 31; refine (HS1.out _ (And.left ‹_›)).mono ?_; rintro e5 U5 ⟨r1, r2, r3, rfl, hs5, hl5⟩; have hU5 := bcat2 (And.left ‹_›) hl5)
                      | (go_at_call 21; refine (HI1.out _ _ (And.left ‹_›) hs5).mono ?_; rintro e6 U6 ⟨rfl, hl6⟩; have hU6 := bcat2 (And.left ‹_›) hl6))
                  all_goals (
                    have hB6 := bcat2 hB5 hU6
                    have hR6 := blk_below hR5 hU6
                    clear hS hS0
                    go_wp2_with fail
                    refine (f_any 4 t _).mono ?_
                    rintro x wf ⟨rfl, hbf9⟩
                    have hBf := bcat2 hB6 hbf9
                    have hRf := blk_below hR6 hbf9
                    obtain ⟨y0, y1, fy0, fy1⟩ := hRf.two
                    go_wp2
                    obtain ⟨W', hW, z0, z1, hB9⟩ := fo_end (c := 4) (i := (t : Int)) hRf hBf
                    rw [hW]
                    exact bodyPost_ret (v := .tuple #[.slice none 0 0, .agg #[.int .i64 4, .int .i64 t]]) (by simp [results, Tryz.results9, go_sem, z0, z1]) rfl ⟨_, _, _, rfl, HTELL.out _ 4 (HB4.out HPT1.out ⟨x, hxm, HSE.out⟩), hB9⟩)
              · have hai : ¬ (a : Int) < (up.length : Int) := by omega
                have HSLF := hide (show ∀ z, z ∈ up → SHL t z = li dn from fun z hz => HSLA.out z (by rw [show a = up.length by omega, List.take_length]; exact hz))
                by_cases hne1 : dn.length = up.length
                · have hnei : ((up.length : Int) == (dn.length : Int)) = true := by rw [hne1]; simp
                  have hB6 := bcat2 hB5 hb6
                  have hR6 := blk_below hR5 hb6
                  have HNE1 := hide hne1
                  clear hne1
                  go_wp2_with fail
                  refine (f_any 6 t _).mono ?_
                  rintro x wf ⟨rfl, hbf9⟩
                  have hBf := bcat2 hB6 hbf9
                  have hRf := blk_below hR6 hbf9
                  obtain ⟨y0, y1, fy0, fy1⟩ := hRf.two
                  go_wp2
                  obtain ⟨W', hW, z0, z1, hB9⟩ := fo_end (c := 6) (i := (t : Int)) hRf hBf
                  rw [hW]
                  exact bodyPost_ret (v := .tuple #[.slice none 0 0, .agg #[.int .i64 6, .int .i64 t]]) (by simp [results, Tryz.results9, go_sem, z0, z1]) rfl ⟨_, _, _, rfl, HTELL.out _ 6 (HB6.out HPT1.out HSLF.out (.inl HNE1.out)), hB9⟩
                · have hnei : ¬ (up.length : Int) = (dn.length : Int) := by omega
                  have hneb : ((up.length : Int) == (dn.length : Int)) = false := by rw [beq_eq_false_iff_ne]; exact hnei
                  have hB6 := bcat2 hB5 hb6
                  have hb46 := bcat2 hb5 hb6
                  have hrow6 : Row wr w4.heap.size (.slice oa ol.length op) ol := own_keep2 hrow5 (fun g _ h2 => hb6.block g h2)
                  have hX6 := blk_below hX5 hb6
                  have hR6 := blk_below hR5 hb6
                  have su6 := su5.below hb6
                  have sd6 := sd5.below hb6
                  have HUR6 := hide (HUR.out.below hb6 hup)
                  obtain ⟨w6, hw6⟩ : ∃ w6, w6 = wr := ⟨_, rfl⟩
                  rw [← hw6] at hB6 hb46 hrow6 hX6 hR6 su6 sd6 HUR6 ⊢
                  have hup6 : ub < w6.heap.size := by rw [hw6]; exact Nat.lt_of_lt_of_le hup hb6.size
                  clear hw6 hb6 HSH1 hrow5 hX5 su5 sd5 HUR hB5 hb5 hup
                  go_wp2_with fail
                  go_loopw [13] (fun iv wr => ∃ a : Nat, a ≤ up.length ∧ iv = .int .i64 a ∧ (∀ x, x ∈ up.take a → x ∉ dn → (SPL (dn ++ up.map (CJ x))).length = up.length) ∧ Below w6.heap.size w6 wr) (fun iv _ => up.length - (intOf iv).toNat)
                  case atStart => exact ⟨0, Nat.zero_le _, rfl, fun x h => by simp at h, Below.refl _ _⟩
                  case round =>
                    obtain ⟨a, ha, rfl, hsq, hb7⟩ := hrel
                    have HSQA := hide hsq
                    clear hsq
                    by_cases hlta : a < up.length
                    · have hai : (a : Int) < (up.length : Int) := by omega
                      have hck6 := HUR6.out.cell a (by rw [HLU.out]; exact hlta)
                      rw [li_get hlta] at hck6
                      obtain rfl := HUR6.out.at_ (by rw [HLU.out]; omega)
                      obtain ⟨x, hxe⟩ : ∃ x, up[a] = x := ⟨_, rfl⟩
                      have hxm : x ∈ up := by rw [← hxe]; exact List.getElem_mem hlta
                      rw [hxe] at hck6
                      have hck := below_cell hb7 hck6
                      have hxn := HUA.out x hxm
                      have HHA := hide (rhas_ok _ _ (x : Int) wr (sd6.below hb7))
                      have HXE := hide (show up.take (a + 1) = up.take a ++ [x] by rw [List.take_succ_eq_append_getElem hlta, hxe])
                      clear hxe
                      by_cases hin : x ∈ dn
                      · rw [decide_eq_true (mem_li.2 hin)] at HHA
                        have HIN := hide hin
                        clear hin
                        go_wp2_with fail
                        refine HHA.out.mono ?_
                        rintro y w8 ⟨rfl, rfl⟩
                        go_wp2
                        go_roundw
                        case rel => exact ⟨a + 1, by omega, by go_num, fun z hz hn => by
                          rw [HXE.out] at hz
                          rcases List.mem_append.1 hz with hz | hz
                          · exact HSQA.out z hz hn
                          · rw [List.mem_singleton.1 hz] at hn; exact absurd HIN.out hn, hb7⟩
                        case measure => simp [intOf]; omega
                      · rw [decide_eq_false (fun h => hin (mem_li.1 h))] at HHA
                        have HIN := hide hin
                        have hR7 := blk_below hR6 hb7
                        clear hin
                        have hB7 := bcat2 hB6 hb7
                        have hX7 := blk_below hX6 hb7
                        have HOW := hide (own_any _ _ wr (sd6.below hb7) (by rw [li_len]; omega))
                        go_wp2_with fail
                        refine HHA.out.mono ?_
                        rintro y w8 ⟨rfl, rfl⟩
                        go_wp2_with fail
                        refine HOW.out.mono ?_
                        rintro y w9 ⟨r, rfl, hm9, hb9⟩
                        obtain ⟨ma, mc, rfl⟩ := own_slice hm9
                        have HUR9 := hide (HUR6.out.below hb7 hup6)
                        have hm0 : Row w9 w8.heap.size (.slice ma (li (dn ++ (up.take 0).map (CJ x))).length mc) (li (dn ++ (up.take 0).map (CJ x))) := by
                          simp only [List.take_zero, List.map_nil, List.append_nil]
                          exact hm9
                        clear hm9 HOW HHA
                        go_wp2_with fail
                        go_loopw [14, 15] (fun mv iv wr => ∃ (b : Nat) (ma : Option Addr) (mc : Nat), b ≤ up.length ∧ iv = .int .i64 b ∧ mv = .slice ma (li (dn ++ (up.take b).map (CJ x))).length mc ∧ Row wr w8.heap.size (.slice ma (li (dn ++ (up.take b).map (CJ x))).length mc) (li (dn ++ (up.take b).map (CJ x))) ∧ Below w8.heap.size w8 wr) (fun _ iv _ => up.length - (intOf iv).toNat)
                        case atStart => exact ⟨0, ma, mc, Nat.zero_le _, rfl, by simp, hm0, hb9⟩
                        case round =>
                          clear hm0
                          obtain ⟨b, ma, mc, hbl, rfl, rfl, hrm, hbe⟩ := hrel
                          by_cases hltb : b < up.length
                          · have hbi : (b : Int) < (up.length : Int) := by omega
                            have hcy := HUR9.out.cell b (by rw [HLU.out]; exact hltb)
                            rw [li_get hltb] at hcy
                            obtain ⟨y, hye⟩ : ∃ y, up[b] = y := ⟨_, rfl⟩
                            have hym : y ∈ up := by rw [← hye]; exact List.getElem_mem hltb
                            have hyn := HUA.out y hym
                            have hsj : up.take (b + 1) = up.take b ++ [y] := by rw [List.take_succ_eq_append_getElem hltb, hye]
                            rw [hye] at hcy
                            have HSJ := hide (show li (dn ++ (up.take (b + 1)).map (CJ x)) = li (dn ++ (up.take b).map (CJ x)) ++ [((CJ x y : Nat) : Int)] by
                              rw [hsj, List.map_append, ← List.append_assoc]
                              simp [li])
                            have HLC := hide (show (li (dn ++ (up.take b).map (CJ x))).length ≤ 130 by
                              rw [li_len, List.length_append, List.length_map, List.length_take]
                              omega)
                            clear hye hsj hym
                            have HCM := hide (fun W (h : Below w8.heap.size w8 W) => HCJ.out W x y (bcat2 hB7 h) hxn hyn)
                            generalize CJ x y = z9 at *
                            generalize li (dn ++ (up.take b).map (CJ x)) = lm at *
                            obtain ⟨d0, d1, _, _⟩ := hX7.two
                            have hS : ∀ W, Below w8.heap.size w8 W → (Below w8.heap.size w8 W ∧ W.cell? ⟨w.heap.size, 0, none⟩ = some (.int .i64 n) ∧ W.cell? ⟨w.heap.size, 1, none⟩ = some (.slice v1 v2 v3) ∧ W.cell? ⟨ub, uo + a, none⟩ = some (.int .i64 x) ∧ W.cell? ⟨ub, uo + b, none⟩ = some (.int .i64 y)) := fun W h => ⟨h, below_cell h d0, below_cell h d1, below_cell h hck, below_cell h hcy⟩
                            have hS0 := hS _ (bdrew hbe)
                            have hown : wr.ownsRow w8.heap.size 3 1 (.slice ma lm.length mc) lm.length (lm.map (Value.int .i64)) := hrm
                            clear d0 d1 hcy
                            go_wp2_with fail
                            go_region_held3 (fun W => Below w8.heap.size w8 W ∧ W.cell? ⟨w.heap.size, 0, none⟩ = some (.int .i64 n) ∧ W.cell? ⟨w.heap.size, 1, none⟩ = some (.slice v1 v2 v3) ∧ W.cell? ⟨ub, uo + a, none⟩ = some (.int .i64 x) ∧ W.cell? ⟨ub, uo + b, none⟩ = some (.int .i64 y))
                              (first | exact hS0 | assumption | exact hS _ (bcat2 (And.left ‹_›) hl5) | exact hS _ (bcat2 hU5 (balloc _ _)) | exact hS _ hB99)
                              (first
                                | (go_at_call 33; refine (HCM.out _ (And.left ‹_›)).mono ?_; rintro e5 U5 ⟨rfl, hl5⟩; have hU5 := bcat2 (And.left ‹_›) hl5; have hr5 := own_keep2 (W := wr) hown (fun g _ h2 => hl5.block g h2); have hs5 := hl5.size)
                                | (refine step_append_lies _ rfl _ _ 22 rfl w8.heap.size 3 i3 (.int .i64 0) 1 8 under22b hi3 hy0 hy1 hy2 rfl (by decide) _ _ _ rfl (World.ownsRow.alloc hr5 _) ⟨U5.heap.size, 0, none⟩ 1 1 [.int .i64 z9] rfl rfl (cell_one_new _ _ _) (by simp [Value.oneCell']) (by decide) (by unfold maxLen; have := HLC.out; omega) (by have := HLC.out; omega) (by have := hU5.size; simp; omega) _ rfl ?_; intro g9 cap9 w99 hown9 hgrow hloc _; have hB99 : Below w8.heap.size w8 w99 := (hU5.alloc hU5.size _).grown hgrow (by have := hU5.size; simp; omega) (fun t e9 => owns_ge hr5 t e9)))
                            all_goals (
                              have hrow9 : Row w99 w8.heap.size (.slice (some ⟨g9, 0, none⟩) (li (dn ++ (up.take (b + 1)).map (CJ x))).length cap9) (li (dn ++ (up.take (b + 1)).map (CJ x))) := by
                                rw [HSJ.out]
                                unfold Row
                                simpa using hown9
                              clear hown9 hgrow hloc hr5 hown hrm
                              go_wp2
                              go_roundw
                              case rel => exact ⟨b + 1, some ⟨g9, 0, none⟩, cap9, by omega, by go_num, by rw [HSJ.out]; simp, hrow9, hB99⟩
                              case measure => simp [intOf]; omega)
                          · have hbi : ¬ (b : Int) < (up.length : Int) := by omega
                            have HE := hide (show dn ++ (up.take b).map (CJ x) = dn ++ up.map (CJ x) by rw [show b = up.length by omega, List.take_length])
                            rw [HE.out] at hrm ⊢
                            have hBe := bcat2 hB7 hbe
                            have hXe := blk_below hX7 hbe
                            have hsm := row_sl hrm (Nat.lt_of_le_of_lt (Nat.zero_le _) hXe.lt)
                            have HSPN := hide (HSP.out wr _ (dn ++ up.map (CJ x)) hBe (fun z hz => by
                              rcases List.mem_append.1 hz with hz | hz
                              · exact HUB.out z hz
                              · obtain ⟨y, hy, rfl⟩ := List.mem_map.1 hz
                                exact HCL.out x y hxn (HUA.out y hy)) (by rw [List.length_append, List.length_map]; omega) hsm)
                            have hRe := blk_below hR7 hbe
                            by_cases hsz : (SPL (dn ++ up.map (CJ x))).length = up.length
                            · rw [hsz] at HSPN
                              have HSZ := hide hsz
                              clear hsz
                              obtain ⟨c0, c1, _, _⟩ := hXe.two
                              generalize li (dn ++ up.map (CJ x)) = lm at *
                              clear hsm hrm
                              go_wp2_with fail
                              clear c0 c1
                              refine HSPN.out.mono ?_
                              rintro y we ⟨r1, r3, rfl, hbf⟩
                              have hbx := bcat2 hb7 (bcat2 hbe hbf)
                              go_wp2
                              go_roundw
                              case rel => exact ⟨a + 1, by omega, by go_num, fun z hz hn => by
                                rw [HXE.out] at hz
                                rcases List.mem_append.1 hz with hz | hz
                                · exact HSQA.out z hz hn
                                · rw [List.mem_singleton.1 hz]; exact HSZ.out, hbx⟩
                              case measure => simp [intOf]; omega
                            · have HSZ := hide hsz
                              have hszi : ((((SPL (dn ++ up.map (CJ x))).length : Nat) : Int) != (up.length : Int)) = true := by
                                have : ¬ (((SPL (dn ++ up.map (CJ x))).length : Nat) : Int) = (up.length : Int) := by omega
                                simpa using this
                              clear hsz
                              generalize hsl9 : (SPL (dn ++ up.map (CJ x))).length = sl9 at *
                              have HSL9 := hide hsl9
                              clear hsl9
                              obtain ⟨c0, c1, _, _⟩ := hXe.two
                              generalize li (dn ++ up.map (CJ x)) = lm at *
                              clear hsm hrm
                              go_wp2_with fail
                              clear c0 c1
                              refine HSPN.out.mono ?_
                              rintro y we ⟨r1, r3, rfl, hbf⟩
                              have hbx := bcat2 hb7 (bcat2 hbe hbf)
                              have hBz := bcat2 hBe hbf
                              have hRz := blk_below hRe hbf
                              go_wp2_with fail
                              refine (f_any 6 t _).mono ?_
                              rintro x wf ⟨rfl, hbf9⟩
                              have hBf := bcat2 hBz hbf9
                              have hRf := blk_below hRz hbf9
                              obtain ⟨y0, y1, fy0, fy1⟩ := hRf.two
                              go_wp2
                              obtain ⟨W', hW, z0, z1, hB9⟩ := fo_end (c := 6) (i := (t : Int)) hRf hBf
                              rw [hW]
                              exact bodyPost_ret (v := .tuple #[.slice none 0 0, .agg #[.int .i64 6, .int .i64 t]]) (by simp [results, Tryz.results9, go_sem, z0, z1]) rfl ⟨_, _, _, rfl, HTELL.out _ 6 (HB6.out HPT1.out HSLF.out (.inr ⟨x, hxm, HIN.out, by rw [HSL9.out]; exact HSZ.out⟩)), hB9⟩
                    · have hai : ¬ (a : Int) < (up.length : Int) := by omega
                      have HOKN := hide (show ∀ s, 1 ≤ s → s < t + 1 → OKS U SHL CJ SPL s from fun s h1 h2 => by
                        by_cases hst : s < t
                        · exact HOK.out s h1 hst
                        · rw [show s = t by omega]
                          exact HOKT.out HPT1.out HSLF.out hne1 (fun z hz hn => HSQA.out z (by rw [show a = up.length by omega, List.take_length]; exact hz) hn))
                      have hdiv : ¬ ((dn.length : Int) = 0) := by omega
                      have hdiv2 : ¬ dn.length = 0 := by omega
                      obtain ⟨q9, hq9⟩ : ∃ q9, up.length / dn.length = q9 := ⟨_, rfl⟩
                      have hqq : Int.tdiv (up.length : Int) (dn.length : Int) = (q9 : Int) := by rw [Int.tdiv_eq_ediv_of_nonneg (by omega), ← Int.natCast_ediv, hq9]
                      have hqe : (up.length : Int) / (dn.length : Int) = (q9 : Int) := by rw [← Int.natCast_ediv, hq9]
                      have hq2 : q9 ≤ 60 := by rw [← hq9]; exact Nat.le_trans (Nat.div_le_self _ _) hqa
                      have hwq : IntKind.i64.wrap (q9 : Int) = (q9 : Int) := by rw [IntKind.wrap_i64]; omega
                      rw [hq9] at HQS
                      clear hq9
                      have hb8 := bcat2 hb46 hb7
                      have hrow8 : Row wr w4.heap.size (.slice oa ol.length op) ol := own_keep2 hrow6 (fun g _ h2 => hb7.block g h2)
                      have hso := row_sl hrow8 (Nat.lt_of_lt_of_le hps4 hb8.size)
                      obtain ⟨xa, xcap, xb, xo, hxe, hxr, hxp, hxq, hxm⟩ := id hso
                      injection hxe with hxe1 hxe2 hxe3
                      subst hxe1 hxe3
                      have HXR := hide hxr
                      have HTW := hide (tw_facts (q9 : Int) ol)
                      clear hxr hxe2 hso hb7 hrow6 hX6 su6 sd6 HUR6
                      generalize htw : (ol.takeWhile fun x => decide (x < (q9 : Int))).length = tw at *
                      have HTWE := hide htw
                      clear htw
                      have htwl := HTW.out.1
                      go_wp2_with fail
                      go_loopw [17] (fun iv w10 => ∃ c : Nat, c ≤ tw ∧ iv = .int .i64 c ∧ w10 = wr) (fun iv _ => ol.length - (intOf iv).toNat)
                      case atStart => exact ⟨0, Nat.zero_le _, rfl, rfl⟩
                      case round =>
                        obtain ⟨c, hc, rfl, rfl⟩ := hrel
                        by_cases hct : c < tw
                        · have hci : (c : Int) < (ol.length : Int) := by omega
                          have hcc := HXR.out.cell c (by omega)
                          obtain rfl := HXR.out.at_ (by omega)
                          have hlt9 := HTW.out.2.1 c hct
                          generalize ol[c]?.getD 0 = z9 at *
                          go_wp2
                          go_roundw
                          case rel => exact ⟨c + 1, by omega, by go_num, trivial⟩
                          case measure => simp [intOf]; omega
                        · by_cases hco : tw < ol.length
                          · have hci : (c : Int) < (ol.length : Int) := by omega
                            have hce : c = tw := by omega
                            have hrow8o : wr.ownsRow w4.heap.size 3 1 (.slice oa ol.length op) ol.length (ol.map (Value.int .i64)) := hrow8
                            obtain ⟨g, hg1, hg2, hg3⟩ := own_some hrow8o (by omega)
                            subst hg1
                            have HQL := hide (show insI (q9 : Int) ol = ol.take c ++ (q9 : Int) :: ol.drop c by
                              unfold insI
                              rw [HTW.out.2.2.2.1, HTW.out.2.2.2.2, ← hce])
                            have hadd : ∀ k j : Nat, (⟨g, k, none⟩ : Addr).add j = ⟨g, k + j, none⟩ := fun k j => by unfold Addr.add; split <;> simp_all
                            have HCELL := hide (fun j (hj : j < ol.length) => (show wr.cell? ⟨g, j, none⟩ = some (.int .i64 (ol[j]?.getD 0)) by
                              have h9 := hrow8o.cells (g := g) rfl j _ (show (ol.map (Value.int .i64))[j]? = some (.int .i64 (ol[j]?.getD 0)) by simp [hj])
                              rw [hadd 0 j, Nat.zero_add] at h9
                              exact h9))
                            have hcc := HCELL.out c (by omega)
                            have hge9 := HTW.out.2.2.1 hco
                            rw [← hce] at hge9
                            have hcut := own_cut' hrow8o (k := c) (by omega)
                            have hsz8 := hb8.size
                            have hlit : (wr.drew.alloc (.cells #[.int .i64 (q9 : Int)] 3)).ownsRow wr.drew.heap.size 3 1 (.slice (some ⟨wr.drew.heap.size, 0, none⟩) 1 1) 1 [.int .i64 (q9 : Int)] := World.ownsRow_lit (e := 3) (size := 1) wr.drew #[.int .i64 (q9 : Int)] 1 (Nat.le_refl _) (by unfold maxLen; omega) rfl
                            have HNW := hide (show ∀ j u, ((ol.drop c).map (Value.int .i64))[j]? = some u → (wr.drew.alloc (.cells #[.int .i64 (q9 : Int)] 3)).cell? ((⟨g, c, none⟩ : Addr).add j) = some u from fun j u h => by
                              have hj : c + j < ol.length := by
                                rcases Nat.lt_or_ge (c + j) ol.length with h9 | h9
                                · exact h9
                                · rw [List.getElem?_eq_none (by simp; omega)] at h; cases h
                              have h9 := below_cell ((bdrew (Below.refl wr.heap.size wr)).alloc (Nat.le_refl _) (.cells #[.int .i64 (q9 : Int)] 3)) (HCELL.out (c + j) hj)
                              rw [hadd c j, h9]
                              simp [hj] at h ⊢
                              exact h)
                            obtain ⟨L, hL⟩ : ∃ L, ol.length = L := ⟨_, rfl⟩
                            have HL := hide hL
                            have hdl : ((ol.drop c).map (Value.int .i64)).length = (L - c) * 1 := by simp [hL]
                            rw [hL] at hci hco hln hg3 hrow8o ⊢
                            have hcop : (c : Int) ≤ (op : Int) := by omega
                            have hci2 : (c : Int) ≤ (L : Int) := by omega
                            have hlc0 : 0 < L - c := by omega
                            have hnop : ¬ op = c := by omega
                            generalize ol[c]?.getD 0 = z9 at *
                            clear hL HCELL hrow8o hrow8 hxq htwl hct hc hce hco
                            go_wp2_with fail
                            go_region_held3 (fun _ => True)
                              (first | trivial | assumption)
                              (first
                                | (refine step_append_lies _ rfl _ _ 22 rfl wr.drew.heap.size 3 i3 (.int .i64 0) 1 8 under22b hi3 hy0 hy1 hy2 rfl (by decide) _ _ _ rfl hlit ⟨g, c, none⟩ (L - c) (op - c) ((ol.drop c).map (Value.int .i64)) rfl hdl HNW.out (ints_one _) hlc0 (by unfold maxLen; omega) (by omega) (by simp) _ rfl ?_; intro g1 cap1 w99 hown1 hgrow1 hloc1 _; have hBq1 : Below wr.heap.size wr w99 := ((bdrew (Below.refl wr.heap.size wr)).alloc (Nat.le_refl _) _).grown hgrow1 (by simp) (fun t e9 => owns_ge hlit t e9); have hcut1 := own_keep2 hcut (fun g' _ h2 => hBq1.block g' h2); have hsz1 := hBq1.size)
                                | (refine step_append_lies _ rfl _ _ 22 rfl w4.heap.size 3 i3 (.int .i64 0) 1 8 under22b hi3 hy0 hy1 hy2 rfl (by decide) _ _ _ rfl hcut1 ⟨g1, 0, none⟩ (1 + (L - c)) cap1 ([.int .i64 (q9 : Int)] ++ (ol.drop c).map (Value.int .i64)) rfl (by rw [List.length_append, hdl]; simp) (hown1.cells (g := g1) rfl) (ints_one' _ _) (by omega) (by unfold maxLen; omega) (by omega) (by omega) _ rfl ?_; intro g9 cap9 w98 hown9 hgrow hloc _; have hB98 : Below w4.heap.size w4 w98 := (bcat2 hb8 hBq1).grown hgrow (by omega) (fun t e9 => owns_ge hcut1 t e9)))
                            all_goals (
                              have hrow9 : Row w98 w4.heap.size (.slice (some ⟨g9, 0, none⟩) (insF QS (t + 1 - 1)).length cap9) (insF QS (t + 1 - 1)) := by
                                rw [HQS.out, HQL.out]
                                unfold Row
                                have e9 : (ol.take c ++ (q9 : Int) :: ol.drop c).length = c + (1 + (L - c)) := by
                                  rw [List.length_append, List.length_cons, List.length_take, List.length_drop, HL.out]
                                  omega
                                rw [e9]
                                simpa [List.map_take] using hown9
                              have hlen9 : c + (1 + (L - c)) = (insF QS (t + 1 - 1)).length := by
                                rw [HQS.out, HQL.out, List.length_append, List.length_cons, List.length_take, List.length_drop, HL.out]
                                omega
                              have HLEN9 := hide hlen9
                              clear hown9 hgrow hloc hown1 hgrow1 hloc1 hlen9
                              go_wp2
                              go_roundw
                              case rel => exact ⟨t + 1, some ⟨g9, 0, none⟩, cap9, by omega, by omega, by go_num, by rw [← HLEN9.out], fun h => by omega, HOKN.out, hrow9, hB98⟩
                              case measure => simp [intOf]; omega)
                          · have hci : ¬ (c : Int) < (ol.length : Int) := by omega
                            have hcl : (c : Int) = (ol.length : Int) := by omega
                            by_cases hol0 : ol.length = 0
                            · have hk1 : t = 1 := by
                                have := HNIL.out
                                have h9 := HKT.out
                                have h8 := HLK.out
                                omega
                              obtain ⟨rfl, rfl⟩ := HNIL.out hk1
                              have hc0 : c = 0 := by omega
                              subst hc0
                              have hol : ol = [] := List.length_eq_zero_iff.1 hol0
                              subst hol
                              have hbd := bdrew hb8
                              have hlit : (wr.drew.alloc (.cells #[.int .i64 (q9 : Int)] 3)).ownsRow wr.drew.heap.size 3 1 (.slice (some ⟨wr.drew.heap.size, 0, none⟩) 1 1) 1 [.int .i64 (q9 : Int)] := World.ownsRow_lit (e := 3) (size := 1) wr.drew #[.int .i64 (q9 : Int)] 1 (Nat.le_refl _) (by unfold maxLen; omega) rfl
                              go_wp2_with fail
                              go_region_held3 (fun _ => True)
                                (first | trivial | assumption)
                                (first
                                  | (refine step_append_zero rfl _ _ rfl i3 hi3 _ _ _ rfl rfl ?_)
                                  | (refine step_append_lies _ rfl _ _ 22 rfl w4.heap.size 3 i3 (.int .i64 0) 1 8 under22b hi3 hy0 hy1 hy2 rfl (by decide) _ _ _ rfl (World.ownsRow_nil _ _ _ _) ⟨_, 0, none⟩ 1 1 [.int .i64 (q9 : Int)] rfl rfl (cell_one_new _ _ _) (by simp [Value.oneCell']) (by decide) (by unfold maxLen; omega) (by omega) (by have := hb8.size; simp; omega) _ rfl ?_; intro g9 cap9 w99 hown9 hgrow hloc _; have hB99 : Below w4.heap.size w4 w99 := (hbd.alloc hbd.size _).grown hgrow (by have := hb8.size; simp; omega) (fun t e9 => by cases e9)))
                              all_goals (
                                have hrow9 : Row w99 w4.heap.size (.slice (some ⟨g9, 0, none⟩) (insF QS (t + 1 - 1)).length cap9) (insF QS (t + 1 - 1)) := by
                                  rw [HQS.out]
                                  unfold Row
                                  simpa [insI] using hown9
                                clear hown9 hgrow hloc
                                go_wp2
                                go_roundw
                                case rel => exact ⟨t + 1, some ⟨g9, 0, none⟩, cap9, by omega, by omega, by go_num, by rw [HQS.out]; simp [insI], fun h => by omega, HOKN.out, hrow9, hB99⟩
                                case measure => simp [intOf]; omega)
                            · have hrow8o : wr.ownsRow w4.heap.size 3 1 (.slice oa ol.length op) ol.length (ol.map (Value.int .i64)) := hrow8
                              obtain ⟨g, hg1, hg2, hg3⟩ := own_some hrow8o hol0
                              subst hg1
                              have hLc : ol.length = c := by omega
                              have HQL := hide (show insI (q9 : Int) ol = ol ++ [(q9 : Int)] by
                                unfold insI
                                rw [HTW.out.2.2.2.1, HTW.out.2.2.2.2, show tw = ol.length by omega, List.take_length, List.drop_length])
                              rw [hLc] at hrow8o hg3 ⊢
                              have hown : wr.drew.ownsRow w4.heap.size 3 1 (.slice (some ⟨g, 0, none⟩) c op) c (ol.map (Value.int .i64)) := own_keep2 hrow8o (fun _ _ _ => rfl)
                              have hcop : (c : Int) ≤ (op : Int) := by omega
                              have hc10 : c ≤ 10 := by omega
                              have hbd := bdrew hb8
                              have hsz8 := hb8.size
                              have HLc := hide hLc
                              clear hcl hci hLc hrow8 hrow8o hxq hln htwl hco hct hc hol0
                              go_wp2_with fail
                              go_region_held3 (fun _ => True)
                                (first | trivial | assumption)
                                (first
                                  | (refine step_append_zero rfl _ _ rfl i3 hi3 _ _ _ rfl rfl ?_)
                                  | (refine step_append_lies _ rfl _ _ 22 rfl w4.heap.size 3 i3 (.int .i64 0) 1 8 under22b hi3 hy0 hy1 hy2 rfl (by decide) _ _ _ rfl (World.ownsRow.alloc hown _) ⟨_, 0, none⟩ 1 1 [.int .i64 (q9 : Int)] rfl rfl (cell_one_new _ _ _) (by simp [Value.oneCell']) (by decide) (by unfold maxLen; omega) (by omega) (by simp; omega) _ rfl ?_; intro g9 cap9 w99 hown9 hgrow hloc _; have hB99 : Below w4.heap.size w4 w99 := (hbd.alloc hbd.size _).grown hgrow (by simp; omega) (fun t e9 => owns_ge hown t e9)))
                              all_goals (
                                have hrow9 : Row w99 w4.heap.size (.slice (some ⟨g9, 0, none⟩) (insF QS (t + 1 - 1)).length cap9) (insF QS (t + 1 - 1)) := by
                                  rw [HQS.out, HQL.out]
                                  unfold Row
                                  rw [List.length_append, HLc.out]
                                  simpa using hown9
                                clear hown9 hgrow hloc hown
                                go_wp2
                                go_roundw
                                case rel => exact ⟨t + 1, some ⟨g9, 0, none⟩, cap9, by omega, by omega, by go_num, by rw [HQS.out, HQL.out, List.length_append, HLc.out]; simp, fun h => by omega, HOKN.out, hrow9, hB99⟩
                                case measure => simp [intOf]; omega)
          · have hpt : ((li dn).all fun a => decide (a ∈ li up)) = false := by simpa using hpt
            have HPT1 := hide hpt
            rw [hpt] at hP5
            have HP5 := hide hP5
            clear hP5 hpt
            go_wp2_with fail
            refine HP5.out.mono ?_
            rintro x w9 ⟨rfl, rfl⟩
            go_wp2_with fail
            refine (f_any 7 t _).mono ?_
            rintro x wf ⟨rfl, hbf9⟩
            have hBf := bcat2 hB5 hbf9
            have hRf := blk_below hR5 hbf9
            obtain ⟨y0, y1, fy0, fy1⟩ := hRf.two
            go_wp2
            obtain ⟨W', hW, z0, z1, hB9⟩ := fo_end (c := 7) (i := (t : Int)) hRf hBf
            rw [hW]
            exact bodyPost_ret (v := .tuple #[.slice none 0 0, .agg #[.int .i64 7, .int .i64 t]]) (by simp [results, Tryz.results9, go_sem, z0, z1]) rfl ⟨_, _, _, rfl, HTELL.out _ 7 (HB7.out HPT1.out), hB9⟩
        · have hti : ¬ (t : Int) < (ls.length : Int) := by omega
          have HE := hide (show insF QS (t - 1) = insF QS (ls.length - 1) by rw [show t = ls.length by omega])
          rw [HE.out] at hrow ⊢
          have hBw := bcat2 hBr hb
          have hF9 := blk_below hFr hb
          have hR9 := blk_below hRr hb
          obtain ⟨t0, t1, _, _⟩ := hF9.two
          obtain ⟨y0, y1, y2, y3⟩ := hR9.two
          have hst := store_same y0 y1
          have hstd : (wr.drew.setCell ⟨w.heap.size + 1, 0, none⟩ (.int .i64 0)).setCell ⟨w.heap.size + 1, 1, none⟩ (.int .i64 0) = wr.drew := store_same y0 y1
          obtain ⟨lq, hlq⟩ : ∃ lq, lq = insF QS (ls.length - 1) := ⟨_, rfl⟩
          rw [← hlq] at hrow ⊢
          have HLQ := hide hlq
          clear hlq HE
          have hrw : Row wr.drew w.heap.size (.slice oa lq.length op) lq := own_keep2 (own_le hrow hBr.size) (fun _ _ _ => rfl)
          have hBd := bdrew hBw
          go_wp2_with fail
          go_region
          all_goals (
            go_wp2
            have y0d : wr.drew.cell? ⟨w.heap.size + 1, 0, none⟩ = some (.int .i64 0) := y0
            have y1d : wr.drew.cell? ⟨w.heap.size + 1, 1, none⟩ = some (.int .i64 0) := y1
            exact bodyPost_ret (v := .tuple #[.slice oa lq.length op, .agg #[.int .i64 0, .int .i64 0]]) (by simp [results, Tryz.results9, go_sem, y0d, y1d]) rfl ⟨_, _, _, rfl, .inr ⟨fun s h1 h2 => HOK.out s h1 (by omega), rfl, rfl, by rw [← HLQ.out]; exact hrw⟩, hBd⟩)
end Go.Proofs.YtjiapicknkjhmaaGreatDoor

namespace Go.Proofs.YtjiapicknkjhmaaGreatDoor
open Go Go.RowKit

set_option maxRecDepth 100000 in
set_option maxHeartbeats 16000000 in
theorem fo_five (n : Nat) (v1 : Option Addr) (v2 v3 : Nat) (ls : List (List Int)) (LC LI : Nat → Int) (CB : Nat → Bool) (k : Nat) (lv : Value) (w : World) (hL : SlL w lv ls) (hl1 : 1 ≤ ls.length) (hl2 : ls.length ≤ 10)
    (hs0 : (ls[0]?.getD []).length = n) (hs1 : (ls[ls.length - 1]?.getD []).length = 1) (hk : k < ls.length) (hgd : ∀ t, t < k → LC t = 0 ∧ LI t = 0 ∧ CB t = true) (hbd : LC k ≠ 0 ∨ (LC k = 0 ∧ LI k = 0 ∧ CB k = false))
    (HGF : Hid (∀ W, Below w.heap.size w W → Calls Tryz.prog 14 #[.agg #[.int .i64 n, .slice v1 v2 v3]] W fun x W' => x = .returned (.agg #[.int .i64 0, .int .i64 0]) ∧ Below W.heap.size W W'))
    (HLF : Hid (∀ W u t, Below w.heap.size w W → t < ls.length → Sl W u (ls[t]?.getD []) → Calls Tryz.prog 28 #[.agg #[.int .i64 n, .slice v1 v2 v3], u] W fun x W' => x = .returned (.agg #[.int .i64 (LC t), .int .i64 (LI t)]) ∧ Below W.heap.size W W'))
    (HCD : Hid (∀ W u t, Below w.heap.size w W → t < ls.length → LC t = 0 → Sl W u (ls[t]?.getD []) → Calls Tryz.prog 29 #[.agg #[.int .i64 n, .slice v1 v2 v3], u] W fun x W' => x = .returned (.bool (CB t)) ∧ Below W.heap.size W W')) :
    Calls Tryz.prog 9 #[.agg #[.int .i64 n, .slice v1 v2 v3], lv] w fun x w' => x = .returned (.tuple #[.slice none 0 0, .agg #[.int .i64 5, .int .i64 k]]) ∧ Below w.heap.size w w' := by
  obtain ⟨la, lc, lb, lo, rfl, h1, h2, h3, _, _⟩ := id hL
  obtain rfl := h1 (by omega)
  obtain ⟨w0, BG⟩ := Beg.new w n (.slice v1 v2 v3)
  have HROW := hide (fun j (hj : j < ls.length) => row_at h2 hj)
  have HGD := hide hgd
  have HBD := hide hbd
  clear h1 h2 hL hgd hbd
  obtain ⟨c0, c1, _, _⟩ := BG.box.two
  rw [BG.eq] at c0 c1
  go_enter Tryz.func9, Tryz.ntmps9
  go_wp2_with fail
  rw [← BG.eq]
  refine (HGF.out _ BG.bel).mono ?_
  rintro x w1 ⟨rfl, hb1⟩
  clear c0 c1
  obtain ⟨w2, hw2⟩ : ∃ w2, w2 = w1.alloc (.cells #[.int .i64 0, .int .i64 0] 28) := ⟨_, rfl⟩
  have hb2 : Below w1.heap.size w1 w2 := by rw [hw2]; exact balloc w1 _
  have hF2 : Blk w2 w1.heap.size 28 [.int .i64 0, .int .i64 0] := by rw [hw2]; exact blk0 _ _
  have hB2 := bcat2 BG.bel (bcat2 hb1 hb2)
  have hX2 := blk_below BG.box (bcat2 hb1 hb2)
  have hR2 := blk_below BG.res (bcat2 hb1 hb2)
  obtain ⟨a1, a3, ca, sa⟩ := HROW.out 0 (by omega)
  obtain ⟨b1, b3, cb, sb⟩ := HROW.out (ls.length - 1) (by omega)
  rw [Nat.add_zero, hs0] at ca
  rw [hs1] at cb
  have ca := below_cell hB2 ca
  have cb := below_cell hB2 cb
  have hs12 : w.heap.size ≤ w1.heap.size := Nat.le_trans BG.bel.size hb1.size
  clear sa sb hs0 hs1 BG HGF
  have g1 : ¬ (ls.length : Int) < 1 := by omega
  have g2 : ¬ (ls.length : Int) > 10 := by omega
  have g3 : (ls.length : Int) - 1 = ((ls.length - 1 : Nat) : Int) := by omega
  have g4 : ((ls.length - 1 : Nat) : Int) < (ls.length : Int) := by omega
  have g5 : (0 : Int) < (ls.length : Int) := by omega
  generalize hkk : ls.length - 1 = kk at *
  have HKK := hide hkk
  clear hkk
  obtain ⟨c0, c1, _, _⟩ := hX2.two
  obtain ⟨f0, f1, _, _⟩ := hF2.two
  rw [hw2] at c0 c1 f0 f1 ca cb
  go_wp2_with fail
  go_quiet (fail)
  rw [← hw2]
  have hBq := bdrewN hB2 nq
  have hXq : BoxG (w2.drewN nq) w.heap.size n (.slice v1 v2 v3) := hX2
  have hRq : Blk (w2.drewN nq) (w.heap.size + 1) 28 [.int .i64 0, .int .i64 0] := hR2
  have hFq : Blk (w2.drewN nq) w1.heap.size 28 [.int .i64 0, .int .i64 0] := hF2
  clear c0 c1 f0 f1 ca cb hw2 hB2 hX2 hR2 hF2 hb1 hb2 g3 g4
  generalize w2.drewN nq = w3 at *
  go_wp2_with fail
  go_loopw [7] (fun iv wr => ∃ j : Nat, j ≤ k ∧ iv = .int .i64 j ∧ Below w3.heap.size w3 wr) (fun iv _ => ls.length - (intOf iv).toNat)
  case atStart => exact ⟨0, Nat.zero_le _, rfl, Below.refl _ _⟩
  case round =>
    obtain ⟨j, hj, rfl, hb⟩ := hrel
    have hBr := bcat2 hBq hb
    have hXr := blk_below hXq hb
    have hjl : j < ls.length := by omega
    have hji : (j : Int) < (ls.length : Int) := by omega
    obtain ⟨r1, r3, cr, sr⟩ := HROW.out j hjl
    have crw := below_cell hBq cr
    have HL1 := hide (fun W (h : Below w3.heap.size w3 W) => HLF.out W _ j (bcat2 hBq h) hjl (sr.below (bcat2 hBq h)))
    have HC1 := hide (fun (h0 : LC j = 0) W (h : Below w3.heap.size w3 W) => HCD.out W _ j (bcat2 hBq h) hjl h0 (sr.below (bcat2 hBq h)))
    obtain ⟨d0, d1, _, _⟩ := hXq.two
    clear cr sr
    generalize (ls[j]?.getD []).length = L9 at *
    have hS : ∀ W, Below w3.heap.size w3 W → (Below w3.heap.size w3 W ∧ W.cell? ⟨w.heap.size, 0, none⟩ = some (.int .i64 n) ∧ W.cell? ⟨w.heap.size, 1, none⟩ = some (.slice v1 v2 v3) ∧ W.cell? ⟨lb, lo + j, none⟩ = some (.slice r1 L9 r3)) := fun W h => ⟨h, below_cell h d0, below_cell h d1, below_cell h crw⟩
    have hS0 := hS _ (bdrew hb)
    clear crw d0 d1
    have hfld : ∀ (cc ii : Int) W, Sem.run Tryz.prog (Instr.field 28 (.agg #[.int .i64 cc, .int .i64 ii]) 0) W = .ok (.int .i64 cc) W := fun cc ii W => by kernel_rfl
    by_cases hlt : j < k
    · obtain ⟨e1, e2, e3⟩ := HGD.out j hlt
      have HC1 := hide (HC1.out e1)
      rw [e1, e2] at HL1
      rw [e3] at HC1
      have hfld := hfld 0 0
      clear e1 e2 e3
      go_wp2_with fail
      go_region_held3 (fun W => Below w3.heap.size w3 W ∧ W.cell? ⟨w.heap.size, 0, none⟩ = some (.int .i64 n) ∧ W.cell? ⟨w.heap.size, 1, none⟩ = some (.slice v1 v2 v3) ∧ W.cell? ⟨lb, lo + j, none⟩ = some (.slice r1 L9 r3))
        (first | exact hS0 | assumption | exact hS _ (bcat2 (And.left ‹_›) hl6) | exact hS _ (bcat2 (And.left ‹_›) hl5))
        (first
          | (go_at_call 28; refine (HL1.out _ (And.left ‹_›)).mono ?_; rintro e5 U5 ⟨rfl, hl5⟩; have hU5 := bcat2 (And.left ‹_›) hl5)
          | (go_at_call 29; refine (HC1.out _ (And.left ‹_›)).mono ?_; rintro e6 U6 ⟨rfl, hl6⟩; have hU6 := bcat2 (And.left ‹_›) hl6))
      all_goals (
        go_wp2
        go_roundw
        case rel => exact ⟨j + 1, by omega, by go_num, hU6⟩
        case measure => simp [intOf]; omega)
    · obtain rfl : j = k := by omega
      rcases HBD.out with hbd | ⟨e1, e2, e3⟩
      · obtain ⟨cc, hcc⟩ : ∃ cc, LC j = cc := ⟨_, rfl⟩
        obtain ⟨ii, hii⟩ : ∃ ii, LI j = ii := ⟨_, rfl⟩
        rw [hcc, hii] at HL1
        rw [hcc] at hbd
        have hcb : (cc != 0) = true := by simpa using hbd
        have hfld := hfld cc ii
        have hBc := bdrew hb
        clear HC1 hcc hii
        go_wp2_with fail
        refine wp_region_held_drew (S := fun W => Below w3.heap.size w3 W ∧ W.cell? ⟨w.heap.size, 0, none⟩ = some (.int .i64 n) ∧ W.cell? ⟨w.heap.size, 1, none⟩ = some (.slice v1 v2 v3) ∧ W.cell? ⟨lb, lo + j, none⟩ = some (.slice r1 L9 r3)) (by kernel_rfl) hS0 (fun hHeld => ?_)
        refine wpAnyH_take (i := 0) (oi := ({ dst := some 57, op := Go.Op.load 24 (Go.Operand.tmp 2), type := 24, pos := _, after := #[], guard := none } : Oper)) (v := ?_) rfl (by kernel_rfl) (by kernel_rfl) (by kernel_rfl) (fun _ _ _ h => h) (Or.inl ⟨by rfl, ?_⟩) (by assumption) ?_
        rotate_left
        · (intro w hSw; (try dsimp only at hSw); go_simp; try with_reducible rfl)
        simp only [Act.put, List.setIfInBounds_toArray, List.set_cons_zero, List.set_cons_succ]
        refine wpAnyH_take (i := 1) (oi := ({ dst := some 58, op := Go.Op.move (Go.Operand.tmp 1), type := 25, pos := _, after := #[], guard := none } : Oper)) (v := ?_) rfl (by kernel_rfl) (by kernel_rfl) (by kernel_rfl) (fun _ _ _ h => h) (Or.inl ⟨by rfl, ?_⟩) (by assumption) ?_
        rotate_left
        · (intro w hSw; (try dsimp only at hSw); go_simp; try with_reducible rfl)
        simp only [Act.put, List.setIfInBounds_toArray, List.set_cons_zero, List.set_cons_succ]
        refine wpAnyH_take (i := 2) (oi := ({ dst := some 59, op := Go.Op.move (Go.Operand.tmp 7), type := 3, pos := _, after := #[], guard := none } : Oper)) (v := ?_) rfl (by kernel_rfl) (by kernel_rfl) (by kernel_rfl) (fun _ _ _ h => h) (Or.inl ⟨by rfl, ?_⟩) (by assumption) ?_
        rotate_left
        · (intro w hSw; (try dsimp only at hSw); go_simp; try with_reducible rfl)
        simp only [Act.put, List.setIfInBounds_toArray, List.set_cons_zero, List.set_cons_succ]
        refine wpAnyH_take (i := 3) (oi := ({ dst := some 60, op := Go.Op.indexAddr 25 (Go.Operand.tmp 58) (Go.Operand.tmp 59), type := 0, pos := _, after := #[{ on := 1, ground := Go.Ground.data }, { on := 2, ground := Go.Ground.data }], guard := none } : Oper)) (v := ?_) rfl (by kernel_rfl) (by kernel_rfl) (by kernel_rfl) (fun _ _ _ h => h) (Or.inl ⟨by rfl, ?_⟩) (by assumption) ?_
        rotate_left
        · (intro w hSw; (try dsimp only at hSw); go_simp; try with_reducible rfl)
        simp only [Act.put, List.setIfInBounds_toArray, List.set_cons_zero, List.set_cons_succ]
        refine wpAnyH_take (i := 4) (oi := ({ dst := some 61, op := Go.Op.load 22 (Go.Operand.tmp 60), type := 22, pos := _, after := #[{ on := 3, ground := Go.Ground.data }], guard := none } : Oper)) (v := ?_) rfl (by kernel_rfl) (by kernel_rfl) (by kernel_rfl) (fun _ _ _ h => h) (Or.inl ⟨by rfl, ?_⟩) (by assumption) ?_
        rotate_left
        · (intro w hSw; (try dsimp only at hSw); go_simp; try with_reducible rfl)
        simp only [Act.put, List.setIfInBounds_toArray, List.set_cons_zero, List.set_cons_succ]
        refine wpAnyH_ready (rs := [5]) (by kernel_rfl) (by simp) (AllReadyH.cons (o := ({ dst := some 62, op := Go.Op.call { callee := Go.Callee.value (Go.Operand.func 28), args := #[Go.Operand.tmp 57, Go.Operand.tmp 61], argTypes := #[24, 22] }, type := 28, pos := _, after := #[{ on := 0, ground := Go.Ground.data }, { on := 4, ground := Go.Ground.data }], guard := none } : Oper)) rfl (fun KK hK => ?_) AllReadyH.nil)
        go_simp
        refine (HL1.out _ hBc).mono ?_
        rintro e5 U5 ⟨rfl, hl5⟩
        have hBc := bcat2 hBc hl5
        try go_wp2_with fail
        refine hK.out _ _ (hS _ hBc) (fun hHeld => ?_)
        clear hK
        try simp only [Act.put, List.setIfInBounds_toArray, List.set_cons_zero, List.set_cons_succ]
        refine wpAnyH_take (i := 6) (oi := ({ dst := some 63, op := Go.Op.field 28 (Go.Operand.tmp 62) 0, type := 3, pos := _, after := #[{ on := 5, ground := Go.Ground.data }], guard := none } : Oper)) (v := .int .i64 cc) rfl (by kernel_rfl) (by kernel_rfl) (by kernel_rfl) (fun _ _ _ h => h) (Or.inl ⟨by rfl, ?_⟩) (by assumption) ?_
        · (intro w hSw; (try dsimp only at hSw); go_simp; try (first | with_reducible rfl | exact hfld _ | (simp; done) | omega | (simp; omega)))
        simp only [Act.put, List.setIfInBounds_toArray, List.set_cons_zero, List.set_cons_succ]
        refine wpAnyH_take (i := 7) (oi := ({ dst := some 64, op := Go.Op.binOp Go.BinOp.neq 3 (Go.Operand.tmp 63) (Go.Operand.const (Go.Value.int Go.IntKind.i64 0)) 3, type := 4, pos := _, after := #[{ on := 6, ground := Go.Ground.data }], guard := none } : Oper)) (v := .bool true) rfl (by kernel_rfl) (by kernel_rfl) (by kernel_rfl) (fun _ _ _ h => h) (Or.inl ⟨by rfl, ?_⟩) (by assumption) ?_
        · (intro w hSw; (try dsimp only at hSw); go_simp; try (first | with_reducible rfl | (simp; done) | omega | (simp; omega)))
        simp only [Act.put, List.setIfInBounds_toArray, List.set_cons_zero, List.set_cons_succ]
        refine wpAnyH_take (i := 8) (oi := ({ dst := some 65, op := Go.Op.move (Go.Operand.tmp 64), type := 4, pos := _, after := #[{ on := 7, ground := Go.Ground.data }, { on := 5, ground := Go.Ground.chain }], guard := none } : Oper)) (v := .bool true) rfl (by kernel_rfl) (by kernel_rfl) (by kernel_rfl) (fun _ _ _ h => h) (Or.inl ⟨by rfl, ?_⟩) (by assumption) ?_
        · (intro w hSw; (try dsimp only at hSw); go_simp; try (first | with_reducible rfl | (simp; done) | omega | (simp; omega)))
        simp only [Act.put, List.setIfInBounds_toArray, List.set_cons_zero, List.set_cons_succ]
        refine wpAnyH_take (i := 9) (oi := ({ dst := some 66, op := Go.Op.load 24 (Go.Operand.tmp 2), type := 24, pos := _, after := #[{ on := 8, ground := Go.Ground.guard }], guard := some (8, false) } : Oper)) (v := undef) rfl (by kernel_rfl) (by kernel_rfl) (by kernel_rfl) (fun _ _ _ h => h) (Or.inr ⟨by rfl, rfl⟩) (by assumption) ?_
        simp only [Act.put, List.setIfInBounds_toArray, List.set_cons_zero, List.set_cons_succ]
        refine wpAnyH_take (i := 10) (oi := ({ dst := some 67, op := Go.Op.move (Go.Operand.tmp 1), type := 25, pos := _, after := #[{ on := 8, ground := Go.Ground.guard }], guard := some (8, false) } : Oper)) (v := undef) rfl (by kernel_rfl) (by kernel_rfl) (by kernel_rfl) (fun _ _ _ h => h) (Or.inr ⟨by rfl, rfl⟩) (by assumption) ?_
        simp only [Act.put, List.setIfInBounds_toArray, List.set_cons_zero, List.set_cons_succ]
        refine wpAnyH_take (i := 11) (oi := ({ dst := some 68, op := Go.Op.move (Go.Operand.tmp 7), type := 3, pos := _, after := #[{ on := 8, ground := Go.Ground.guard }], guard := some (8, false) } : Oper)) (v := undef) rfl (by kernel_rfl) (by kernel_rfl) (by kernel_rfl) (fun _ _ _ h => h) (Or.inr ⟨by rfl, rfl⟩) (by assumption) ?_
        simp only [Act.put, List.setIfInBounds_toArray, List.set_cons_zero, List.set_cons_succ]
        refine wpAnyH_take (i := 12) (oi := ({ dst := some 69, op := Go.Op.indexAddr 25 (Go.Operand.tmp 67) (Go.Operand.tmp 68), type := 0, pos := _, after := #[{ on := 10, ground := Go.Ground.data }, { on := 11, ground := Go.Ground.data }, { on := 8, ground := Go.Ground.guard }], guard := some (8, false) } : Oper)) (v := undef) rfl (by kernel_rfl) (by kernel_rfl) (by kernel_rfl) (fun _ _ _ h => h) (Or.inr ⟨by rfl, rfl⟩) (by assumption) ?_
        simp only [Act.put, List.setIfInBounds_toArray, List.set_cons_zero, List.set_cons_succ]
        refine wpAnyH_take (i := 13) (oi := ({ dst := some 70, op := Go.Op.load 22 (Go.Operand.tmp 69), type := 22, pos := _, after := #[{ on := 12, ground := Go.Ground.data }, { on := 8, ground := Go.Ground.guard }], guard := some (8, false) } : Oper)) (v := undef) rfl (by kernel_rfl) (by kernel_rfl) (by kernel_rfl) (fun _ _ _ h => h) (Or.inr ⟨by rfl, rfl⟩) (by assumption) ?_
        simp only [Act.put, List.setIfInBounds_toArray, List.set_cons_zero, List.set_cons_succ]
        refine wpAnyH_take (i := 14) (oi := ({ dst := some 71, op := Go.Op.call { callee := Go.Callee.value (Go.Operand.func 29), args := #[Go.Operand.tmp 66, Go.Operand.tmp 70], argTypes := #[24, 22] }, type := 4, pos := _, after := #[{ on := 9, ground := Go.Ground.data }, { on := 13, ground := Go.Ground.data }, { on := 8, ground := Go.Ground.chain }, { on := 8, ground := Go.Ground.guard }], guard := some (8, false) } : Oper)) (v := undef) rfl (by kernel_rfl) (by kernel_rfl) (by kernel_rfl) (fun _ _ _ h => h) (Or.inr ⟨by rfl, rfl⟩) (by assumption) ?_
        simp only [Act.put, List.setIfInBounds_toArray, List.set_cons_zero, List.set_cons_succ]
        refine wpAnyH_take (i := 15) (oi := ({ dst := some 72, op := Go.Op.unOp Go.UnOp.not 4 (Go.Operand.tmp 71), type := 4, pos := _, after := #[{ on := 14, ground := Go.Ground.data }, { on := 8, ground := Go.Ground.guard }], guard := some (8, false) } : Oper)) (v := undef) rfl (by kernel_rfl) (by kernel_rfl) (by kernel_rfl) (fun _ _ _ h => h) (Or.inr ⟨by rfl, rfl⟩) (by assumption) ?_
        simp only [Act.put, List.setIfInBounds_toArray, List.set_cons_zero, List.set_cons_succ]
        refine wpAnyH_take (i := 16) (oi := ({ dst := some 73, op := Go.Op.pick (Go.Operand.tmp 65) (Go.Operand.const (Go.Value.bool true)) (Go.Operand.tmp 72), type := 4, pos := _, after := #[{ on := 8, ground := Go.Ground.data }, { on := 15, ground := Go.Ground.data }], guard := none } : Oper)) (v := .bool true) rfl (by kernel_rfl) (by kernel_rfl) (by kernel_rfl) (fun _ _ _ h => h) (Or.inl ⟨by rfl, ?_⟩) (by assumption) ?_
        · (intro w hSw; (try dsimp only at hSw); go_simp; try (first | with_reducible rfl | (simp; done) | omega | (simp; omega)))
        simp only [Act.put, List.setIfInBounds_toArray, List.set_cons_zero, List.set_cons_succ]
        refine wpAnyH_done (by kernel_rfl) ?_ _
        have hB6 := bcat2 hBq hBc
        have hR6 := blk_below hRq hBc
        clear hS hS0
        go_wp2_with fail
        refine (f_any 5 j _).mono ?_
        rintro x wf ⟨rfl, hbf9⟩
        have hBf := bcat2 hB6 hbf9
        have hRf := blk_below hR6 hbf9
        obtain ⟨y0, y1, fy0, fy1⟩ := hRf.two
        go_wp2
        obtain ⟨W', hW, z0, z1, hB9⟩ := fo_end (c := 5) (i := (j : Int)) hRf hBf
        rw [hW]
        exact bodyPost_ret (v := .tuple #[.slice none 0 0, .agg #[.int .i64 5, .int .i64 j]]) (by simp [results, Tryz.results9, go_sem, z0, z1]) rfl ⟨rfl, hB9⟩
      · have HC1 := hide (HC1.out e1)
        rw [e1, e2] at HL1
        rw [e3] at HC1
        have hfld := hfld 0 0
        clear e1 e2 e3
        go_wp2_with fail
        go_region_held3 (fun W => Below w3.heap.size w3 W ∧ W.cell? ⟨w.heap.size, 0, none⟩ = some (.int .i64 n) ∧ W.cell? ⟨w.heap.size, 1, none⟩ = some (.slice v1 v2 v3) ∧ W.cell? ⟨lb, lo + j, none⟩ = some (.slice r1 L9 r3))
          (first | exact hS0 | assumption | exact hS _ (bcat2 (And.left ‹_›) hl6) | exact hS _ (bcat2 (And.left ‹_›) hl5))
          (first
            | (go_at_call 28; refine (HL1.out _ (And.left ‹_›)).mono ?_; rintro e5 U5 ⟨rfl, hl5⟩; have hU5 := bcat2 (And.left ‹_›) hl5)
            | (go_at_call 29; refine (HC1.out _ (And.left ‹_›)).mono ?_; rintro e6 U6 ⟨rfl, hl6⟩; have hU6 := bcat2 (And.left ‹_›) hl6))
        all_goals (
          have hB6 := bcat2 hBq hU6
          have hR6 := blk_below hRq hU6
          clear hS hS0
          go_wp2_with fail
          refine (f_any 5 j _).mono ?_
          rintro x wf ⟨rfl, hbf9⟩
          have hBf := bcat2 hB6 hbf9
          have hRf := blk_below hR6 hbf9
          obtain ⟨y0, y1, fy0, fy1⟩ := hRf.two
          go_wp2
          obtain ⟨W', hW, z0, z1, hB9⟩ := fo_end (c := 5) (i := (j : Int)) hRf hBf
          rw [hW]
          exact bodyPost_ret (v := .tuple #[.slice none 0 0, .agg #[.int .i64 5, .int .i64 j]]) (by simp [results, Tryz.results9, go_sem, z0, z1]) rfl ⟨rfl, hB9⟩)
end Go.Proofs.YtjiapicknkjhmaaGreatDoor
