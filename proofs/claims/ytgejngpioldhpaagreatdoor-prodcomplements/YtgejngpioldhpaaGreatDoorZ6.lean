/- Package prod: product, checkedEntry and strays. Condition: the library's table of places lies as its text lays it. Package prod: pairs, the table of a semidirect product. Package prod: checked, what is wrong with an act; its walk, what it calls as premises. Package prod: Semi; its walk, what it calls as premises. -/
import Derived.Test.YtgejngpioldhpaaGreatDoorZ5
import Derived.BigQuiet
import Derived.Deep.AppendLies
namespace Go.Proofs.YtgejngpioldhpaaGreatDoor
open Go Go.RowKit

set_option maxRecDepth 100000 in
set_option maxHeartbeats 4000000 in
theorem image_bad (N M : Int) (v y mv : Value) (zs ys ms : List Int) (w : World) (hv : Sl w v zs) (hy : Sl w y ys) (hm : Sl w mv ms) (hc : (hfault N zs M ys ms).1 ≠ 0) :
    Calls Tryz.prog 105 #[.agg #[.int .i64 N, v], .agg #[.int .i64 M, y], mv] w fun x w' => x = .returned (.tuple #[.slice none 0 0, .agg #[.int .i64 (hfault N zs M ys ms).1, .int .i64 (hfault N zs M ys ms).2]]) ∧ Below w.heap.size w w' := by
  obtain ⟨w0, BG⟩ := BegF.new w N M v y
  have HCK := hide (ow_all N M v y mv zs ys ms w0 (hv.below BG.bel) (hy.below BG.bel) (hm.below BG.bel))
  obtain ⟨c, i, hci⟩ : ∃ c i, hfault N zs M ys ms = (c, i) := ⟨_, _, rfl⟩
  rw [hci] at HCK hc ⊢
  simp only at HCK hc ⊢
  clear hci
  have hcb : (c != 0) = true := by simpa using hc
  obtain ⟨e0, e1, _, _⟩ := BG.box.two
  obtain ⟨k0, k1, _, _⟩ := BG.boy.two
  rw [BG.eq] at e0 e1 k0 k1
  go_enter Tryz.func105, Tryz.ntmps105
  go_wp2_with fail
  rw [← BG.eq]
  clear e0 e1 k0 k1
  refine HCK.out.mono ?_
  rintro x w1 ⟨p0, a0, b0, c0, p1, a1, b1, c1, p2, a2, b2, c2, p3, a3, b3, c3, rfl, hb1⟩
  obtain ⟨w2, hw2⟩ : ∃ w2, w2 = (w1.alloc (.cells #[.int .i64 p0, .slice a0 b0 c0, .int .i64 p1, .slice a1 b1 c1, .int .i64 p2, .slice a2 b2 c2, .int .i64 p3, .slice a3 b3 c3] 127)).alloc (.cells #[.int .i64 c, .int .i64 i] 27) := ⟨_, rfl⟩
  have hB1 : Below w0.heap.size w0 w2 := by rw [hw2]; exact bcat2 hb1 ((balloc w1 _).alloc (by simp) _)
  have hF1 : Blk w2 (w1.heap.size + 1) 27 [.int .i64 c, .int .i64 i] := by
    rw [hw2]
    have := blk0 (w := w1.alloc (.cells #[.int .i64 p0, .slice a0 b0 c0, .int .i64 p1, .slice a1 b1 c1, .int .i64 p2, .slice a2 b2 c2, .int .i64 p3, .slice a3 b3 c3] 127)) (T := 27) (.int .i64 c) (.int .i64 i)
    rwa [World.size_alloc] at this
  have hR1 := blk_below BG.res hB1
  have hBw := bcat BG.bel hB1 BG.bel.size
  subst hw2
  obtain ⟨y0, y1, fy0, fy1⟩ := hR1.two
  obtain ⟨t0, t1, _, _⟩ := hF1.two
  obtain ⟨hR6, hB6⟩ := put2 hR1 hBw (by omega) c i
  obtain ⟨z0, z1, _, _⟩ := hR6.two
  go_wp2
  go_region
  go_wp2
  exact bodyPost_ret (v := .tuple #[.slice none 0 0, .agg #[.int .i64 c, .int .i64 i]]) (by simp [results, Tryz.results105, go_sem, z0, z1]) rfl ⟨rfl, bdrew hB6⟩
set_option maxRecDepth 100000 in
set_option maxHeartbeats 1000000 in
theorem pprod_ok (n : Nat) (v : Value) (zs : List Int) (a b : Nat) (w : World) (ht : IsTab n zs) (hv : Sl w v zs) (ha : a < n) (hb : b < n) :
    Calls Tryz.prog 89 #[.agg #[.int .i64 n, v], .int .i64 a, .int .i64 b] w fun e w' => e = .returned (.int .i64 (tm n zs a b)) ∧ Below w.heap.size w w' := by
  have hlt := place_lt ha hb
  have hle := ht.le
  have hlen := ht.len
  have hn2 : n * n ≤ 60 * 60 := Nat.mul_le_mul hle hle
  have hg := tm_get ht ha hb
  have han : a * n ≤ 60 * 60 := Nat.mul_le_mul (by omega) (by omega)
  have hB0 : Below w.heap.size w (w.alloc (.cells #[.int .i64 n, v] 24)) := balloc w _
  have N0 : Blk (w.alloc (.cells #[.int .i64 n, v] 24)) w.heap.size 24 [.int .i64 n, v] := blk0 _ _
  obtain ⟨x, cap, pb, po, rfl, hr, hp, hq3, hq4⟩ := hv.below hB0
  obtain rfl := hr.at_ (by omega)
  have hc := hr.cell (a * n + b) (by omega)
  rw [hg] at hc
  obtain ⟨c0, c1, _, _⟩ := N0.two
  have hi : ((a * n + b : Nat) : Int) < (zs.length : Int) := by omega
  have hm : ((a : Int) * (n : Int)) = ((a * n : Nat) : Int) := by rw [Int.natCast_mul]
  have HLEN := hide hlen
  have HB0 := hide hB0
  generalize hk : a * n = k at *
  generalize tm n zs a b = r at *
  clear hlen hB0 hg hn2 hk
  go_enter Tryz.func89, Tryz.ntmps89
  go_wp2
  go_ret
  exact ⟨rfl, HB0.out⟩

/-- The code of what is wrong with a list as an automorphism. -/
def cent (n : Nat) (zs ms : List Int) : Int := if (hfault n zs n zs ms).1 ≠ 0 then (hfault n zs n zs ms).1 else if o1 n ms = true then 0 else 10
theorem lst_full' {n : Nat} {p : Nat → Bool} : (lst n p).length = n ↔ ∀ a, a < n → p a = true := by
  have h : (lst n p).length = (List.range n).length ↔ ∀ a, a ∈ List.range n → p a = true := List.length_filter_eq_length_iff
  rw [List.length_range] at h
  exact h.trans ⟨fun h a ha => h a (List.mem_range.2 ha), fun h a ha => h a (List.mem_range.1 ha)⟩
set_option maxRecDepth 100000 in
set_option maxHeartbeats 4000000 in
theorem centry_ok (n e : Nat) (v mv : Value) (zs ms : List Int) (w : World) (hv : Sl w v zs) (hg : IsGrp n zs e) (hm : Sl w mv ms) (hT : Tab w) :
    Calls Tryz.prog 87 #[.agg #[.int .i64 n, v], mv] w fun x w' => x = .returned (.int .i64 (cent n zs ms)) ∧ Below w.heap.size w w' := by
  have hn := hg.tab.le
  have hB0 : Below w.heap.size w (w.alloc (.cells #[.int .i64 n, v] 24)) := balloc w _
  have hX0 : BoxG (w.alloc (.cells #[.int .i64 n, v] 24)) w.heap.size n v := blk0 (w := w) (T := 24) _ _
  obtain ⟨w0, hw0⟩ : ∃ w0, w0 = w.alloc (.cells #[.int .i64 n, v] 24) := ⟨_, rfl⟩
  rw [← hw0] at hB0 hX0
  obtain ⟨c0, c1, _, _⟩ := hX0.two
  rw [hw0] at c0 c1
  by_cases hc : (hfault n zs n zs ms).1 = 0
  · obtain ⟨h00, hl, φ, hφ, hms⟩ := hom_of hg hg hc
    obtain ⟨xs, hxs⟩ : ∃ xs, xs = (List.range n).map φ := ⟨_, rfl⟩
    rw [← hxs] at hms
    have hxl : xs.length = n := by rw [hxs]; simp
    have hx : ∀ x, x ∈ xs → x < n := fun x hx => by
      rw [hxs] at hx
      obtain ⟨a, ha, rfl⟩ := List.mem_map.1 hx
      exact hφ.lt a (List.mem_range.1 ha)
    rw [hms] at hm h00
    have HIM := hide (image_good n n v v mv zs zs xs w0 (hv.below hB0) (hv.below hB0) (hm.below hB0) (hT.below hB0) hn hx (by omega) h00)
    have hcent : cent n zs ms = if (lst n fun a => decide (a ∈ xs)).length < n then 10 else 0 := by
      unfold cent
      rw [if_neg (by simpa using hc)]
      have hle := lst_len n fun a => decide (a ∈ xs)
      by_cases ho : o1 n ms = true
      · rw [if_pos ho, if_neg (by
          have := lst_full'.2 (fun a ha => decide_eq_true (by
            have := o1_iff.1 ho a ha
            rw [hms] at this
            exact mem_li.1 this) : ∀ a, a < n → (fun a => decide (a ∈ xs)) a = true)
          omega)]
      · rw [if_neg ho, if_pos (by
          have h9 : (lst n fun a => decide (a ∈ xs)).length ≠ n := fun h => ho (o1_iff.2 fun a ha => by
            rw [hms]
            exact mem_li.2 (of_decide_eq_true (lst_full'.1 h a ha)))
          omega)]
    rw [hcent]
    clear hcent hxs hms hφ hx
    generalize (fun a => decide (a ∈ xs)) = p at *
    obtain ⟨R, hR⟩ : ∃ R : Int, (if (lst n p).length < n then (10 : Int) else 0) = R := ⟨_, rfl⟩
    have HR := hide hR
    rw [hR]
    clear hR
    go_enter Tryz.func87, Tryz.ntmps87
    go_wp2_with fail
    rw [← hw0]
    clear c0 c1 hw0
    refine HIM.out.mono ?_
    rintro x w1 ⟨r1, r2, r3, rfl, hr, hb1⟩
    obtain ⟨_, _, _, _, he, _⟩ := hr
    injection he with _ he2 _
    subst he2
    rw [li_len]
    obtain ⟨w2, hw2⟩ : ∃ w2, w2 = w1.alloc (.cells #[.int .i64 0, .int .i64 0] 27) := ⟨_, rfl⟩
    have hb2 : Below w1.heap.size w1 w2 := by rw [hw2]; exact balloc w1 _
    have hF2 : Blk w2 w1.heap.size 27 [.int .i64 0, .int .i64 0] := by rw [hw2]; exact blk0 _ _
    have hX2 := blk_below hX0 (bcat2 hb1 hb2)
    have hB2 := bcat2 hB0 (bcat2 hb1 hb2)
    obtain ⟨t0, t1, _, _⟩ := hF2.two
    obtain ⟨c0, c1, _, _⟩ := hX2.two
    rw [hw2] at t0 t1 c0 c1
    generalize (lst n p).length = L at *
    by_cases hlt : L < n
    · have hlti : (L : Int) < (n : Int) := by omega
      have HR9 := hide (show R = 10 by have := HR.out; rw [if_pos hlt] at this; exact this.symm)
      go_wp2
      rw [← hw2]
      go_ret
      exact ⟨by simp [HR9.out], hB2⟩
    · have hlti : ¬ (L : Int) < (n : Int) := by omega
      have HR9 := hide (show R = 0 by have := HR.out; rw [if_neg hlt] at this; exact this.symm)
      go_wp2
      rw [← hw2]
      go_ret
      exact ⟨by simp [HR9.out], hB2⟩
  · have HIM := hide (image_bad n n v v mv zs zs ms w0 (hv.below hB0) (hv.below hB0) (hm.below hB0) hc)
    unfold cent
    rw [if_pos hc]
    obtain ⟨c, i, hci⟩ : ∃ c i, hfault n zs n zs ms = (c, i) := ⟨_, _, rfl⟩
    rw [hci] at HIM hc ⊢
    simp only at HIM hc ⊢
    clear hci
    have hcb : (c != 0) = true := by simpa using hc
    go_enter Tryz.func87, Tryz.ntmps87
    go_wp2_with fail
    rw [← hw0]
    clear c0 c1 hw0
    refine HIM.out.mono ?_
    rintro x w1 ⟨rfl, hb1⟩
    obtain ⟨w2, hw2⟩ : ∃ w2, w2 = w1.alloc (.cells #[.int .i64 c, .int .i64 i] 27) := ⟨_, rfl⟩
    have hb2 : Below w1.heap.size w1 w2 := by rw [hw2]; exact balloc w1 _
    have hF2 : Blk w2 w1.heap.size 27 [.int .i64 c, .int .i64 i] := by rw [hw2]; exact blk0 _ _
    have hB2 := bcat2 hB0 (bcat2 hb1 hb2)
    obtain ⟨t0, t1, _, _⟩ := hF2.two
    rw [hw2] at t0 t1
    go_wp2
    rw [← hw2]
    go_ret
    exact ⟨rfl, hB2⟩
/-- How an act reads: as many lists as h has things, each a map of n's things. -/
structure ActR (w : World) (lv : Value) (ls : List (List Int)) (m n : Nat) (φ : Nat → Nat → Nat) : Prop where
  sl : SlL w lv ls
  len : ls.length = m
  row : ∀ i, i < m → ls[i]?.getD [] = li ((List.range n).map (φ i))
  lt : ∀ i y, i < m → y < n → φ i y < n
theorem ActR.below {w w' : World} {lv : Value} {ls : List (List Int)} {m n : Nat} {φ : Nat → Nat → Nat} (h : ActR w lv ls m n φ) (hb : Below w.heap.size w w') : ActR w' lv ls m n φ := ⟨h.sl.below hb, h.len, h.row, h.lt⟩
/-- Its cells. -/
theorem ActR.cells {w : World} {lv : Value} {ls : List (List Int)} {m n : Nat} {φ : Nat → Nat → Nat} (h : ActR w lv ls m n φ) (hm : 1 ≤ m) (hn : 1 ≤ n) : ∃ lb lo lc, lv = .slice (some ⟨lb, lo, none⟩) m lc ∧
    ∀ i, i < m → ∃ rb ro rc, w.cell? ⟨lb, lo + i, none⟩ = some (.slice (some ⟨rb, ro, none⟩) n rc) ∧ ∀ y, y < n → w.cell? ⟨rb, ro + y, none⟩ = some (.int .i64 (φ i y)) := by
  obtain ⟨la, lc, lb, lo, rfl, h1, h2, h3, _, _⟩ := h.sl
  have hl := h.len
  obtain rfl := h1 (by omega)
  refine ⟨lb, lo, lc, by rw [hl], fun i hi => ?_⟩
  obtain ⟨r1, r3, hc, hs⟩ := row_at h2 (show i < ls.length by omega)
  rw [h.row i hi, li_len, List.length_map, List.length_range] at hc hs
  obtain ⟨a, cap, pb, po, he, hr, _, _, _⟩ := hs
  injection he with he1 _ he3
  subst he1 he3
  obtain rfl := hr.at_ (by simp [li]; omega)
  refine ⟨pb, po, _, hc, fun y hy => ?_⟩
  rw [hr.cell y (by simp [li]; omega)]
  simp [li, hy]
/-- Is there a b so that the map of a b is not that of b and then that of a? -/
def pstr (m : Nat) (ys : List Int) (n : Nat) (φ : Nat → Nat → Nat) (a : Nat) : Bool := (List.range m).any fun b => (List.range n).any fun y => decide (φ (tm m ys a b) y ≠ φ a (φ b y))
theorem pstr_yes {m : Nat} {ys : List Int} {n : Nat} {φ : Nat → Nat → Nat} {a b y : Nat} (hb : b < m) (hy : y < n) (h : φ (tm m ys a b) y ≠ φ a (φ b y)) : pstr m ys n φ a = true :=
  List.any_eq_true.2 ⟨b, List.mem_range.2 hb, List.any_eq_true.2 ⟨y, List.mem_range.2 hy, decide_eq_true h⟩⟩
theorem pstr_no {m : Nat} {ys : List Int} {n : Nat} {φ : Nat → Nat → Nat} {a : Nat} : pstr m ys n φ a = false ↔ ∀ b y, b < m → y < n → φ (tm m ys a b) y = φ a (φ b y) := by
  constructor
  · intro h b y hb hy
    refine Classical.byContradiction fun h9 => ?_
    rw [pstr_yes hb hy h9] at h
    cases h
  · intro h
    cases h9 : pstr m ys n φ a with
    | false => rfl
    | true =>
      obtain ⟨b, hb, h8⟩ := List.any_eq_true.1 h9
      obtain ⟨y, hy, h7⟩ := List.any_eq_true.1 h8
      exact absurd (h b y (List.mem_range.1 hb) (List.mem_range.1 hy)) (of_decide_eq_true h7)
set_option maxRecDepth 100000 in
set_option maxHeartbeats 8000000 in
theorem pstr_ok (m d n a : Nat) (v lv : Value) (ys : List Int) (ls : List (List Int)) (φ : Nat → Nat → Nat) (w : World) (hh : IsGrp m ys d) (hv : Sl w v ys) (hA : ActR w lv ls m n φ) (hn1 : 1 ≤ n) (hn : n ≤ 60) (ha : a < m) :
    Calls Tryz.prog 88 #[.agg #[.int .i64 m, v], lv, .int .i64 a] w fun x w' => x = .returned (.bool (pstr m ys n φ a)) ∧ Below w.heap.size w w' := by
  have hm := hh.tab.le
  have HLT := hide hA.lt
  obtain ⟨lb, lo, lc, rfl, hrow⟩ := hA.cells (by omega) hn1
  have HROW := hide hrow
  have HYES := hide (fun b y hb hy h => pstr_yes (m := m) (ys := ys) (n := n) (φ := φ) (a := a) (b := b) (y := y) hb hy h)
  have HNO := hide (pstr_no (m := m) (ys := ys) (n := n) (φ := φ) (a := a)).2
  have hB0 : Below w.heap.size w (w.alloc (.cells #[.int .i64 m, v] 24)) := balloc w _
  have hX0 : BoxG (w.alloc (.cells #[.int .i64 m, v] 24)) w.heap.size m v := blk0 (w := w) (T := 24) _ _
  obtain ⟨w0, hw0⟩ : ∃ w0, w0 = w.alloc (.cells #[.int .i64 m, v] 24) := ⟨_, rfl⟩
  rw [← hw0] at hB0 hX0
  obtain ⟨c0, c1, _, _⟩ := hX0.two
  rw [hw0] at c0 c1
  have HCL := hide (fun b (hb : b < m) => tm_lt hh.tab ha hb)
  have HPR := hide (fun W b (h : Below w.heap.size w W) (hb : b < m) => pprod_ok m v ys a b W hh.tab (hv.below h) ha hb)
  generalize pstr m ys n φ a = R at *
  clear hrow hv hA hh
  have haim : (a : Int) < (m : Int) := by omega
  go_enter Tryz.func88, Tryz.ntmps88
  go_wp2_with fail
  rw [← hw0]
  clear c0 c1 hw0
  go_loopw [12] (fun iv wr => ∃ b : Nat, b ≤ m ∧ iv = .int .i64 b ∧ (∀ b' y, b' < b → y < n → φ (tm m ys a b') y = φ a (φ b' y)) ∧ Below w0.heap.size w0 wr) (fun iv _ => m - (intOf iv).toNat)
  case atStart => exact ⟨0, Nat.zero_le _, rfl, fun b' y h => by omega, Below.refl _ _⟩
  case round =>
    obtain ⟨b, hbm, rfl, hall, hb⟩ := hrel
    have HALL := hide hall
    clear hall
    have hBr := bcat2 hB0 hb
    by_cases hlt : b < m
    · have hbi : (b : Int) < (m : Int) := by omega
      have hXr := blk_below hX0 hb
      obtain ⟨c0, c1, _, _⟩ := hXr.two
      have HP1 := hide (HPR.out wr b hBr hlt)
      have hcm := HCL.out b hlt
      obtain ⟨cb, co, cc, hcc, hcell⟩ := HROW.out (tm m ys a b) hcm
      have HCC := hide hcell
      obtain ⟨bb, bo, bc, hcb, hcell⟩ := HROW.out b hlt
      have HCB := hide hcell
      obtain ⟨ab, ao, ac, hca, hcell⟩ := HROW.out a ha
      have HCA := hide hcell
      have HYS := hide (fun y (hy : y < n) h => HYES.out b y hlt hy h)
      have HLB := hide (fun y => HLT.out b y hlt)
      have HSTEP := hide (show (∀ y, y < n → φ (tm m ys a b) y = φ a (φ b y)) → ∀ b' y, b' < b + 1 → y < n → φ (tm m ys a b') y = φ a (φ b' y) from fun h b' y h1 h2 => by
        by_cases e : b' = b
        · subst e; exact h y h2
        · exact HALL.out b' y (by omega) h2)
      clear hcell
      generalize tm m ys a b = c9 at *
      have hci : (c9 : Int) < (m : Int) := by omega
      go_wp2_with fail
      clear c0 c1
      refine HP1.out.mono ?_
      rintro x w2 ⟨rfl, hb2⟩
      have hB2 := bcat2 hBr hb2
      have hb02 := bcat2 hb hb2
      have hcc2 := below_cell hB2 hcc
      go_wp2_with fail
      clear hcc2
      go_loopw [23] (fun iv wr => ∃ y : Nat, y ≤ n ∧ iv = .int .i64 y ∧ (∀ y', y' < y → φ c9 y' = φ a (φ b y')) ∧ Below w2.heap.size w2 wr) (fun iv _ => n - (intOf iv).toNat)
      case atStart => exact ⟨0, Nat.zero_le _, rfl, fun y' h => by omega, Below.refl _ _⟩
      case round =>
        obtain ⟨y, hyn, rfl, hally, hb3⟩ := hrel
        have HALY := hide hally
        clear hally
        have hB3 := bcat2 hB2 hb3
        by_cases hlty : y < n
        · have hyi : (y : Int) < (n : Int) := by omega
          have hfl := HLB.out y hlty
          have hfi : ((φ b y : Nat) : Int) < (n : Int) := by omega
          have k1 := below_cell hB3 (HCC.out y hlty)
          have k2 := below_cell hB3 hca
          have k3 := below_cell hB3 hcb
          have k4 := below_cell hB3 (HCB.out y hlty)
          have k5 := below_cell hB3 (HCA.out (φ b y) hfl)
          by_cases heq : φ c9 y = φ a (φ b y)
          · have HEQ := hide heq
            have HN := hide (show ∀ y', y' < y + 1 → φ c9 y' = φ a (φ b y') from fun y' h => by
              by_cases e : y' = y
              · subst e; exact HEQ.out
              · exact HALY.out y' (by omega))
            rw [← heq] at k5
            clear heq
            generalize φ c9 y = f1 at *
            generalize φ b y = f2 at *
            have hne9 : (((f1 : Nat) : Int) != ((f1 : Nat) : Int)) = false := by simp
            go_wp2_with fail
            go_quiet (fail)
            have hb4 := bdrewN hb3 nq
            clear k1 k2 k3 k4 k5
            go_wp2_with fail
            go_roundw
            case rel => exact ⟨y + 1, by omega, by go_num, HN.out, hb4⟩
            case measure => simp [intOf]; omega
          · have HR := hide (HYS.out y hlty heq)
            have hne9 : (((φ c9 y : Nat) : Int) != ((φ a (φ b y) : Nat) : Int)) = true := by
              have : ¬ ((φ c9 y : Nat) : Int) = ((φ a (φ b y) : Nat) : Int) := by omega
              simpa using this
            clear heq
            generalize φ a (φ b y) = f3 at *
            generalize φ c9 y = f1 at *
            generalize φ b y = f2 at *
            go_wp2_with fail
            go_quiet (fail)
            have hb4 := bdrewN hB3 nq
            go_wp2
            go_ret
            exact ⟨by simp [HR.out], hb4⟩
        · have hyi : ¬ (y : Int) < (n : Int) := by omega
          have HN := hide (HSTEP.out fun y' hy' => HALY.out y' (by omega))
          have hb5 := bcat2 hb02 hb3
          go_wp2_with fail
          go_roundw
          case rel => exact ⟨b + 1, by omega, by go_num, HN.out, hb5⟩
          case measure => simp [intOf]; omega
    · have hbi : ¬ (b : Int) < (m : Int) := by omega
      have HR := hide (HNO.out fun b' y h1 h2 => HALL.out b' y (by omega) h2)
      go_wp2
      go_ret
      exact ⟨by simp [HR.out], hBr⟩
end Go.Proofs.YtgejngpioldhpaaGreatDoor

namespace Go.Proofs.YtgejngpioldhpaaGreatDoor
open Go Go.RowKit

/-- A product of pairs. -/
def semF (n : Nat) (zs : List Int) (m : Nat) (ys : List Int) (φ : Nat → Nat → Nat) (i k : Nat) : Nat := tm n zs (i / m) (φ (i % m) (k / m)) * m + tm m ys (i % m) (k % m)
def semT (n : Nat) (zs : List Int) (m : Nat) (ys : List Int) (φ : Nat → Nat → Nat) : List Int := mkT (n * m) (semF n zs m ys φ)
theorem sem_get {n m i k : Nat} {zs ys : List Int} {φ : Nat → Nat → Nat} (hi : i < n * m) (hk : k < n * m) : (semT n zs m ys φ)[i * (n * m) + k]?.getD 0 = ((semF n zs m ys φ i k : Nat) : Int) := by
  obtain ⟨e1, e2⟩ := dm' (a := i) hk
  unfold semT
  rw [mkT_get (place_lt hi hk), e1, e2]
theorem low_cell {B : Nat} {a b : World} (h : Below B a b) {p : Addr} {v : Value} (hp : p.block < B) (hc : a.cell? p = some v) : b.cell? p = some v := (World.cell?_of_block (h.block p.block hp)).trans hc
theorem semi_parts {n m i : Nat} (hm : 1 ≤ m) (hi : i < n * m) : i / m < n ∧ i % m < m := ⟨(Nat.div_lt_iff_lt_mul (by omega)).2 hi, Nat.mod_lt _ (by omega)⟩
set_option maxRecDepth 100000 in
set_option maxHeartbeats 16000000 in
theorem pairs_ok (n e m d : Nat) (v1 : Option Addr) (v2 v3 : Nat) (y1 : Option Addr) (y2 y3 : Nat) (lv : Value) (zs ys : List Int) (ls : List (List Int)) (φ : Nat → Nat → Nat) (w : World) (hg : IsGrp n zs e) (hh : IsGrp m ys d) (hv : Sl w (.slice v1 v2 v3) zs) (hy : Sl w (.slice y1 y2 y3) ys) (hA : ActR w lv ls m n φ) (hnm : n * m ≤ 60) (hn1 : 1 ≤ n) (hm1 : 1 ≤ m) :
    Calls Tryz.prog 61 #[.agg #[.int .i64 n, .slice v1 v2 v3], .agg #[.int .i64 m, .slice y1 y2 y3], lv] w fun x w' => ∃ r, x = .returned (.agg #[.int .i64 ((n * m : Nat) : Int), r]) ∧ Row w' w.heap.size r (semT n zs m ys φ) ∧ Below w.heap.size w w' := by
  obtain ⟨i0, hi, hz0, hz1, hz2⟩ := info_parts info3b
  have hm := hh.tab.le
  have HLT := hide hA.lt
  obtain ⟨lb, lo, lc, rfl, hrow⟩ := hA.cells hm1 hn1
  have HROW := hide hrow
  obtain ⟨N, hN⟩ : ∃ N, N = n * m := ⟨_, rfl⟩
  obtain ⟨T, hT⟩ : ∃ T, T = semT n zs m ys φ := ⟨_, rfl⟩
  have HTL := hide (show T.length = N * N by rw [hT, hN]; exact mkT_len _ _)
  have HTG := hide (fun i k (hi : i < N) (hk : k < N) => show T[i * N + k]?.getD 0 = ((semF n zs m ys φ i k : Nat) : Int) by rw [hT, hN]; exact sem_get (by rw [← hN]; exact hi) (by rw [← hN]; exact hk))
  have HPT := hide (fun i (hi : i < N) => semi_parts (n := n) (i := i) hm1 (by rw [← hN]; exact hi))
  have HPN := hide (fun W a b (h : Below w.heap.size w W) (ha : a < n) (hb : b < n) => pprod_ok n (.slice v1 v2 v3) zs a b W hg.tab (hv.below h) ha hb)
  have HPM := hide (fun W a b (h : Below w.heap.size w W) (ha : a < m) (hb : b < m) => pprod_ok m (.slice y1 y2 y3) ys a b W hh.tab (hy.below h) ha hb)
  have HTN := hide (fun a b (ha : a < n) (hb : b < n) => tm_lt hg.tab ha hb)
  have HTM := hide (fun a b (ha : a < m) (hb : b < m) => tm_lt hh.tab ha hb)
  rw [← hT, ← hN]
  have hnmi : (n : Int) * (m : Int) = ((N : Nat) : Int) := by rw [hN, Int.natCast_mul]
  rw [← hN] at hnm
  have hwN : IntKind.i64.wrap ((N : Nat) : Int) = ((N : Nat) : Int) := by rw [IntKind.wrap_i64]; omega
  have hn60 := hg.tab.le
  have HNN := hide (show N * N ≤ 3600 from Nat.mul_le_mul hnm hnm)
  have HNM := hide hN
  clear hT hN hrow hA hg hh hv hy
  have hm0 : ¬ m = 0 := by omega
  have hm0i : ¬ (m : Int) = 0 := by omega
  obtain ⟨w0, hw0⟩ : ∃ w0, w0 = (((w.alloc (.cells #[.int .i64 n, .slice v1 v2 v3] 24)).alloc (.cells #[.int .i64 m, .slice y1 y2 y3] 24)).alloc (.cells #[.int .i64 0, .slice none 0 0] 24)).alloc (.cells #[.int .i64 N, .slice none 0 0] 24) := ⟨_, rfl⟩
  have hB0 : Below w.heap.size w w0 := by rw [hw0]; exact (((balloc w _).alloc (by simp) _).alloc (by simp; omega) _).alloc (by simp; omega) _
  have hX0 : BoxG w0 w.heap.size n (.slice v1 v2 v3) := by rw [hw0]; exact (((blk0 (w := w) (T := 24) _ _).alloc _).alloc _).alloc _
  have hY0 : BoxG w0 (w.heap.size + 1) m (.slice y1 y2 y3) := by
    rw [hw0]
    have := ((blk0 (w := w.alloc (.cells #[.int .i64 n, .slice v1 v2 v3] 24)) (T := 24) (.int .i64 m) (.slice y1 y2 y3)).alloc (.cells #[.int .i64 0, .slice none 0 0] 24)).alloc (.cells #[.int .i64 N, .slice none 0 0] 24)
    rwa [World.size_alloc] at this
  have hR0 : Blk w0 (w.heap.size + 1 + 1) 24 [.int .i64 0, .slice none 0 0] := by
    rw [hw0]
    have := (blk0 (w := (w.alloc (.cells #[.int .i64 n, .slice v1 v2 v3] 24)).alloc (.cells #[.int .i64 m, .slice y1 y2 y3] 24)) (T := 24) (.int .i64 0) (.slice none 0 0)).alloc (.cells #[.int .i64 N, .slice none 0 0] 24)
    rwa [World.size_alloc, World.size_alloc] at this
  have hG0 : Blk w0 (w.heap.size + 1 + 1 + 1) 24 [.int .i64 N, .slice none 0 0] := by
    rw [hw0]
    have := blk0 (w := ((w.alloc (.cells #[.int .i64 n, .slice v1 v2 v3] 24)).alloc (.cells #[.int .i64 m, .slice y1 y2 y3] 24)).alloc (.cells #[.int .i64 0, .slice none 0 0] 24)) (T := 24) (.int .i64 N) (.slice none 0 0)
    rwa [World.size_alloc, World.size_alloc, World.size_alloc] at this
  have hsz0 : w0.heap.size = w.heap.size + 1 + 1 + 1 + 1 := by rw [hw0]; simp
  have HSZ0 := hide hsz0
  clear hsz0
  have hBw : ∀ W, Below (w.heap.size + 1 + 1) w0 W → Below w.heap.size w W := fun W h => hB0.trans (h.mono (by omega))
  obtain ⟨g0, g1, _, _⟩ := hG0.two
  go_enter Tryz.func61, Tryz.ntmps61
  go_wp2_with fail
  rw [hw0] at g0 g1
  rw [← hw0]
  clear g0 g1
  go_loopw [22] (fun iv wr => ∃ (i : Nat) (r : Value), i ≤ N ∧ iv = .int .i64 i ∧ Row wr (w.heap.size + 1 + 1 + 1 + 1) r (T.take (i * N)) ∧ Blk wr (w.heap.size + 1 + 1) 24 [.int .i64 0, .slice none 0 0] ∧ Blk wr (w.heap.size + 1 + 1 + 1) 24 [.int .i64 N, r] ∧ Below (w.heap.size + 1 + 1) w0 wr) (fun iv _ => N - (intOf iv).toNat)
  case atStart => exact ⟨0, .slice none 0 0, by omega, rfl, by simpa using nil_row _ _, hR0, hG0, Below.refl _ _⟩
  case round =>
    obtain ⟨i, r, hiN, rfl, hrow, hR, hX, hB⟩ := hrel
    by_cases hlti : i < N
    · have hii : (i : Int) < (N : Int) := by omega
      obtain ⟨hxn, ham⟩ := HPT.out i hlti
      have hqx : Int.tdiv (i : Int) (m : Int) = ((i / m : Nat) : Int) := by rw [Int.tdiv_eq_ediv_of_nonneg (by omega), Int.natCast_ediv]
      have hqa : Int.tmod (i : Int) (m : Int) = ((i % m : Nat) : Int) := by rw [Int.tmod_eq_emod_of_nonneg (by omega), Int.natCast_emod]
      have hY1 : Blk wr (w.heap.size + 1) 24 [.int .i64 m, .slice y1 y2 y3] := hY0.of_eq (hB.block _ (by omega))
      obtain ⟨h0, h1, _, _⟩ := hY1.two
      obtain ⟨x0, x1, _, _⟩ := hX.two
      have HG1 := hide (fun k => HTG.out i k hlti)
      have HSF := hide (fun k => show semF n zs m ys φ i k = tm n zs (i / m) (φ (i % m) (k / m)) * m + tm m ys (i % m) (k % m) from rfl)
      generalize i / m = x at *
      generalize i % m = a at *
      have hwx : IntKind.i64.wrap (x : Int) = (x : Int) := by rw [IntKind.wrap_i64]; omega
      have hwa : IntKind.i64.wrap (a : Int) = (a : Int) := by rw [IntKind.wrap_i64]; omega
      go_wp2_with fail
      go_quiet (fail)
      have hB1 : Below (w.heap.size + 1 + 1) w0 (wr.drewN nq) := bdrewN hB nq
      have hR1 : Blk (wr.drewN nq) (w.heap.size + 1 + 1) 24 [.int .i64 0, .slice none 0 0] := hR
      have hX1 : Blk (wr.drewN nq) (w.heap.size + 1 + 1 + 1) 24 [.int .i64 N, r] := hX
      have hrow1 : Row (wr.drewN nq) (w.heap.size + 1 + 1 + 1 + 1) r (T.take (i * N)) := own_keep2 hrow (fun _ _ _ => rfl)
      clear h0 h1 x0 x1 hqx hqa hwx hwa hY1 hrow hR hX hB
      generalize wr.drewN nq = wq at *
      obtain ⟨x0, x1, _, _⟩ := hX1.two
      go_wp2_with fail
      clear x0 x1
      go_loopw [35] (fun iv wr => ∃ (k : Nat) (r : Value), k ≤ N ∧ iv = .int .i64 k ∧ Row wr (w.heap.size + 1 + 1 + 1 + 1) r (T.take (i * N + k)) ∧ Blk wr (w.heap.size + 1 + 1) 24 [.int .i64 0, .slice none 0 0] ∧ Blk wr (w.heap.size + 1 + 1 + 1) 24 [.int .i64 N, r] ∧ Below (w.heap.size + 1 + 1) w0 wr) (fun iv _ => N - (intOf iv).toNat)
      case atStart => exact ⟨0, r, by omega, rfl, hrow1, hR1, hX1, hB1⟩
      case round =>
        obtain ⟨k, r', hkN, rfl, hrow', hR', hX', hB'⟩ := hrel
        clear hrow1 hR1 hX1 hB1
        by_cases hltk : k < N
        · have hki : (k : Int) < (N : Int) := by omega
          obtain ⟨hyn, hbm⟩ := HPT.out k hltk
          have hqx : Int.tdiv (k : Int) (m : Int) = ((k / m : Nat) : Int) := by rw [Int.tdiv_eq_ediv_of_nonneg (by omega), Int.natCast_ediv]
          have hqa : Int.tmod (k : Int) (m : Int) = ((k % m : Nat) : Int) := by rw [Int.tmod_eq_emod_of_nonneg (by omega), Int.natCast_emod]
          have hY1 : Blk wr (w.heap.size + 1) 24 [.int .i64 m, .slice y1 y2 y3] := hY0.of_eq (hB'.block _ (by omega))
          obtain ⟨h0, h1, _, _⟩ := hY1.two
          have HV := hide (show T[i * N + k]?.getD 0 = ((tm n zs x (φ a (k / m)) * m + tm m ys a (k % m) : Nat) : Int) by rw [HG1.out k hltk, HSF.out k])
          obtain ⟨y, hyk⟩ : ∃ y, y = k / m := ⟨_, rfl⟩
          obtain ⟨b, hbk⟩ : ∃ b, b = k % m := ⟨_, rfl⟩
          rw [← hyk] at hyn hqx HV
          rw [← hbk] at hbm hqa HV
          clear hyk hbk
          have hwx : IntKind.i64.wrap (y : Int) = (y : Int) := by rw [IntKind.wrap_i64]; omega
          have hwa : IntKind.i64.wrap (b : Int) = (b : Int) := by rw [IntKind.wrap_i64]; omega
          obtain ⟨rb, ro, rc, hca, hcell⟩ := HROW.out a ham
          have hcy := hcell y hyn
          have hfn := HLT.out a y ham hyn
          have hlbl : lb < w.heap.size := World.block_lt_of_cell? w ⟨lb, lo + a, none⟩ hca
          have hrbl : rb < w.heap.size := World.block_lt_of_cell? w ⟨rb, ro + y, none⟩ hcy
          have hca0 := below_cell hB0 hca
          have hcy0 := below_cell hB0 hcy
          clear hca hcy hcell
          have hp9 := HTN.out x (φ a y) hxn hfn
          have hs9 := HTM.out a b ham hbm
          have HP1 := hide (fun W (h : Below wr.heap.size wr W) => HPN.out W x (φ a y) (hBw W (bcat hB' h (by have := hB'.size; have := HSZ0.out; omega))) hxn hfn)
          have HP2 := hide (fun W (h : Below wr.heap.size wr W) => HPM.out W a b (hBw W (bcat hB' h (by have := hB'.size; have := HSZ0.out; omega))) ham hbm)
          generalize tm n zs x (φ a y) = p9 at *
          generalize tm m ys a b = s9 at *
          generalize φ a y = f9 at *
          obtain ⟨u9, hu9⟩ : ∃ u9, u9 = p9 * m := ⟨_, rfl⟩
          have hu9b : u9 ≤ 3600 := by rw [hu9]; exact Nat.mul_le_mul (show p9 ≤ 60 by omega) hm
          have hmul : (p9 : Int) * (m : Int) = ((u9 : Nat) : Int) := by rw [hu9, Int.natCast_mul]
          have hwu : IntKind.i64.wrap ((u9 : Nat) : Int) = ((u9 : Nat) : Int) := by rw [IntKind.wrap_i64]; omega
          obtain ⟨q9, hq9⟩ : ∃ q9, q9 = u9 + s9 := ⟨_, rfl⟩
          have hadd : (u9 : Int) + (s9 : Int) = ((q9 : Nat) : Int) := by rw [hq9, Int.natCast_add]
          have hwq : IntKind.i64.wrap ((q9 : Nat) : Int) = ((q9 : Nat) : Int) := by rw [IntKind.wrap_i64]; omega
          rw [← hu9, ← hq9] at HV
          clear hu9 hq9
          have hpl : i * N + k < N * N := place_lt hlti hltk
          have hlen : (T.take (i * N + k)).length = i * N + k := by rw [List.length_take, HTL.out]; omega
          have HSN := hide (show T.take (i * N + (k + 1)) = T.take (i * N + k) ++ [((q9 : Nat) : Int)] by
            rw [← Nat.add_assoc, take_snoc' (by rw [HTL.out]; exact hpl), HV.out])
          have HLL := hide (show (T.take (i * N + k)).length ≤ 3600 by have := HNN.out; omega)
          have hown : wr.ownsRow (w.heap.size + 1 + 1 + 1 + 1) 3 1 r' (T.take (i * N + k)).length ((T.take (i * N + k)).map (Value.int .i64)) := hrow'
          clear hlen hrow' HV hpl
          generalize T.take (i * N + k) = xs at *
          obtain ⟨rx, rcap, rfl⟩ := own_slice hown
          have hfi : (f9 : Int) < (n : Int) := by omega
          have hami : (a : Int) < (m : Int) := by omega
          have hyni : (y : Int) < (n : Int) := by omega
          have hsr : w.heap.size + 1 + 1 + 1 + 1 ≤ wr.heap.size := by have := hB'.size; have := HSZ0.out; omega
          go_wp2_with fail
          go_quiet (fail)
          have hBq : Below (w.heap.size + 1 + 1) w0 (wr.drewN nq) := bdrewN hB' nq
          have hRq : Blk (wr.drewN nq) (w.heap.size + 1 + 1) 24 [.int .i64 0, .slice none 0 0] := hR'
          have hXq : Blk (wr.drewN nq) (w.heap.size + 1 + 1 + 1) 24 [.int .i64 N, .slice rx xs.length rcap] := hX'
          have hownq : (wr.drewN nq).ownsRow (w.heap.size + 1 + 1 + 1 + 1) 3 1 (.slice rx xs.length rcap) xs.length (xs.map (Value.int .i64)) := own_keep2 hown (fun _ _ _ => rfl)
          have hsrq : w.heap.size + 1 + 1 + 1 + 1 ≤ (wr.drewN nq).heap.size := hsr
          have HP1 := hide (fun W (h : Below (wr.drewN nq).heap.size (wr.drewN nq) W) => HP1.out W ⟨h.os, h.tape, h.output, h.size, h.block⟩)
          have HP2 := hide (fun W (h : Below (wr.drewN nq).heap.size (wr.drewN nq) W) => HP2.out W ⟨h.os, h.tape, h.output, h.size, h.block⟩)
          clear h0 h1 hqx hqa hwx hwa hY1 hB' hR' hX' hown hsr
          have hB' := hBq
          have hR' := hRq
          have hX' := hXq
          have hown := hownq
          have hsr := hsrq
          clear hBq hRq hXq hownq hsrq
          generalize wr.drewN nq = wr at *
          have hlow : ∀ W, Below wr.heap.size wr W → Below (w.heap.size + 1 + 1) w0 W := fun W h => bcat hB' h (by omega)
          have hS : ∀ W, Below (w.heap.size + 1 + 1) w0 W → (Below (w.heap.size + 1 + 1) w0 W ∧ W.cell? ⟨w.heap.size, 0, none⟩ = some (.int .i64 n) ∧ W.cell? ⟨w.heap.size, 1, none⟩ = some (.slice v1 v2 v3) ∧ W.cell? ⟨w.heap.size + 1, 0, none⟩ = some (.int .i64 m) ∧ W.cell? ⟨w.heap.size + 1, 1, none⟩ = some (.slice y1 y2 y3) ∧ W.cell? ⟨lb, lo + a, none⟩ = some (.slice (some ⟨rb, ro, none⟩) n rc) ∧ W.cell? ⟨rb, ro + y, none⟩ = some (.int .i64 f9)) :=
            fun W h => ⟨h, low_cell h (by simp; omega) hX0.two.1, low_cell h (by simp; omega) hX0.two.2.1, low_cell h (by simp) hY0.two.1, low_cell h (by simp) hY0.two.2.1, low_cell h (by simp; omega) hca0, low_cell h (by simp; omega) hcy0⟩
          have hBc : Below wr.heap.size wr wr.drew := bdrew (Below.refl _ _)
          have hS0 := hS _ (hlow _ hBc)
          go_wp2_with fail
          refine wp_region_held_drew (S := fun W => Below (w.heap.size + 1 + 1) w0 W ∧ W.cell? ⟨w.heap.size, 0, none⟩ = some (.int .i64 n) ∧ W.cell? ⟨w.heap.size, 1, none⟩ = some (.slice v1 v2 v3) ∧ W.cell? ⟨w.heap.size + 1, 0, none⟩ = some (.int .i64 m) ∧ W.cell? ⟨w.heap.size + 1, 1, none⟩ = some (.slice y1 y2 y3) ∧ W.cell? ⟨lb, lo + a, none⟩ = some (.slice (some ⟨rb, ro, none⟩) n rc) ∧ W.cell? ⟨rb, ro + y, none⟩ = some (.int .i64 f9)) (by kernel_rfl) hS0 (fun hHeld => ?_)
          refine wpAnyH_take (i := 0) (oi := ({ dst := some 46, op := Go.Op.fieldAddr 24 (Go.Operand.tmp 7) 1, type := 0, pos := _, after := #[], guard := none } : Oper)) (v := ?_) rfl (by kernel_rfl) (by kernel_rfl) (by kernel_rfl) (fun _ _ _ h => h) (Or.inl ⟨by rfl, ?_⟩) (by assumption) ?_
          rotate_left
          · (intro w hSw; (try dsimp only at hSw); go_simp; try with_reducible rfl)
          simp only [Act.put, List.setIfInBounds_toArray, List.set_cons_zero, List.set_cons_succ]
          refine wpAnyH_take (i := 2) (oi := ({ dst := some 48, op := Go.Op.load 24 (Go.Operand.tmp 3), type := 24, pos := _, after := #[], guard := none } : Oper)) (v := ?_) rfl (by kernel_rfl) (by kernel_rfl) (by kernel_rfl) (fun _ _ _ h => h) (Or.inl ⟨by rfl, ?_⟩) (by assumption) ?_
          rotate_left
          · (intro w hSw; (try dsimp only at hSw); go_simp; try with_reducible rfl)
          simp only [Act.put, List.setIfInBounds_toArray, List.set_cons_zero, List.set_cons_succ]
          refine wpAnyH_take (i := 3) (oi := ({ dst := some 49, op := Go.Op.move (Go.Operand.tmp 9), type := 3, pos := _, after := #[], guard := none } : Oper)) (v := ?_) rfl (by kernel_rfl) (by kernel_rfl) (by kernel_rfl) (fun _ _ _ h => h) (Or.inl ⟨by rfl, ?_⟩) (by assumption) ?_
          rotate_left
          · (intro w hSw; (try dsimp only at hSw); go_simp; try with_reducible rfl)
          simp only [Act.put, List.setIfInBounds_toArray, List.set_cons_zero, List.set_cons_succ]
          refine wpAnyH_take (i := 4) (oi := ({ dst := some 50, op := Go.Op.move (Go.Operand.tmp 2), type := 25, pos := _, after := #[], guard := none } : Oper)) (v := ?_) rfl (by kernel_rfl) (by kernel_rfl) (by kernel_rfl) (fun _ _ _ h => h) (Or.inl ⟨by rfl, ?_⟩) (by assumption) ?_
          rotate_left
          · (intro w hSw; (try dsimp only at hSw); go_simp; try with_reducible rfl)
          simp only [Act.put, List.setIfInBounds_toArray, List.set_cons_zero, List.set_cons_succ]
          refine wpAnyH_take (i := 5) (oi := ({ dst := some 51, op := Go.Op.move (Go.Operand.tmp 10), type := 3, pos := _, after := #[], guard := none } : Oper)) (v := ?_) rfl (by kernel_rfl) (by kernel_rfl) (by kernel_rfl) (fun _ _ _ h => h) (Or.inl ⟨by rfl, ?_⟩) (by assumption) ?_
          rotate_left
          · (intro w hSw; (try dsimp only at hSw); go_simp; try with_reducible rfl)
          simp only [Act.put, List.setIfInBounds_toArray, List.set_cons_zero, List.set_cons_succ]
          refine wpAnyH_take (i := 6) (oi := ({ dst := some 52, op := Go.Op.indexAddr 25 (Go.Operand.tmp 50) (Go.Operand.tmp 51), type := 0, pos := _, after := #[{ on := 4, ground := Go.Ground.data }, { on := 5, ground := Go.Ground.data }], guard := none } : Oper)) (v := ?_) rfl (by kernel_rfl) (by kernel_rfl) (by kernel_rfl) (fun _ _ _ h => h) (Or.inl ⟨by rfl, ?_⟩) (by assumption) ?_
          rotate_left
          · (intro w hSw; (try dsimp only at hSw); go_simp; try with_reducible rfl)
          simp only [Act.put, List.setIfInBounds_toArray, List.set_cons_zero, List.set_cons_succ]
          refine wpAnyH_take (i := 7) (oi := ({ dst := some 53, op := Go.Op.load 22 (Go.Operand.tmp 52), type := 22, pos := _, after := #[{ on := 6, ground := Go.Ground.data }], guard := none } : Oper)) (v := ?_) rfl (by kernel_rfl) (by kernel_rfl) (by kernel_rfl) (fun _ _ _ h => h) (Or.inl ⟨by rfl, ?_⟩) (by assumption) ?_
          rotate_left
          · (intro w hSw; (try dsimp only at hSw); go_simp; try with_reducible rfl)
          simp only [Act.put, List.setIfInBounds_toArray, List.set_cons_zero, List.set_cons_succ]
          refine wpAnyH_take (i := 8) (oi := ({ dst := some 54, op := Go.Op.move (Go.Operand.tmp 12), type := 3, pos := _, after := #[], guard := none } : Oper)) (v := ?_) rfl (by kernel_rfl) (by kernel_rfl) (by kernel_rfl) (fun _ _ _ h => h) (Or.inl ⟨by rfl, ?_⟩) (by assumption) ?_
          rotate_left
          · (intro w hSw; (try dsimp only at hSw); go_simp; try with_reducible rfl)
          simp only [Act.put, List.setIfInBounds_toArray, List.set_cons_zero, List.set_cons_succ]
          refine wpAnyH_take (i := 9) (oi := ({ dst := some 55, op := Go.Op.indexAddr 22 (Go.Operand.tmp 53) (Go.Operand.tmp 54), type := 0, pos := _, after := #[{ on := 7, ground := Go.Ground.data }, { on := 8, ground := Go.Ground.data }], guard := none } : Oper)) (v := ?_) rfl (by kernel_rfl) (by kernel_rfl) (by kernel_rfl) (fun _ _ _ h => h) (Or.inl ⟨by rfl, ?_⟩) (by assumption) ?_
          rotate_left
          · (intro w hSw; (try dsimp only at hSw); go_simp; try with_reducible rfl)
          simp only [Act.put, List.setIfInBounds_toArray, List.set_cons_zero, List.set_cons_succ]
          refine wpAnyH_take (i := 10) (oi := ({ dst := some 56, op := Go.Op.load 3 (Go.Operand.tmp 55), type := 3, pos := _, after := #[{ on := 9, ground := Go.Ground.data }], guard := none } : Oper)) (v := ?_) rfl (by kernel_rfl) (by kernel_rfl) (by kernel_rfl) (fun _ _ _ h => h) (Or.inl ⟨by rfl, ?_⟩) (by assumption) ?_
          rotate_left
          · (intro w hSw; (try dsimp only at hSw); go_simp; try with_reducible rfl)
          simp only [Act.put, List.setIfInBounds_toArray, List.set_cons_zero, List.set_cons_succ]
          refine wpAnyH_take (i := 12) (oi := ({ dst := some 58, op := Go.Op.fieldAddr 24 (Go.Operand.tmp 4) 0, type := 0, pos := _, after := #[], guard := none } : Oper)) (v := ?_) rfl (by kernel_rfl) (by kernel_rfl) (by kernel_rfl) (fun _ _ _ h => h) (Or.inl ⟨by rfl, ?_⟩) (by assumption) ?_
          rotate_left
          · (intro w hSw; (try dsimp only at hSw); go_simp; try with_reducible rfl)
          simp only [Act.put, List.setIfInBounds_toArray, List.set_cons_zero, List.set_cons_succ]
          refine wpAnyH_take (i := 13) (oi := ({ dst := some 59, op := Go.Op.load 3 (Go.Operand.tmp 58), type := 3, pos := _, after := #[{ on := 12, ground := Go.Ground.data }], guard := none } : Oper)) (v := ?_) rfl (by kernel_rfl) (by kernel_rfl) (by kernel_rfl) (fun _ _ _ h => h) (Or.inl ⟨by rfl, ?_⟩) (by assumption) ?_
          rotate_left
          · (intro w hSw; (try dsimp only at hSw); go_simp; try with_reducible rfl)
          simp only [Act.put, List.setIfInBounds_toArray, List.set_cons_zero, List.set_cons_succ]
          refine wpAnyH_take (i := 15) (oi := ({ dst := some 61, op := Go.Op.load 24 (Go.Operand.tmp 4), type := 24, pos := _, after := #[], guard := none } : Oper)) (v := ?_) rfl (by kernel_rfl) (by kernel_rfl) (by kernel_rfl) (fun _ _ _ h => h) (Or.inl ⟨by rfl, ?_⟩) (by assumption) ?_
          rotate_left
          · (intro w hSw; (try dsimp only at hSw); go_simp; try with_reducible rfl)
          simp only [Act.put, List.setIfInBounds_toArray, List.set_cons_zero, List.set_cons_succ]
          refine wpAnyH_take (i := 16) (oi := ({ dst := some 62, op := Go.Op.move (Go.Operand.tmp 10), type := 3, pos := _, after := #[], guard := none } : Oper)) (v := ?_) rfl (by kernel_rfl) (by kernel_rfl) (by kernel_rfl) (fun _ _ _ h => h) (Or.inl ⟨by rfl, ?_⟩) (by assumption) ?_
          rotate_left
          · (intro w hSw; (try dsimp only at hSw); go_simp; try with_reducible rfl)
          simp only [Act.put, List.setIfInBounds_toArray, List.set_cons_zero, List.set_cons_succ]
          refine wpAnyH_take (i := 17) (oi := ({ dst := some 63, op := Go.Op.move (Go.Operand.tmp 13), type := 3, pos := _, after := #[], guard := none } : Oper)) (v := ?_) rfl (by kernel_rfl) (by kernel_rfl) (by kernel_rfl) (fun _ _ _ h => h) (Or.inl ⟨by rfl, ?_⟩) (by assumption) ?_
          rotate_left
          · (intro w hSw; (try dsimp only at hSw); go_simp; try with_reducible rfl)
          simp only [Act.put, List.setIfInBounds_toArray, List.set_cons_zero, List.set_cons_succ]
          refine wpAnyH_ready (rs := [1, 11]) (by kernel_rfl) (by simp) (AllReadyH.cons (o := ({ dst := some 47, op := Go.Op.load 22 (Go.Operand.tmp 46), type := 22, pos := _, after := #[{ on := 0, ground := Go.Ground.data }], guard := none } : Oper)) rfl (fun KK hK => ?_) (AllReadyH.cons (o := ({ dst := some 57, op := Go.Op.call { callee := Go.Callee.value (Go.Operand.func 89), args := #[Go.Operand.tmp 48, Go.Operand.tmp 49, Go.Operand.tmp 56], argTypes := #[24, 3, 3] }, type := 3, pos := _, after := #[{ on := 2, ground := Go.Ground.data }, { on := 3, ground := Go.Ground.data }, { on := 10, ground := Go.Ground.data }], guard := none } : Oper)) rfl (fun KK hK => ?_) AllReadyH.nil))
          · have x1c := (blk_below hX' hBc).two.2.1
            go_simp
            refine hK.out _ _ hHeld (fun hHeld => ?_)
            clear x1c
            clear hK
            try simp only [Act.put, List.setIfInBounds_toArray, List.set_cons_zero, List.set_cons_succ]
            refine wpAnyH_ready (rs := [11]) (by kernel_rfl) (by simp) (AllReadyH.cons (o := ({ dst := some 57, op := Go.Op.call { callee := Go.Callee.value (Go.Operand.func 89), args := #[Go.Operand.tmp 48, Go.Operand.tmp 49, Go.Operand.tmp 56], argTypes := #[24, 3, 3] }, type := 3, pos := _, after := #[{ on := 2, ground := Go.Ground.data }, { on := 3, ground := Go.Ground.data }, { on := 10, ground := Go.Ground.data }], guard := none } : Oper)) rfl (fun KK hK => ?_) AllReadyH.nil)
            go_simp
            refine (HP1.out _ hBc).mono ?_
            rintro e1 V1 ⟨rfl, hl1⟩
            have hBc := bcat2 hBc hl1
            try go_wp2_with fail
            refine hK.out _ _ (hS _ (hlow _ hBc)) (fun hHeld => ?_)
            clear hK
            try simp only [Act.put, List.setIfInBounds_toArray, List.set_cons_zero, List.set_cons_succ]
            refine wpAnyH_take (i := 14) (oi := ({ dst := some 60, op := Go.Op.binOp Go.BinOp.mul 3 (Go.Operand.tmp 57) (Go.Operand.tmp 59) 3, type := 3, pos := _, after := #[{ on := 11, ground := Go.Ground.data }, { on := 13, ground := Go.Ground.data }], guard := none } : Oper)) (v := ?_) rfl (by kernel_rfl) (by kernel_rfl) (by kernel_rfl) (fun _ _ _ h => h) (Or.inl ⟨by rfl, ?_⟩) (by assumption) ?_
            rotate_left
            · (intro w hSw; (try dsimp only at hSw); go_simp; try with_reducible rfl)
            simp only [Act.put, List.setIfInBounds_toArray, List.set_cons_zero, List.set_cons_succ]
            refine wpAnyH_ready (rs := [18]) (by kernel_rfl) (by simp) (AllReadyH.cons (o := ({ dst := some 64, op := Go.Op.call { callee := Go.Callee.value (Go.Operand.func 89), args := #[Go.Operand.tmp 61, Go.Operand.tmp 62, Go.Operand.tmp 63], argTypes := #[24, 3, 3] }, type := 3, pos := _, after := #[{ on := 15, ground := Go.Ground.data }, { on := 16, ground := Go.Ground.data }, { on := 17, ground := Go.Ground.data }, { on := 11, ground := Go.Ground.chain }], guard := none } : Oper)) rfl (fun KK hK => ?_) AllReadyH.nil)
            go_simp
            refine (HP2.out _ hBc).mono ?_
            rintro e2 V2 ⟨rfl, hl2⟩
            have hBc := bcat2 hBc hl2
            try go_wp2_with fail
            refine hK.out _ _ (hS _ (hlow _ hBc)) (fun hHeld => ?_)
            clear hK
            try simp only [Act.put, List.setIfInBounds_toArray, List.set_cons_zero, List.set_cons_succ]
            refine wpAnyH_take (i := 19) (oi := ({ dst := some 65, op := Go.Op.binOp Go.BinOp.add 3 (Go.Operand.tmp 60) (Go.Operand.tmp 64) 3, type := 3, pos := _, after := #[{ on := 14, ground := Go.Ground.data }, { on := 18, ground := Go.Ground.data }], guard := none } : Oper)) (v := ?_) rfl (by kernel_rfl) (by kernel_rfl) (by kernel_rfl) (fun _ _ _ h => h) (Or.inl ⟨by rfl, ?_⟩) (by assumption) ?_
            rotate_left
            · (intro w hSw; (try dsimp only at hSw); go_simp; try with_reducible rfl)
            simp only [Act.put, List.setIfInBounds_toArray, List.set_cons_zero, List.set_cons_succ]
            refine wpAnyH_ready (rs := [20]) (by kernel_rfl) (by simp) (AllReadyH.cons (o := ({ dst := some 66, op := Go.Op.buildSlice 22 1 #[(0, Go.Operand.tmp 65)], type := 22, pos := _, after := #[{ on := 19, ground := Go.Ground.data }], guard := none } : Oper)) rfl (fun KK hK => ?_) AllReadyH.nil)
            go_simp
            have hownC : V2.ownsRow (w.heap.size + 1 + 1 + 1 + 1) 3 1 (.slice rx xs.length rcap) xs.length (xs.map (Value.int .i64)) := own_keep2 hown (fun g _ h2 => hBc.block g h2)
            have hs2c := hBc.size
            have hBc := bcat2 hBc (balloc V2 (.cells #[.int .i64 (q9 : Nat)] 3))
            refine hK.out _ _ (hS _ (hlow _ hBc)) (fun hHeld => ?_)
            clear hK
            try simp only [Act.put, List.setIfInBounds_toArray, List.set_cons_zero, List.set_cons_succ]
            refine wpAnyH_ready (rs := [21]) (by kernel_rfl) (by simp) (AllReadyH.cons (o := ({ dst := some 67, op := Go.Op.call { callee := Go.Callee.builtin Go.Builtin.append, args := #[Go.Operand.tmp 47, Go.Operand.tmp 66], argTypes := #[22, 22] }, type := 22, pos := _, after := #[{ on := 1, ground := Go.Ground.data }, { on := 20, ground := Go.Ground.data }, { on := 18, ground := Go.Ground.chain }], guard := none } : Oper)) rfl (fun KK hK => ?_) AllReadyH.nil)
            refine step_append_lies _ rfl _ _ 22 rfl (w.heap.size + 1 + 1 + 1 + 1) 3 i0 (.int .i64 0) 1 8 under22b hi hz0 hz1 hz2 rfl (by decide) _ _ _ rfl (World.ownsRow.alloc hownC _) ⟨V2.heap.size, 0, none⟩ 1 1 [.int .i64 (q9 : Nat)] rfl rfl (cell_one_new _ _ _) (by simp [Value.oneCell']) (by decide) (by unfold maxLen; have := HLL.out; omega) (by have := HLL.out; omega) (by simp; omega) _ rfl ?_
            intro g9 cap9 w9 hown9 hgrow hloc _
            have hk9 : ∀ k, k < w.heap.size + 1 + 1 + 1 + 1 → w9.heap[k]? = wr.heap[k]? := fun k hk => (hgrow.block k (by simp; omega) (fun e9 => by have := owns_ge hownC k e9.symm; omega)).trans (hBc.block k (by omega))
            have hX9 : Blk w9 (w.heap.size + 1 + 1 + 1) 24 [.int .i64 N, .slice rx xs.length rcap] := hX'.of_eq (hk9 _ (by omega))
            have hR9 : Blk w9 (w.heap.size + 1 + 1) 24 [.int .i64 0, .slice none 0 0] := hR'.of_eq (hk9 _ (by omega))
            have hcw := hX9.two.2.1
            have hfw := hX9.two.2.2.2
            have hB9 : Below (w.heap.size + 1 + 1) w0 w9 := (hlow _ hBc).grown hgrow (by simp; omega) (fun t e9 => by have := owns_ge hownC t e9; omega)
            have hB3 := hB9.setCell (p := ⟨w.heap.size + 1 + 1 + 1, 1, none⟩) (by simp) (.slice (some ⟨g9, 0, none⟩) (xs.length + 1) cap9)
            refine hK.out _ _ (hS _ hB9) (fun hHeld => ?_)
            clear hK
            try simp only [Act.put, List.setIfInBounds_toArray, List.set_cons_zero, List.set_cons_succ]
            refine wpAnyH_take (i := 22) (oi := ({ dst := some 68, op := Go.Op.fieldAddr 24 (Go.Operand.tmp 7) 1, type := 0, pos := _, after := #[{ on := 0, ground := Go.Ground.phase }, { on := 1, ground := Go.Ground.phase }, { on := 2, ground := Go.Ground.phase }, { on := 3, ground := Go.Ground.phase }, { on := 4, ground := Go.Ground.phase }, { on := 5, ground := Go.Ground.phase }, { on := 6, ground := Go.Ground.phase }, { on := 7, ground := Go.Ground.phase }, { on := 8, ground := Go.Ground.phase }, { on := 9, ground := Go.Ground.phase }, { on := 10, ground := Go.Ground.phase }, { on := 11, ground := Go.Ground.phase }, { on := 12, ground := Go.Ground.phase }, { on := 13, ground := Go.Ground.phase }, { on := 14, ground := Go.Ground.phase }, { on := 15, ground := Go.Ground.phase }, { on := 16, ground := Go.Ground.phase }, { on := 17, ground := Go.Ground.phase }, { on := 18, ground := Go.Ground.phase }, { on := 19, ground := Go.Ground.phase }, { on := 20, ground := Go.Ground.phase }, { on := 21, ground := Go.Ground.phase }], guard := none } : Oper)) (v := ?_) rfl (by kernel_rfl) (by kernel_rfl) (by kernel_rfl) (fun _ _ _ h => h) (Or.inl ⟨by rfl, ?_⟩) (by assumption) ?_
            rotate_left
            · (intro w hSw; (try dsimp only at hSw); go_simp; try with_reducible rfl)
            simp only [Act.put, List.setIfInBounds_toArray, List.set_cons_zero, List.set_cons_succ]
            refine wpAnyH_ready (rs := [23]) (by kernel_rfl) (by simp) (AllReadyH.cons (o := ({ dst := none, op := Go.Op.store 22 (Go.Operand.tmp 68) (Go.Operand.tmp 67), type := 0, pos := _, after := #[{ on := 22, ground := Go.Ground.data }, { on := 21, ground := Go.Ground.data }, { on := 21, ground := Go.Ground.chain }, { on := 0, ground := Go.Ground.phase }, { on := 1, ground := Go.Ground.phase }, { on := 2, ground := Go.Ground.phase }, { on := 3, ground := Go.Ground.phase }, { on := 4, ground := Go.Ground.phase }, { on := 5, ground := Go.Ground.phase }, { on := 6, ground := Go.Ground.phase }, { on := 7, ground := Go.Ground.phase }, { on := 8, ground := Go.Ground.phase }, { on := 9, ground := Go.Ground.phase }, { on := 10, ground := Go.Ground.phase }, { on := 11, ground := Go.Ground.phase }, { on := 12, ground := Go.Ground.phase }, { on := 13, ground := Go.Ground.phase }, { on := 14, ground := Go.Ground.phase }, { on := 15, ground := Go.Ground.phase }, { on := 16, ground := Go.Ground.phase }, { on := 17, ground := Go.Ground.phase }, { on := 18, ground := Go.Ground.phase }, { on := 19, ground := Go.Ground.phase }, { on := 20, ground := Go.Ground.phase }, { on := 21, ground := Go.Ground.phase }], guard := none } : Oper)) rfl (fun KK hK => ?_) AllReadyH.nil)
            go_simp
            refine hK.out _ _ (hS _ hB3) (fun hHeld => ?_)
            clear hK
            try simp only [Act.put, List.setIfInBounds_toArray, List.set_cons_zero, List.set_cons_succ]
            refine wpAnyH_done (by kernel_rfl) ?_ _
            have hX3 := hX9.set 1 (.slice (some ⟨g9, 0, none⟩) (xs.length + 1) cap9)
            have hR3 := hR9.other (p := ⟨w.heap.size + 1 + 1 + 1, 1, none⟩) (by simp) (.slice (some ⟨g9, 0, none⟩) (xs.length + 1) cap9)
            have hrow9 : Row w9 (w.heap.size + 1 + 1 + 1 + 1) (.slice (some ⟨g9, 0, none⟩) (xs.length + 1) cap9) (T.take (i * N + (k + 1))) := by
              unfold Row
              rw [HSN.out]
              simpa using hown9
            have hrow3 := row_keep (W' := w9.setCell ⟨w.heap.size + 1 + 1 + 1, 1, none⟩ (.slice (some ⟨g9, 0, none⟩) (xs.length + 1) cap9)) hrow9 (fun g h1 _ => Below.heap_setCell _ _ _ g (by simp; omega))
            clear hown9 hgrow hown hownC hrow9 hk9 hloc
            go_wp2
            go_roundw
            case rel => exact ⟨k + 1, _, by omega, by go_num, hrow3, hR3, hX3, hB3⟩
            case measure => simp [intOf]; omega
          · go_simp
            refine (HP1.out _ hBc).mono ?_
            rintro e1 V1 ⟨rfl, hl1⟩
            have hBc := bcat2 hBc hl1
            try go_wp2_with fail
            refine hK.out _ _ (hS _ (hlow _ hBc)) (fun hHeld => ?_)
            clear hK
            try simp only [Act.put, List.setIfInBounds_toArray, List.set_cons_zero, List.set_cons_succ]
            refine wpAnyH_take (i := 14) (oi := ({ dst := some 60, op := Go.Op.binOp Go.BinOp.mul 3 (Go.Operand.tmp 57) (Go.Operand.tmp 59) 3, type := 3, pos := _, after := #[{ on := 11, ground := Go.Ground.data }, { on := 13, ground := Go.Ground.data }], guard := none } : Oper)) (v := ?_) rfl (by kernel_rfl) (by kernel_rfl) (by kernel_rfl) (fun _ _ _ h => h) (Or.inl ⟨by rfl, ?_⟩) (by assumption) ?_
            rotate_left
            · (intro w hSw; (try dsimp only at hSw); go_simp; try with_reducible rfl)
            simp only [Act.put, List.setIfInBounds_toArray, List.set_cons_zero, List.set_cons_succ]
            refine wpAnyH_ready (rs := [1, 18]) (by kernel_rfl) (by simp) (AllReadyH.cons (o := ({ dst := some 47, op := Go.Op.load 22 (Go.Operand.tmp 46), type := 22, pos := _, after := #[{ on := 0, ground := Go.Ground.data }], guard := none } : Oper)) rfl (fun KK hK => ?_) (AllReadyH.cons (o := ({ dst := some 64, op := Go.Op.call { callee := Go.Callee.value (Go.Operand.func 89), args := #[Go.Operand.tmp 61, Go.Operand.tmp 62, Go.Operand.tmp 63], argTypes := #[24, 3, 3] }, type := 3, pos := _, after := #[{ on := 15, ground := Go.Ground.data }, { on := 16, ground := Go.Ground.data }, { on := 17, ground := Go.Ground.data }, { on := 11, ground := Go.Ground.chain }], guard := none } : Oper)) rfl (fun KK hK => ?_) AllReadyH.nil))
            · have x1c := (blk_below hX' hBc).two.2.1
              go_simp
              refine hK.out _ _ hHeld (fun hHeld => ?_)
              clear x1c
              clear hK
              try simp only [Act.put, List.setIfInBounds_toArray, List.set_cons_zero, List.set_cons_succ]
              refine wpAnyH_ready (rs := [18]) (by kernel_rfl) (by simp) (AllReadyH.cons (o := ({ dst := some 64, op := Go.Op.call { callee := Go.Callee.value (Go.Operand.func 89), args := #[Go.Operand.tmp 61, Go.Operand.tmp 62, Go.Operand.tmp 63], argTypes := #[24, 3, 3] }, type := 3, pos := _, after := #[{ on := 15, ground := Go.Ground.data }, { on := 16, ground := Go.Ground.data }, { on := 17, ground := Go.Ground.data }, { on := 11, ground := Go.Ground.chain }], guard := none } : Oper)) rfl (fun KK hK => ?_) AllReadyH.nil)
              go_simp
              refine (HP2.out _ hBc).mono ?_
              rintro e2 V2 ⟨rfl, hl2⟩
              have hBc := bcat2 hBc hl2
              try go_wp2_with fail
              refine hK.out _ _ (hS _ (hlow _ hBc)) (fun hHeld => ?_)
              clear hK
              try simp only [Act.put, List.setIfInBounds_toArray, List.set_cons_zero, List.set_cons_succ]
              refine wpAnyH_take (i := 19) (oi := ({ dst := some 65, op := Go.Op.binOp Go.BinOp.add 3 (Go.Operand.tmp 60) (Go.Operand.tmp 64) 3, type := 3, pos := _, after := #[{ on := 14, ground := Go.Ground.data }, { on := 18, ground := Go.Ground.data }], guard := none } : Oper)) (v := ?_) rfl (by kernel_rfl) (by kernel_rfl) (by kernel_rfl) (fun _ _ _ h => h) (Or.inl ⟨by rfl, ?_⟩) (by assumption) ?_
              rotate_left
              · (intro w hSw; (try dsimp only at hSw); go_simp; try with_reducible rfl)
              simp only [Act.put, List.setIfInBounds_toArray, List.set_cons_zero, List.set_cons_succ]
              refine wpAnyH_ready (rs := [20]) (by kernel_rfl) (by simp) (AllReadyH.cons (o := ({ dst := some 66, op := Go.Op.buildSlice 22 1 #[(0, Go.Operand.tmp 65)], type := 22, pos := _, after := #[{ on := 19, ground := Go.Ground.data }], guard := none } : Oper)) rfl (fun KK hK => ?_) AllReadyH.nil)
              go_simp
              have hownC : V2.ownsRow (w.heap.size + 1 + 1 + 1 + 1) 3 1 (.slice rx xs.length rcap) xs.length (xs.map (Value.int .i64)) := own_keep2 hown (fun g _ h2 => hBc.block g h2)
              have hs2c := hBc.size
              have hBc := bcat2 hBc (balloc V2 (.cells #[.int .i64 (q9 : Nat)] 3))
              refine hK.out _ _ (hS _ (hlow _ hBc)) (fun hHeld => ?_)
              clear hK
              try simp only [Act.put, List.setIfInBounds_toArray, List.set_cons_zero, List.set_cons_succ]
              refine wpAnyH_ready (rs := [21]) (by kernel_rfl) (by simp) (AllReadyH.cons (o := ({ dst := some 67, op := Go.Op.call { callee := Go.Callee.builtin Go.Builtin.append, args := #[Go.Operand.tmp 47, Go.Operand.tmp 66], argTypes := #[22, 22] }, type := 22, pos := _, after := #[{ on := 1, ground := Go.Ground.data }, { on := 20, ground := Go.Ground.data }, { on := 18, ground := Go.Ground.chain }], guard := none } : Oper)) rfl (fun KK hK => ?_) AllReadyH.nil)
              refine step_append_lies _ rfl _ _ 22 rfl (w.heap.size + 1 + 1 + 1 + 1) 3 i0 (.int .i64 0) 1 8 under22b hi hz0 hz1 hz2 rfl (by decide) _ _ _ rfl (World.ownsRow.alloc hownC _) ⟨V2.heap.size, 0, none⟩ 1 1 [.int .i64 (q9 : Nat)] rfl rfl (cell_one_new _ _ _) (by simp [Value.oneCell']) (by decide) (by unfold maxLen; have := HLL.out; omega) (by have := HLL.out; omega) (by simp; omega) _ rfl ?_
              intro g9 cap9 w9 hown9 hgrow hloc _
              have hk9 : ∀ k, k < w.heap.size + 1 + 1 + 1 + 1 → w9.heap[k]? = wr.heap[k]? := fun k hk => (hgrow.block k (by simp; omega) (fun e9 => by have := owns_ge hownC k e9.symm; omega)).trans (hBc.block k (by omega))
              have hX9 : Blk w9 (w.heap.size + 1 + 1 + 1) 24 [.int .i64 N, .slice rx xs.length rcap] := hX'.of_eq (hk9 _ (by omega))
              have hR9 : Blk w9 (w.heap.size + 1 + 1) 24 [.int .i64 0, .slice none 0 0] := hR'.of_eq (hk9 _ (by omega))
              have hcw := hX9.two.2.1
              have hfw := hX9.two.2.2.2
              have hB9 : Below (w.heap.size + 1 + 1) w0 w9 := (hlow _ hBc).grown hgrow (by simp; omega) (fun t e9 => by have := owns_ge hownC t e9; omega)
              have hB3 := hB9.setCell (p := ⟨w.heap.size + 1 + 1 + 1, 1, none⟩) (by simp) (.slice (some ⟨g9, 0, none⟩) (xs.length + 1) cap9)
              refine hK.out _ _ (hS _ hB9) (fun hHeld => ?_)
              clear hK
              try simp only [Act.put, List.setIfInBounds_toArray, List.set_cons_zero, List.set_cons_succ]
              refine wpAnyH_take (i := 22) (oi := ({ dst := some 68, op := Go.Op.fieldAddr 24 (Go.Operand.tmp 7) 1, type := 0, pos := _, after := #[{ on := 0, ground := Go.Ground.phase }, { on := 1, ground := Go.Ground.phase }, { on := 2, ground := Go.Ground.phase }, { on := 3, ground := Go.Ground.phase }, { on := 4, ground := Go.Ground.phase }, { on := 5, ground := Go.Ground.phase }, { on := 6, ground := Go.Ground.phase }, { on := 7, ground := Go.Ground.phase }, { on := 8, ground := Go.Ground.phase }, { on := 9, ground := Go.Ground.phase }, { on := 10, ground := Go.Ground.phase }, { on := 11, ground := Go.Ground.phase }, { on := 12, ground := Go.Ground.phase }, { on := 13, ground := Go.Ground.phase }, { on := 14, ground := Go.Ground.phase }, { on := 15, ground := Go.Ground.phase }, { on := 16, ground := Go.Ground.phase }, { on := 17, ground := Go.Ground.phase }, { on := 18, ground := Go.Ground.phase }, { on := 19, ground := Go.Ground.phase }, { on := 20, ground := Go.Ground.phase }, { on := 21, ground := Go.Ground.phase }], guard := none } : Oper)) (v := ?_) rfl (by kernel_rfl) (by kernel_rfl) (by kernel_rfl) (fun _ _ _ h => h) (Or.inl ⟨by rfl, ?_⟩) (by assumption) ?_
              rotate_left
              · (intro w hSw; (try dsimp only at hSw); go_simp; try with_reducible rfl)
              simp only [Act.put, List.setIfInBounds_toArray, List.set_cons_zero, List.set_cons_succ]
              refine wpAnyH_ready (rs := [23]) (by kernel_rfl) (by simp) (AllReadyH.cons (o := ({ dst := none, op := Go.Op.store 22 (Go.Operand.tmp 68) (Go.Operand.tmp 67), type := 0, pos := _, after := #[{ on := 22, ground := Go.Ground.data }, { on := 21, ground := Go.Ground.data }, { on := 21, ground := Go.Ground.chain }, { on := 0, ground := Go.Ground.phase }, { on := 1, ground := Go.Ground.phase }, { on := 2, ground := Go.Ground.phase }, { on := 3, ground := Go.Ground.phase }, { on := 4, ground := Go.Ground.phase }, { on := 5, ground := Go.Ground.phase }, { on := 6, ground := Go.Ground.phase }, { on := 7, ground := Go.Ground.phase }, { on := 8, ground := Go.Ground.phase }, { on := 9, ground := Go.Ground.phase }, { on := 10, ground := Go.Ground.phase }, { on := 11, ground := Go.Ground.phase }, { on := 12, ground := Go.Ground.phase }, { on := 13, ground := Go.Ground.phase }, { on := 14, ground := Go.Ground.phase }, { on := 15, ground := Go.Ground.phase }, { on := 16, ground := Go.Ground.phase }, { on := 17, ground := Go.Ground.phase }, { on := 18, ground := Go.Ground.phase }, { on := 19, ground := Go.Ground.phase }, { on := 20, ground := Go.Ground.phase }, { on := 21, ground := Go.Ground.phase }], guard := none } : Oper)) rfl (fun KK hK => ?_) AllReadyH.nil)
              go_simp
              refine hK.out _ _ (hS _ hB3) (fun hHeld => ?_)
              clear hK
              try simp only [Act.put, List.setIfInBounds_toArray, List.set_cons_zero, List.set_cons_succ]
              refine wpAnyH_done (by kernel_rfl) ?_ _
              have hX3 := hX9.set 1 (.slice (some ⟨g9, 0, none⟩) (xs.length + 1) cap9)
              have hR3 := hR9.other (p := ⟨w.heap.size + 1 + 1 + 1, 1, none⟩) (by simp) (.slice (some ⟨g9, 0, none⟩) (xs.length + 1) cap9)
              have hrow9 : Row w9 (w.heap.size + 1 + 1 + 1 + 1) (.slice (some ⟨g9, 0, none⟩) (xs.length + 1) cap9) (T.take (i * N + (k + 1))) := by
                unfold Row
                rw [HSN.out]
                simpa using hown9
              have hrow3 := row_keep (W' := w9.setCell ⟨w.heap.size + 1 + 1 + 1, 1, none⟩ (.slice (some ⟨g9, 0, none⟩) (xs.length + 1) cap9)) hrow9 (fun g h1 _ => Below.heap_setCell _ _ _ g (by simp; omega))
              clear hown9 hgrow hown hownC hrow9 hk9 hloc
              go_wp2
              go_roundw
              case rel => exact ⟨k + 1, _, by omega, by go_num, hrow3, hR3, hX3, hB3⟩
              case measure => simp [intOf]; omega
            · go_simp
              refine (HP2.out _ hBc).mono ?_
              rintro e2 V2 ⟨rfl, hl2⟩
              have hBc := bcat2 hBc hl2
              try go_wp2_with fail
              refine hK.out _ _ (hS _ (hlow _ hBc)) (fun hHeld => ?_)
              clear hK
              try simp only [Act.put, List.setIfInBounds_toArray, List.set_cons_zero, List.set_cons_succ]
              refine wpAnyH_take (i := 19) (oi := ({ dst := some 65, op := Go.Op.binOp Go.BinOp.add 3 (Go.Operand.tmp 60) (Go.Operand.tmp 64) 3, type := 3, pos := _, after := #[{ on := 14, ground := Go.Ground.data }, { on := 18, ground := Go.Ground.data }], guard := none } : Oper)) (v := ?_) rfl (by kernel_rfl) (by kernel_rfl) (by kernel_rfl) (fun _ _ _ h => h) (Or.inl ⟨by rfl, ?_⟩) (by assumption) ?_
              rotate_left
              · (intro w hSw; (try dsimp only at hSw); go_simp; try with_reducible rfl)
              simp only [Act.put, List.setIfInBounds_toArray, List.set_cons_zero, List.set_cons_succ]
              refine wpAnyH_ready (rs := [1, 20]) (by kernel_rfl) (by simp) (AllReadyH.cons (o := ({ dst := some 47, op := Go.Op.load 22 (Go.Operand.tmp 46), type := 22, pos := _, after := #[{ on := 0, ground := Go.Ground.data }], guard := none } : Oper)) rfl (fun KK hK => ?_) (AllReadyH.cons (o := ({ dst := some 66, op := Go.Op.buildSlice 22 1 #[(0, Go.Operand.tmp 65)], type := 22, pos := _, after := #[{ on := 19, ground := Go.Ground.data }], guard := none } : Oper)) rfl (fun KK hK => ?_) AllReadyH.nil))
              · have x1c := (blk_below hX' hBc).two.2.1
                go_simp
                refine hK.out _ _ hHeld (fun hHeld => ?_)
                clear x1c
                clear hK
                try simp only [Act.put, List.setIfInBounds_toArray, List.set_cons_zero, List.set_cons_succ]
                refine wpAnyH_ready (rs := [20]) (by kernel_rfl) (by simp) (AllReadyH.cons (o := ({ dst := some 66, op := Go.Op.buildSlice 22 1 #[(0, Go.Operand.tmp 65)], type := 22, pos := _, after := #[{ on := 19, ground := Go.Ground.data }], guard := none } : Oper)) rfl (fun KK hK => ?_) AllReadyH.nil)
                go_simp
                have hownC : V2.ownsRow (w.heap.size + 1 + 1 + 1 + 1) 3 1 (.slice rx xs.length rcap) xs.length (xs.map (Value.int .i64)) := own_keep2 hown (fun g _ h2 => hBc.block g h2)
                have hs2c := hBc.size
                have hBc := bcat2 hBc (balloc V2 (.cells #[.int .i64 (q9 : Nat)] 3))
                refine hK.out _ _ (hS _ (hlow _ hBc)) (fun hHeld => ?_)
                clear hK
                try simp only [Act.put, List.setIfInBounds_toArray, List.set_cons_zero, List.set_cons_succ]
                refine wpAnyH_ready (rs := [21]) (by kernel_rfl) (by simp) (AllReadyH.cons (o := ({ dst := some 67, op := Go.Op.call { callee := Go.Callee.builtin Go.Builtin.append, args := #[Go.Operand.tmp 47, Go.Operand.tmp 66], argTypes := #[22, 22] }, type := 22, pos := _, after := #[{ on := 1, ground := Go.Ground.data }, { on := 20, ground := Go.Ground.data }, { on := 18, ground := Go.Ground.chain }], guard := none } : Oper)) rfl (fun KK hK => ?_) AllReadyH.nil)
                refine step_append_lies _ rfl _ _ 22 rfl (w.heap.size + 1 + 1 + 1 + 1) 3 i0 (.int .i64 0) 1 8 under22b hi hz0 hz1 hz2 rfl (by decide) _ _ _ rfl (World.ownsRow.alloc hownC _) ⟨V2.heap.size, 0, none⟩ 1 1 [.int .i64 (q9 : Nat)] rfl rfl (cell_one_new _ _ _) (by simp [Value.oneCell']) (by decide) (by unfold maxLen; have := HLL.out; omega) (by have := HLL.out; omega) (by simp; omega) _ rfl ?_
                intro g9 cap9 w9 hown9 hgrow hloc _
                have hk9 : ∀ k, k < w.heap.size + 1 + 1 + 1 + 1 → w9.heap[k]? = wr.heap[k]? := fun k hk => (hgrow.block k (by simp; omega) (fun e9 => by have := owns_ge hownC k e9.symm; omega)).trans (hBc.block k (by omega))
                have hX9 : Blk w9 (w.heap.size + 1 + 1 + 1) 24 [.int .i64 N, .slice rx xs.length rcap] := hX'.of_eq (hk9 _ (by omega))
                have hR9 : Blk w9 (w.heap.size + 1 + 1) 24 [.int .i64 0, .slice none 0 0] := hR'.of_eq (hk9 _ (by omega))
                have hcw := hX9.two.2.1
                have hfw := hX9.two.2.2.2
                have hB9 : Below (w.heap.size + 1 + 1) w0 w9 := (hlow _ hBc).grown hgrow (by simp; omega) (fun t e9 => by have := owns_ge hownC t e9; omega)
                have hB3 := hB9.setCell (p := ⟨w.heap.size + 1 + 1 + 1, 1, none⟩) (by simp) (.slice (some ⟨g9, 0, none⟩) (xs.length + 1) cap9)
                refine hK.out _ _ (hS _ hB9) (fun hHeld => ?_)
                clear hK
                try simp only [Act.put, List.setIfInBounds_toArray, List.set_cons_zero, List.set_cons_succ]
                refine wpAnyH_take (i := 22) (oi := ({ dst := some 68, op := Go.Op.fieldAddr 24 (Go.Operand.tmp 7) 1, type := 0, pos := _, after := #[{ on := 0, ground := Go.Ground.phase }, { on := 1, ground := Go.Ground.phase }, { on := 2, ground := Go.Ground.phase }, { on := 3, ground := Go.Ground.phase }, { on := 4, ground := Go.Ground.phase }, { on := 5, ground := Go.Ground.phase }, { on := 6, ground := Go.Ground.phase }, { on := 7, ground := Go.Ground.phase }, { on := 8, ground := Go.Ground.phase }, { on := 9, ground := Go.Ground.phase }, { on := 10, ground := Go.Ground.phase }, { on := 11, ground := Go.Ground.phase }, { on := 12, ground := Go.Ground.phase }, { on := 13, ground := Go.Ground.phase }, { on := 14, ground := Go.Ground.phase }, { on := 15, ground := Go.Ground.phase }, { on := 16, ground := Go.Ground.phase }, { on := 17, ground := Go.Ground.phase }, { on := 18, ground := Go.Ground.phase }, { on := 19, ground := Go.Ground.phase }, { on := 20, ground := Go.Ground.phase }, { on := 21, ground := Go.Ground.phase }], guard := none } : Oper)) (v := ?_) rfl (by kernel_rfl) (by kernel_rfl) (by kernel_rfl) (fun _ _ _ h => h) (Or.inl ⟨by rfl, ?_⟩) (by assumption) ?_
                rotate_left
                · (intro w hSw; (try dsimp only at hSw); go_simp; try with_reducible rfl)
                simp only [Act.put, List.setIfInBounds_toArray, List.set_cons_zero, List.set_cons_succ]
                refine wpAnyH_ready (rs := [23]) (by kernel_rfl) (by simp) (AllReadyH.cons (o := ({ dst := none, op := Go.Op.store 22 (Go.Operand.tmp 68) (Go.Operand.tmp 67), type := 0, pos := _, after := #[{ on := 22, ground := Go.Ground.data }, { on := 21, ground := Go.Ground.data }, { on := 21, ground := Go.Ground.chain }, { on := 0, ground := Go.Ground.phase }, { on := 1, ground := Go.Ground.phase }, { on := 2, ground := Go.Ground.phase }, { on := 3, ground := Go.Ground.phase }, { on := 4, ground := Go.Ground.phase }, { on := 5, ground := Go.Ground.phase }, { on := 6, ground := Go.Ground.phase }, { on := 7, ground := Go.Ground.phase }, { on := 8, ground := Go.Ground.phase }, { on := 9, ground := Go.Ground.phase }, { on := 10, ground := Go.Ground.phase }, { on := 11, ground := Go.Ground.phase }, { on := 12, ground := Go.Ground.phase }, { on := 13, ground := Go.Ground.phase }, { on := 14, ground := Go.Ground.phase }, { on := 15, ground := Go.Ground.phase }, { on := 16, ground := Go.Ground.phase }, { on := 17, ground := Go.Ground.phase }, { on := 18, ground := Go.Ground.phase }, { on := 19, ground := Go.Ground.phase }, { on := 20, ground := Go.Ground.phase }, { on := 21, ground := Go.Ground.phase }], guard := none } : Oper)) rfl (fun KK hK => ?_) AllReadyH.nil)
                go_simp
                refine hK.out _ _ (hS _ hB3) (fun hHeld => ?_)
                clear hK
                try simp only [Act.put, List.setIfInBounds_toArray, List.set_cons_zero, List.set_cons_succ]
                refine wpAnyH_done (by kernel_rfl) ?_ _
                have hX3 := hX9.set 1 (.slice (some ⟨g9, 0, none⟩) (xs.length + 1) cap9)
                have hR3 := hR9.other (p := ⟨w.heap.size + 1 + 1 + 1, 1, none⟩) (by simp) (.slice (some ⟨g9, 0, none⟩) (xs.length + 1) cap9)
                have hrow9 : Row w9 (w.heap.size + 1 + 1 + 1 + 1) (.slice (some ⟨g9, 0, none⟩) (xs.length + 1) cap9) (T.take (i * N + (k + 1))) := by
                  unfold Row
                  rw [HSN.out]
                  simpa using hown9
                have hrow3 := row_keep (W' := w9.setCell ⟨w.heap.size + 1 + 1 + 1, 1, none⟩ (.slice (some ⟨g9, 0, none⟩) (xs.length + 1) cap9)) hrow9 (fun g h1 _ => Below.heap_setCell _ _ _ g (by simp; omega))
                clear hown9 hgrow hown hownC hrow9 hk9 hloc
                go_wp2
                go_roundw
                case rel => exact ⟨k + 1, _, by omega, by go_num, hrow3, hR3, hX3, hB3⟩
                case measure => simp [intOf]; omega
              · go_simp
                have hownC : V2.ownsRow (w.heap.size + 1 + 1 + 1 + 1) 3 1 (.slice rx xs.length rcap) xs.length (xs.map (Value.int .i64)) := own_keep2 hown (fun g _ h2 => hBc.block g h2)
                have hs2c := hBc.size
                have hBc := bcat2 hBc (balloc V2 (.cells #[.int .i64 (q9 : Nat)] 3))
                refine hK.out _ _ (hS _ (hlow _ hBc)) (fun hHeld => ?_)
                clear hK
                try simp only [Act.put, List.setIfInBounds_toArray, List.set_cons_zero, List.set_cons_succ]
                refine wpAnyH_ready (rs := [1]) (by kernel_rfl) (by simp) (AllReadyH.cons (o := ({ dst := some 47, op := Go.Op.load 22 (Go.Operand.tmp 46), type := 22, pos := _, after := #[{ on := 0, ground := Go.Ground.data }], guard := none } : Oper)) rfl (fun KK hK => ?_) AllReadyH.nil)
                have x1c := (blk_below hX' hBc).two.2.1
                go_simp
                refine hK.out _ _ hHeld (fun hHeld => ?_)
                clear x1c
                clear hK
                try simp only [Act.put, List.setIfInBounds_toArray, List.set_cons_zero, List.set_cons_succ]
                refine wpAnyH_ready (rs := [21]) (by kernel_rfl) (by simp) (AllReadyH.cons (o := ({ dst := some 67, op := Go.Op.call { callee := Go.Callee.builtin Go.Builtin.append, args := #[Go.Operand.tmp 47, Go.Operand.tmp 66], argTypes := #[22, 22] }, type := 22, pos := _, after := #[{ on := 1, ground := Go.Ground.data }, { on := 20, ground := Go.Ground.data }, { on := 18, ground := Go.Ground.chain }], guard := none } : Oper)) rfl (fun KK hK => ?_) AllReadyH.nil)
                refine step_append_lies _ rfl _ _ 22 rfl (w.heap.size + 1 + 1 + 1 + 1) 3 i0 (.int .i64 0) 1 8 under22b hi hz0 hz1 hz2 rfl (by decide) _ _ _ rfl (World.ownsRow.alloc hownC _) ⟨V2.heap.size, 0, none⟩ 1 1 [.int .i64 (q9 : Nat)] rfl rfl (cell_one_new _ _ _) (by simp [Value.oneCell']) (by decide) (by unfold maxLen; have := HLL.out; omega) (by have := HLL.out; omega) (by simp; omega) _ rfl ?_
                intro g9 cap9 w9 hown9 hgrow hloc _
                have hk9 : ∀ k, k < w.heap.size + 1 + 1 + 1 + 1 → w9.heap[k]? = wr.heap[k]? := fun k hk => (hgrow.block k (by simp; omega) (fun e9 => by have := owns_ge hownC k e9.symm; omega)).trans (hBc.block k (by omega))
                have hX9 : Blk w9 (w.heap.size + 1 + 1 + 1) 24 [.int .i64 N, .slice rx xs.length rcap] := hX'.of_eq (hk9 _ (by omega))
                have hR9 : Blk w9 (w.heap.size + 1 + 1) 24 [.int .i64 0, .slice none 0 0] := hR'.of_eq (hk9 _ (by omega))
                have hcw := hX9.two.2.1
                have hfw := hX9.two.2.2.2
                have hB9 : Below (w.heap.size + 1 + 1) w0 w9 := (hlow _ hBc).grown hgrow (by simp; omega) (fun t e9 => by have := owns_ge hownC t e9; omega)
                have hB3 := hB9.setCell (p := ⟨w.heap.size + 1 + 1 + 1, 1, none⟩) (by simp) (.slice (some ⟨g9, 0, none⟩) (xs.length + 1) cap9)
                refine hK.out _ _ (hS _ hB9) (fun hHeld => ?_)
                clear hK
                try simp only [Act.put, List.setIfInBounds_toArray, List.set_cons_zero, List.set_cons_succ]
                refine wpAnyH_take (i := 22) (oi := ({ dst := some 68, op := Go.Op.fieldAddr 24 (Go.Operand.tmp 7) 1, type := 0, pos := _, after := #[{ on := 0, ground := Go.Ground.phase }, { on := 1, ground := Go.Ground.phase }, { on := 2, ground := Go.Ground.phase }, { on := 3, ground := Go.Ground.phase }, { on := 4, ground := Go.Ground.phase }, { on := 5, ground := Go.Ground.phase }, { on := 6, ground := Go.Ground.phase }, { on := 7, ground := Go.Ground.phase }, { on := 8, ground := Go.Ground.phase }, { on := 9, ground := Go.Ground.phase }, { on := 10, ground := Go.Ground.phase }, { on := 11, ground := Go.Ground.phase }, { on := 12, ground := Go.Ground.phase }, { on := 13, ground := Go.Ground.phase }, { on := 14, ground := Go.Ground.phase }, { on := 15, ground := Go.Ground.phase }, { on := 16, ground := Go.Ground.phase }, { on := 17, ground := Go.Ground.phase }, { on := 18, ground := Go.Ground.phase }, { on := 19, ground := Go.Ground.phase }, { on := 20, ground := Go.Ground.phase }, { on := 21, ground := Go.Ground.phase }], guard := none } : Oper)) (v := ?_) rfl (by kernel_rfl) (by kernel_rfl) (by kernel_rfl) (fun _ _ _ h => h) (Or.inl ⟨by rfl, ?_⟩) (by assumption) ?_
                rotate_left
                · (intro w hSw; (try dsimp only at hSw); go_simp; try with_reducible rfl)
                simp only [Act.put, List.setIfInBounds_toArray, List.set_cons_zero, List.set_cons_succ]
                refine wpAnyH_ready (rs := [23]) (by kernel_rfl) (by simp) (AllReadyH.cons (o := ({ dst := none, op := Go.Op.store 22 (Go.Operand.tmp 68) (Go.Operand.tmp 67), type := 0, pos := _, after := #[{ on := 22, ground := Go.Ground.data }, { on := 21, ground := Go.Ground.data }, { on := 21, ground := Go.Ground.chain }, { on := 0, ground := Go.Ground.phase }, { on := 1, ground := Go.Ground.phase }, { on := 2, ground := Go.Ground.phase }, { on := 3, ground := Go.Ground.phase }, { on := 4, ground := Go.Ground.phase }, { on := 5, ground := Go.Ground.phase }, { on := 6, ground := Go.Ground.phase }, { on := 7, ground := Go.Ground.phase }, { on := 8, ground := Go.Ground.phase }, { on := 9, ground := Go.Ground.phase }, { on := 10, ground := Go.Ground.phase }, { on := 11, ground := Go.Ground.phase }, { on := 12, ground := Go.Ground.phase }, { on := 13, ground := Go.Ground.phase }, { on := 14, ground := Go.Ground.phase }, { on := 15, ground := Go.Ground.phase }, { on := 16, ground := Go.Ground.phase }, { on := 17, ground := Go.Ground.phase }, { on := 18, ground := Go.Ground.phase }, { on := 19, ground := Go.Ground.phase }, { on := 20, ground := Go.Ground.phase }, { on := 21, ground := Go.Ground.phase }], guard := none } : Oper)) rfl (fun KK hK => ?_) AllReadyH.nil)
                go_simp
                refine hK.out _ _ (hS _ hB3) (fun hHeld => ?_)
                clear hK
                try simp only [Act.put, List.setIfInBounds_toArray, List.set_cons_zero, List.set_cons_succ]
                refine wpAnyH_done (by kernel_rfl) ?_ _
                have hX3 := hX9.set 1 (.slice (some ⟨g9, 0, none⟩) (xs.length + 1) cap9)
                have hR3 := hR9.other (p := ⟨w.heap.size + 1 + 1 + 1, 1, none⟩) (by simp) (.slice (some ⟨g9, 0, none⟩) (xs.length + 1) cap9)
                have hrow9 : Row w9 (w.heap.size + 1 + 1 + 1 + 1) (.slice (some ⟨g9, 0, none⟩) (xs.length + 1) cap9) (T.take (i * N + (k + 1))) := by
                  unfold Row
                  rw [HSN.out]
                  simpa using hown9
                have hrow3 := row_keep (W' := w9.setCell ⟨w.heap.size + 1 + 1 + 1, 1, none⟩ (.slice (some ⟨g9, 0, none⟩) (xs.length + 1) cap9)) hrow9 (fun g h1 _ => Below.heap_setCell _ _ _ g (by simp; omega))
                clear hown9 hgrow hown hownC hrow9 hk9 hloc
                go_wp2
                go_roundw
                case rel => exact ⟨k + 1, _, by omega, by go_num, hrow3, hR3, hX3, hB3⟩
                case measure => simp [intOf]; omega
        · have hki : ¬ (k : Int) < (N : Int) := by omega
          have hkn : k = N := by omega
          have hrow8 : Row wr (w.heap.size + 1 + 1 + 1 + 1) r' (T.take ((i + 1) * N)) := by rw [Nat.add_mul, Nat.one_mul]; rw [hkn] at hrow'; exact hrow'
          clear hkn hrow'
          go_wp2
          go_roundw
          case rel => exact ⟨i + 1, r', by omega, by go_num, hrow8, hR', hX', hB'⟩
          case measure => simp [intOf]; omega
    · have hii : ¬ (i : Int) < (N : Int) := by omega
      have hin : i = N := by omega
      have hTT : T.take (i * N) = T := List.take_of_length_le (by rw [HTL.out, hin]; exact Nat.le_refl _)
      rw [hTT] at hrow
      clear hTT hin
      have hown : wr.ownsRow (w.heap.size + 1 + 1 + 1 + 1) 3 1 r T.length (T.map (Value.int .i64)) := hrow
      obtain ⟨rx, rcap, rfl⟩ := own_slice hown
      obtain ⟨x0, x1, fx0, fx1⟩ := hX.two
      obtain ⟨r0, r1, fr0, fr1⟩ := hR.two
      have hR8 : Blk ((wr.setCell ⟨w.heap.size + 1 + 1, 0, none⟩ (.int .i64 N)).setCell ⟨w.heap.size + 1 + 1, 1, none⟩ (.slice rx T.length rcap)) (w.heap.size + 1 + 1) 24 [.int .i64 N, .slice rx T.length rcap] := (hR.set 0 _).set 1 _
      have hB8 := ((hBw _ hB).setCell (p := ⟨w.heap.size + 1 + 1, 0, none⟩) (by simp; omega) (.int .i64 N)).setCell (p := ⟨w.heap.size + 1 + 1, 1, none⟩) (by simp; omega) (.slice rx T.length rcap)
      have hrow8 := owns_mono (row_keep (W' := (wr.setCell ⟨w.heap.size + 1 + 1, 0, none⟩ (.int .i64 N)).setCell ⟨w.heap.size + 1 + 1, 1, none⟩ (.slice rx T.length rcap)) hrow (fun g h1 _ => by rw [Below.heap_setCell _ _ _ g (by simp; omega), Below.heap_setCell _ _ _ g (by simp; omega)])) (show w.heap.size ≤ w.heap.size + 1 + 1 + 1 + 1 by omega)
      clear hown hrow
      go_wp2
      generalize (wr.setCell ⟨w.heap.size + 1 + 1, 0, none⟩ (.int .i64 N)).setCell ⟨w.heap.size + 1 + 1, 1, none⟩ (.slice rx T.length rcap) = W at hR8 hB8 hrow8 ⊢
      obtain ⟨z0, z1, _, _⟩ := hR8.two
      exact bodyPost_ret (v := .agg #[.int .i64 N, .slice rx T.length rcap]) (by simp [results, Tryz.results61, go_sem, z0, z1]) rfl ⟨_, rfl, hrow8, hB8⟩
end Go.Proofs.YtgejngpioldhpaaGreatDoor

namespace Go.Proofs.YtgejngpioldhpaaGreatDoor
open Go Go.RowKit

/-- What checked answers of an act of as many lists as h has things. -/
def ChR (m : Nat) (CE : Nat → Int) (ST : Nat → Bool) (c i : Int) : Prop :=
  (∃ k : Nat, k < m ∧ (∀ t, t < k → CE t = 0) ∧ CE k ≠ 0 ∧ c = CE k ∧ i = k) ∨
  ((∀ t, t < m → CE t = 0) ∧ ∃ a : Nat, a < m ∧ (∀ t, t < a → ST t = false) ∧ ST a = true ∧ c = 7 ∧ i = a) ∨
  ((∀ t, t < m → CE t = 0) ∧ (∀ t, t < m → ST t = false) ∧ c = 0 ∧ i = 0)
theorem chr_ent {m : Nat} {CE : Nat → Int} {ST : Nat → Bool} {k : Nat} (hk : k < m) (h1 : ∀ t, t < k → CE t = 0) (h2 : CE k ≠ 0) : ChR m CE ST (CE k) k := .inl ⟨k, hk, h1, h2, rfl, rfl⟩
theorem chr_str {m : Nat} {CE : Nat → Int} {ST : Nat → Bool} {a : Nat} (h0 : ∀ t, t < m → CE t = 0) (ha : a < m) (h1 : ∀ t, t < a → ST t = false) (h2 : ST a = true) : ChR m CE ST 7 a := .inr (.inl ⟨h0, a, ha, h1, h2, rfl, rfl⟩)
theorem chr_ok {m : Nat} {CE : Nat → Int} {ST : Nat → Bool} (h0 : ∀ t, t < m → CE t = 0) (h1 : ∀ t, t < m → ST t = false) : ChR m CE ST 0 0 := .inr (.inr ⟨h0, h1, rfl, rfl⟩)
set_option maxRecDepth 100000 in
set_option maxHeartbeats 4000000 in
theorem pchk_size (N : Int) (m : Nat) (v y lv : Value) (ls : List (List Int)) (w : World) (hL : SlL w lv ls) (hm : ls.length ≠ m) :
    Calls Tryz.prog 60 #[.agg #[.int .i64 N, v], .agg #[.int .i64 m, y], lv] w fun x w' => x = .returned (.agg #[.int .i64 8, .int .i64 0]) ∧ Below w.heap.size w w' := by
  obtain ⟨la, lc, lb, lo, rfl, h1, h2, h3, _, _⟩ := hL
  obtain ⟨w0, BG⟩ := BegF.new w N m v y
  obtain ⟨k0, k1, _, _⟩ := BG.boy.two
  have hR6 := blk0 (w := (w.alloc (.cells #[.int .i64 N, v] 24)).alloc (.cells #[.int .i64 m, y] 24)) (T := 27) (.int .i64 8) (.int .i64 0)
  rw [World.size_alloc, World.size_alloc] at hR6
  have hB6 : Below w.heap.size w (((w.alloc (.cells #[.int .i64 N, v] 24)).alloc (.cells #[.int .i64 m, y] 24)).alloc (.cells #[.int .i64 8, .int .i64 0] 27)) := ((balloc w _).alloc (by simp) _).alloc (by simp; omega) _
  obtain ⟨z0, z1, _, _⟩ := hR6.two
  have hne : ((ls.length : Int) != (m : Int)) = true := by
    have : ¬ (ls.length : Int) = (m : Int) := by omega
    simpa using this
  rw [BG.eq] at k0 k1
  clear hm
  go_enter Tryz.func60, Tryz.ntmps60
  go_wp2
  exact bodyPost_ret (v := .agg #[.int .i64 8, .int .i64 0]) (by simp [results, Tryz.results60, go_sem, z0, z1]) rfl ⟨rfl, hB6⟩
set_option maxRecDepth 100000 in
set_option maxHeartbeats 8000000 in
theorem pchk_go (n m : Nat) (v1 : Option Addr) (v2 v3 : Nat) (y1 : Option Addr) (y2 y3 : Nat) (lv : Value) (ls : List (List Int)) (CE : Nat → Int) (ST : Nat → Bool) (w : World) (hL : SlL w lv ls) (hlm : ls.length = m) (hm1 : 1 ≤ m) (hm : m ≤ 60)
    (HCE : Hid (∀ W i u, Below w.heap.size w W → i < m → Sl W u (ls[i]?.getD []) → Calls Tryz.prog 87 #[.agg #[.int .i64 n, .slice v1 v2 v3], u] W fun x W' => x = .returned (.int .i64 (CE i)) ∧ Below W.heap.size W W'))
    (HST : Hid ((∀ t, t < m → CE t = 0) → ∀ W a, Below w.heap.size w W → a < m → Calls Tryz.prog 88 #[.agg #[.int .i64 m, .slice y1 y2 y3], lv, .int .i64 a] W fun x W' => x = .returned (.bool (ST a)) ∧ Below W.heap.size W W')) :
    Calls Tryz.prog 60 #[.agg #[.int .i64 n, .slice v1 v2 v3], .agg #[.int .i64 m, .slice y1 y2 y3], lv] w fun x w' => ∃ c i : Int, x = .returned (.agg #[.int .i64 c, .int .i64 i]) ∧ ChR m CE ST c i ∧ Below w.heap.size w w' := by
  obtain ⟨la, lc, lb, lo, rfl, h1, h2, h3, _, _⟩ := hL
  obtain rfl := h1 (by omega)
  have HROW := hide (fun j (hj : j < m) => row_at h2 (show j < ls.length by omega))
  rw [hlm] at HST ⊢
  clear h1 h2
  obtain ⟨w0, BG⟩ := BegF.new w n m (.slice v1 v2 v3) (.slice y1 y2 y3)
  obtain ⟨k0, k1, _, _⟩ := BG.boy.two
  have hne : ((m : Int) != (m : Int)) = false := by simp
  rw [BG.eq] at k0 k1
  have HLM := hide hlm
  clear hlm
  go_enter Tryz.func60, Tryz.ntmps60
  go_wp2_with fail
  rw [← BG.eq]
  clear k0 k1
  have hB0 := BG.bel
  have hX0 := BG.box
  have hY0 := BG.boy
  have hR0 := BG.res
  clear BG
  go_loopw [19] (fun iv wr => ∃ j : Nat, j ≤ m ∧ iv = .int .i64 j ∧ (∀ t, t < j → CE t = 0) ∧ Below w0.heap.size w0 wr) (fun iv _ => m - (intOf iv).toNat)
  case atStart => exact ⟨0, Nat.zero_le _, rfl, fun t h => by omega, Below.refl _ _⟩
  case round =>
    obtain ⟨j, hj, rfl, hall, hb⟩ := hrel
    have HALL := hide hall
    clear hall
    have hBr := bcat2 hB0 hb
    have hXr := blk_below hX0 hb
    have hRr := blk_below hR0 hb
    by_cases hlt : j < m
    · have hji : (j : Int) < (m : Int) := by omega
      obtain ⟨r1, r3, cr, sr⟩ := HROW.out j hlt
      have cr := below_cell hBr cr
      have HC1 := hide (HCE.out wr j _ hBr hlt (sr.below hBr))
      clear sr
      generalize (ls[j]?.getD []).length = L9 at *
      obtain ⟨x0, x1, _, _⟩ := hXr.two
      go_wp2_with fail
      clear cr x0 x1
      refine HC1.out.mono ?_
      rintro x w2 ⟨rfl, hb2⟩
      have hb02 := bcat2 hb hb2
      have hB2 := bcat2 hBr hb2
      by_cases hz : CE j = 0
      · have HN := hide (show ∀ t, t < j + 1 → CE t = 0 from fun t ht => by
          by_cases e : t = j
          · rw [e]; exact hz
          · exact HALL.out t (by omega))
        rw [hz]
        clear hz
        go_wp2
        go_roundw
        case rel => exact ⟨j + 1, by omega, by go_num, HN.out, hb02⟩
        case measure => simp [intOf]; omega
      · have HE := hide (chr_ent (ST := ST) hlt HALL.out hz)
        have hzb : (CE j != 0) = true := by simpa using hz
        generalize CE j = c9 at *
        clear hz
        have hR2 := blk_below hRr hb2
        obtain ⟨y0, y1, fy0, fy1⟩ := hR2.two
        obtain ⟨hR6, hB6⟩ := put2 hR2 hB2 (by omega) c9 (j : Int)
        obtain ⟨z0, z1, _, _⟩ := hR6.two
        go_wp2
        exact bodyPost_ret (v := .agg #[.int .i64 c9, .int .i64 j]) (by simp [results, Tryz.results60, go_sem, z0, z1]) rfl ⟨_, _, rfl, HE.out, hB6⟩
    · have hji : ¬ (j : Int) < (m : Int) := by omega
      have HCZ := hide (show ∀ t, t < m → CE t = 0 from fun t ht => HALL.out t (by omega))
      have HST := hide (HST.out HCZ.out)
      have hYr := blk_below hY0 hb
      obtain ⟨w4, hw4⟩ : ∃ w4, w4 = wr := ⟨_, rfl⟩
      rw [← hw4] at hBr hYr hRr ⊢
      clear hw4 hb hXr
      obtain ⟨k0, k1, _, _⟩ := hYr.two
      go_wp2_with fail
      clear k0 k1
      go_loopw [35] (fun iv wr => ∃ j : Nat, j ≤ m ∧ iv = .int .i64 j ∧ (∀ t, t < j → ST t = false) ∧ Below w4.heap.size w4 wr) (fun iv _ => m - (intOf iv).toNat)
      case atStart => exact ⟨0, Nat.zero_le _, rfl, fun t h => by omega, Below.refl _ _⟩
      case round =>
        obtain ⟨a, ha, rfl, hall, hb⟩ := hrel
        have HALA := hide hall
        clear hall
        have hBs := bcat2 hBr hb
        have hYs := blk_below hYr hb
        have hRs := blk_below hRr hb
        by_cases hlt : a < m
        · have hai : (a : Int) < (m : Int) := by omega
          have HS1 := hide (HST.out wr a hBs hlt)
          obtain ⟨k0, k1, _, _⟩ := hYs.two
          go_wp2_with fail
          clear k0 k1
          refine HS1.out.mono ?_
          rintro x w2 ⟨rfl, hb2⟩
          have hb02 := bcat2 hb hb2
          have hB2 := bcat2 hBs hb2
          cases hz : ST a with
          | false =>
            have HN := hide (show ∀ t, t < a + 1 → ST t = false from fun t ht => by
              by_cases e : t = a
              · rw [e]; exact hz
              · exact HALA.out t (by omega))
            clear hz
            go_wp2
            go_roundw
            case rel => exact ⟨a + 1, by omega, by go_num, HN.out, hb02⟩
            case measure => simp [intOf]; omega
          | true =>
            have HE := hide (chr_str (a := a) HCZ.out hlt HALA.out hz)
            clear hz
            have hR2 := blk_below hRs hb2
            obtain ⟨y0, y1, fy0, fy1⟩ := hR2.two
            obtain ⟨hR6, hB6⟩ := put2 hR2 hB2 (by omega) 7 (a : Int)
            obtain ⟨z0, z1, _, _⟩ := hR6.two
            go_wp2
            exact bodyPost_ret (v := .agg #[.int .i64 7, .int .i64 a]) (by simp [results, Tryz.results60, go_sem, z0, z1]) rfl ⟨_, _, rfl, HE.out, hB6⟩
        · have hai : ¬ (a : Int) < (m : Int) := by omega
          have HE := hide (chr_ok HCZ.out (ST := ST) (fun t ht => HALA.out t (by omega)))
          obtain ⟨y0, y1, fy0, fy1⟩ := hRs.two
          obtain ⟨s0, s1⟩ := hRs.self
          go_wp2
          exact bodyPost_ret (v := .agg #[.int .i64 0, .int .i64 0]) (by simp [results, Tryz.results60, go_sem, y0, y1]) rfl ⟨_, _, rfl, HE.out, hBs⟩
end Go.Proofs.YtgejngpioldhpaaGreatDoor

namespace Go.Proofs.YtgejngpioldhpaaGreatDoor
open Go Go.RowKit

/-- What Semi has at its beginning: two boxes, and what it answers. -/
structure BegS (w w0 : World) (N M : Int) (v y : Value) : Prop where
  eq : w0 = (((w.alloc (.cells #[.int .i64 N, v] 24)).alloc (.cells #[.int .i64 M, y] 24)).alloc (.cells #[.int .i64 0, .slice none 0 0] 24)).alloc (.cells #[.int .i64 0, .int .i64 0] 27)
  bel : Below w.heap.size w w0
  box : BoxG w0 w.heap.size N v
  boy : BoxG w0 (w.heap.size + 1) M y
  grp : Blk w0 (w.heap.size + 1 + 1) 24 [.int .i64 0, .slice none 0 0]
  res : Blk w0 (w.heap.size + 1 + 1 + 1) 27 [.int .i64 0, .int .i64 0]
theorem BegS.new (w : World) (N M : Int) (v y : Value) : ∃ w0, BegS w w0 N M v y := by
  refine ⟨_, rfl, (((balloc w _).alloc (by simp) _).alloc (by simp; omega) _).alloc (by simp; omega) _, (((blk0 (w := w) (T := 24) _ _).alloc _).alloc _).alloc _, ?_, ?_, ?_⟩
  · have h := ((blk0 (w := w.alloc (.cells #[.int .i64 N, v] 24)) (T := 24) (.int .i64 M) y).alloc (.cells #[.int .i64 0, .slice none 0 0] 24)).alloc (.cells #[.int .i64 0, .int .i64 0] 27)
    rw [World.size_alloc] at h
    exact h
  · have h := (blk0 (w := (w.alloc (.cells #[.int .i64 N, v] 24)).alloc (.cells #[.int .i64 M, y] 24)) (T := 24) (.int .i64 0) (.slice none 0 0)).alloc (.cells #[.int .i64 0, .int .i64 0] 27)
    rw [World.size_alloc, World.size_alloc] at h
    exact h
  · have h := blk0 (w := ((w.alloc (.cells #[.int .i64 N, v] 24)).alloc (.cells #[.int .i64 M, y] 24)).alloc (.cells #[.int .i64 0, .slice none 0 0] 24)) (T := 27) (.int .i64 0) (.int .i64 0)
    rw [World.size_alloc, World.size_alloc, World.size_alloc] at h
    exact h
/-- What Semi answers. -/
def SemR (w : World) (N M : Int) (cn ni ch ih ck ik : Int) (T : List Int) (g : Value) (c i : Int) (w' : World) : Prop :=
  (cn ≠ 0 ∧ g = .agg #[.int .i64 0, .slice none 0 0] ∧ c = cn ∧ i = ni) ∨
  (cn = 0 ∧ ch ≠ 0 ∧ g = .agg #[.int .i64 0, .slice none 0 0] ∧ c = ch ∧ i = ih) ∨
  (cn = 0 ∧ ch = 0 ∧ ck ≠ 0 ∧ g = .agg #[.int .i64 0, .slice none 0 0] ∧ c = ck ∧ i = ik) ∨
  (cn = 0 ∧ ch = 0 ∧ ck = 0 ∧ N * M > 60 ∧ g = .agg #[.int .i64 0, .slice none 0 0] ∧ c = 9 ∧ i = 0) ∨
  (cn = 0 ∧ ch = 0 ∧ ck = 0 ∧ ¬ N * M > 60 ∧ (∃ r1 r2 r3, g = .agg #[.int .i64 (N * M), .slice r1 r2 r3] ∧ Row w' w.heap.size (.slice r1 r2 r3) T) ∧ c = 0 ∧ i = 0)
section
variable {w : World} {N M cn ni ch ih ck ik : Int} {T : List Int} {w' : World}
theorem sem1 (h : cn ≠ 0) : SemR w N M cn ni ch ih ck ik T (.agg #[.int .i64 0, .slice none 0 0]) cn ni w' := .inl ⟨h, rfl, rfl, rfl⟩
theorem sem2 (h0 : cn = 0) (h : ch ≠ 0) : SemR w N M cn ni ch ih ck ik T (.agg #[.int .i64 0, .slice none 0 0]) ch ih w' := .inr (.inl ⟨h0, h, rfl, rfl, rfl⟩)
theorem sem3 (h0 : cn = 0) (h1 : ch = 0) (h : ck ≠ 0) : SemR w N M cn ni ch ih ck ik T (.agg #[.int .i64 0, .slice none 0 0]) ck ik w' := .inr (.inr (.inl ⟨h0, h1, h, rfl, rfl, rfl⟩))
theorem sem4 (h0 : cn = 0) (h1 : ch = 0) (h2 : ck = 0) (h : N * M > 60) : SemR w N M cn ni ch ih ck ik T (.agg #[.int .i64 0, .slice none 0 0]) 9 0 w' := .inr (.inr (.inr (.inl ⟨h0, h1, h2, h, rfl, rfl, rfl⟩)))
theorem sem5 (h0 : cn = 0) (h1 : ch = 0) (h2 : ck = 0) (h : ¬ N * M > 60) {r1 : Option Addr} {r2 r3 : Nat} (hr : Row w' w.heap.size (.slice r1 r2 r3) T) : SemR w N M cn ni ch ih ck ik T (.agg #[.int .i64 (N * M), .slice r1 r2 r3]) 0 0 w' := .inr (.inr (.inr (.inr ⟨h0, h1, h2, h, ⟨r1, r2, r3, rfl, hr⟩, rfl, rfl⟩)))
end
set_option maxRecDepth 100000 in
set_option maxHeartbeats 8000000 in
theorem semi_walk (N M : Int) (v1 : Option Addr) (v2 v3 : Nat) (y1 : Option Addr) (y2 y3 : Nat) (lv : Value) (cn ni ch ih ck ik : Int) (T : List Int) (w : World)
    (HCN : Hid (∀ W, Below w.heap.size w W → Calls Tryz.prog 59 #[.agg #[.int .i64 N, .slice v1 v2 v3]] W fun x W' => x = .returned (.agg #[.int .i64 cn, .int .i64 ni]) ∧ Below W.heap.size W W'))
    (HCH : Hid (∀ W, Below w.heap.size w W → Calls Tryz.prog 59 #[.agg #[.int .i64 M, .slice y1 y2 y3]] W fun x W' => x = .returned (.agg #[.int .i64 ch, .int .i64 ih]) ∧ Below W.heap.size W W'))
    (HNM : Hid (cn = 0 → ch = 0 → IntKind.i64.wrap (N * M) = N * M))
    (HCK : Hid (cn = 0 → ch = 0 → ∀ W, Below w.heap.size w W → Calls Tryz.prog 60 #[.agg #[.int .i64 N, .slice v1 v2 v3], .agg #[.int .i64 M, .slice y1 y2 y3], lv] W fun x W' => x = .returned (.agg #[.int .i64 ck, .int .i64 ik]) ∧ Below W.heap.size W W'))
    (HPA : Hid (cn = 0 → ch = 0 → ck = 0 → ¬ N * M > 60 → ∀ W, Below w.heap.size w W → Calls Tryz.prog 61 #[.agg #[.int .i64 N, .slice v1 v2 v3], .agg #[.int .i64 M, .slice y1 y2 y3], lv] W fun x W' => ∃ r1 r2 r3, x = .returned (.agg #[.int .i64 (N * M), .slice r1 r2 r3]) ∧ Row W' W.heap.size (.slice r1 r2 r3) T ∧ Below W.heap.size W W')) :
    Calls Tryz.prog 33 #[.agg #[.int .i64 N, .slice v1 v2 v3], .agg #[.int .i64 M, .slice y1 y2 y3], lv] w fun x w' => ∃ g c i, x = .returned (.tuple #[g, .agg #[.int .i64 c, .int .i64 i]]) ∧ SemR w N M cn ni ch ih ck ik T g c i w' ∧ Below w.heap.size w w' := by
  have HS1 := hide (fun W h => sem1 (w := w) (N := N) (M := M) (cn := cn) (ni := ni) (ch := ch) (ih := ih) (ck := ck) (ik := ik) (T := T) (w' := W) h)
  have HS2 := hide (fun W h0 h => sem2 (w := w) (N := N) (M := M) (cn := cn) (ni := ni) (ch := ch) (ih := ih) (ck := ck) (ik := ik) (T := T) (w' := W) h0 h)
  have HS3 := hide (fun W h0 h1 h => sem3 (w := w) (N := N) (M := M) (cn := cn) (ni := ni) (ch := ch) (ih := ih) (ck := ck) (ik := ik) (T := T) (w' := W) h0 h1 h)
  have HS4 := hide (fun W h0 h1 h2 h => sem4 (w := w) (N := N) (M := M) (cn := cn) (ni := ni) (ch := ch) (ih := ih) (ck := ck) (ik := ik) (T := T) (w' := W) h0 h1 h2 h)
  have HS5 := hide (fun W h0 h1 h2 h r1 r2 r3 hr => sem5 (w := w) (N := N) (M := M) (cn := cn) (ni := ni) (ch := ch) (ih := ih) (ck := ck) (ik := ik) (T := T) (w' := W) h0 h1 h2 h (r1 := r1) (r2 := r2) (r3 := r3) hr)
  obtain ⟨w0, BG⟩ := BegS.new w N M (.slice v1 v2 v3) (.slice y1 y2 y3)
  obtain ⟨c0, c1, _, _⟩ := BG.box.two
  obtain ⟨k0, k1, _, _⟩ := BG.boy.two
  rw [BG.eq] at c0 c1 k0 k1
  go_enter Tryz.func33, Tryz.ntmps33
  go_wp2_with fail
  rw [← BG.eq]
  have hsz0 : w0.heap.size = w.heap.size + 1 + 1 + 1 + 1 := by rw [BG.eq]; simp
  rw [← hsz0]
  have HSZ := hide hsz0
  clear c0 c1 k0 k1 hsz0
  obtain ⟨wa, hwa⟩ : ∃ wa, wa = w0.alloc (.cells #[.int .i64 N, .slice v1 v2 v3, .int .i64 M, .slice y1 y2 y3] 24) := ⟨_, rfl⟩
  have hba : Below w0.heap.size w0 wa := by rw [hwa]; exact balloc w0 _
  have hQa : Blk wa w0.heap.size 24 [.int .i64 N, .slice v1 v2 v3, .int .i64 M, .slice y1 y2 y3] := by rw [hwa]; exact World.alloc_heap_new w0 _
  rw [← hwa]
  clear hwa
  have hBa := bcat2 BG.bel hba
  have hXa := blk_below BG.box hba
  have hYa := blk_below BG.boy hba
  have hGa := blk_below BG.grp hba
  have hRa := blk_below BG.res hba
  clear BG hba
  generalize w0.heap.size = qb at *
  go_loopw [16] (fun iv wr => (iv = .int .i64 0 ∨ (iv = .int .i64 1 ∧ cn = 0) ∨ (iv = .int .i64 2 ∧ cn = 0 ∧ ch = 0)) ∧ Below wa.heap.size wa wr) (fun iv _ => 2 - (intOf iv).toNat)
  case atStart => exact ⟨.inl rfl, Below.refl _ _⟩
  case round =>
    obtain ⟨hcase, hb⟩ := hrel
    have hBr := bcat2 hBa hb
    have hXr := blk_below hXa hb
    have hYr := blk_below hYa hb
    have hGr := blk_below hGa hb
    have hRr := blk_below hRa hb
    have hQr := blk_below hQa hb
    have q0 := hQr.cell 0
    have q1 := hQr.cell 1
    have q2 := hQr.cell 2
    have q3 := hQr.cell 3
    simp at q0 q1 q2 q3
    rcases hcase with rfl | ⟨rfl, hcn⟩ | ⟨rfl, hcn, hch⟩
    · clear hQr
      go_wp2_with fail
      obtain ⟨wb, hwb⟩ : ∃ wb, wb = wr.alloc (.cells #[.int .i64 N, .slice v1 v2 v3] 24) := ⟨_, rfl⟩
      rw [← hwb]
      have hbb : Below wr.heap.size wr wb := by rw [hwb]; exact balloc wr _
      clear hwb q0 q1 q2 q3
      refine (HCN.out _ (bcat2 hBr hbb)).mono ?_
      rintro x w2 ⟨rfl, hb2⟩
      have hbx := bcat2 hbb (bcat2 hb2 (balloc w2 (.cells #[.int .i64 cn, .int .i64 ni] 27)))
      have hF2 := blk0 (w := w2) (T := 27) (.int .i64 cn) (.int .i64 ni)
      have hb02 := bcat2 hb hbx
      have hBw2 := bcat2 hBr hbx
      have hG2 := blk_below hGr hbx
      have hR2 := blk_below hRr hbx
      obtain ⟨t0, t1, _, _⟩ := hF2.two
      by_cases hz : cn = 0
      · have HZ := hide hz
        rw [hz] at t0 hb02 ⊢
        clear hz
        go_wp2
        go_roundw
        case rel => exact ⟨.inr (.inl ⟨rfl, HZ.out⟩), hb02⟩
        case measure => simp [intOf]
      · have hzb : (cn != 0) = true := by simpa using hz
        have HZ := hide hz
        clear hz
        obtain ⟨y0, y1, fy0, fy1⟩ := hR2.two
        obtain ⟨g0, g1, fg0, fg1⟩ := hG2.two
        obtain ⟨s0, s1⟩ := hG2.self
        obtain ⟨hR6, hB6⟩ := put2 hR2 hBw2 (by omega) cn ni
        have hG6 := (hG2.other (p := ⟨w.heap.size + 1 + 1 + 1, 0, none⟩) (by simp) (.int .i64 cn)).other (p := ⟨w.heap.size + 1 + 1 + 1, 1, none⟩) (by simp) (.int .i64 ni)
        obtain ⟨g2, g3, fg2, fg3⟩ := hG6.two
        obtain ⟨s2, s3⟩ := hG6.self
        obtain ⟨z0, z1, _, _⟩ := hR6.two
        go_wp2_with fail
        go_region
        all_goals (
          go_wp2
          exact bodyPost_ret (v := .tuple #[.agg #[.int .i64 0, .slice none 0 0], .agg #[.int .i64 cn, .int .i64 ni]]) (by simp [results, Tryz.results33, go_sem, z0, z1, g2, g3]) rfl ⟨_, _, _, rfl, HS1.out _ HZ.out, bdrew hB6⟩)
    · have HCN0 := hide hcn
      clear hcn hQr
      go_wp2_with fail
      obtain ⟨wb, hwb⟩ : ∃ wb, wb = wr.alloc (.cells #[.int .i64 M, .slice y1 y2 y3] 24) := ⟨_, rfl⟩
      rw [← hwb]
      have hbb : Below wr.heap.size wr wb := by rw [hwb]; exact balloc wr _
      clear hwb q0 q1 q2 q3
      refine (HCH.out _ (bcat2 hBr hbb)).mono ?_
      rintro x w2 ⟨rfl, hb2⟩
      have hbx := bcat2 hbb (bcat2 hb2 (balloc w2 (.cells #[.int .i64 ch, .int .i64 ih] 27)))
      have hF2 := blk0 (w := w2) (T := 27) (.int .i64 ch) (.int .i64 ih)
      have hb02 := bcat2 hb hbx
      have hBw2 := bcat2 hBr hbx
      have hG2 := blk_below hGr hbx
      have hR2 := blk_below hRr hbx
      obtain ⟨t0, t1, _, _⟩ := hF2.two
      by_cases hz : ch = 0
      · have HZ := hide hz
        rw [hz] at t0 hb02 ⊢
        clear hz
        go_wp2
        go_roundw
        case rel => exact ⟨.inr (.inr ⟨rfl, HCN0.out, HZ.out⟩), hb02⟩
        case measure => simp [intOf]
      · have hzb : (ch != 0) = true := by simpa using hz
        have HZ := hide hz
        clear hz
        obtain ⟨y0, y1, fy0, fy1⟩ := hR2.two
        obtain ⟨g0, g1, fg0, fg1⟩ := hG2.two
        obtain ⟨s0, s1⟩ := hG2.self
        obtain ⟨hR6, hB6⟩ := put2 hR2 hBw2 (by omega) ch ih
        have hG6 := (hG2.other (p := ⟨w.heap.size + 1 + 1 + 1, 0, none⟩) (by simp) (.int .i64 ch)).other (p := ⟨w.heap.size + 1 + 1 + 1, 1, none⟩) (by simp) (.int .i64 ih)
        obtain ⟨g2, g3, fg2, fg3⟩ := hG6.two
        obtain ⟨s2, s3⟩ := hG6.self
        obtain ⟨z0, z1, _, _⟩ := hR6.two
        go_wp2_with fail
        go_region
        all_goals (
          go_wp2
          exact bodyPost_ret (v := .tuple #[.agg #[.int .i64 0, .slice none 0 0], .agg #[.int .i64 ch, .int .i64 ih]]) (by simp [results, Tryz.results33, go_sem, z0, z1, g2, g3]) rfl ⟨_, _, _, rfl, HS2.out _ HCN0.out HZ.out, bdrew hB6⟩)
    · have HCN0 := hide hcn
      have HCH0 := hide hch
      have hNM := HNM.out hcn hch
      have HCK := hide (HCK.out hcn hch)
      have HPA := hide (HPA.out hcn hch)
      clear hcn hch hQr q0 q1 q2 q3
      obtain ⟨c0, c1, _, _⟩ := hXr.two
      obtain ⟨k0, k1, _, _⟩ := hYr.two
      go_wp2_with fail
      clear c0 c1 k0 k1
      refine (HCK.out _ hBr).mono ?_
      rintro x w2 ⟨rfl, hb2⟩
      have hbx := bcat2 hb2 (balloc w2 (.cells #[.int .i64 ck, .int .i64 ik] 27))
      have hF2 := blk0 (w := w2) (T := 27) (.int .i64 ck) (.int .i64 ik)
      have hBw2 := bcat2 hBr hbx
      have hX2 := blk_below hXr hbx
      have hY2 := blk_below hYr hbx
      have hG2 := blk_below hGr hbx
      have hR2 := blk_below hRr hbx
      obtain ⟨t0, t1, _, _⟩ := hF2.two
      by_cases hz : ck = 0
      · have HZ := hide hz
        have HPA := hide (HPA.out hz)
        rw [hz] at t0 t1 ⊢
        rw [hz] at hbx hBw2 hX2 hY2 hG2 hR2
        clear hz hF2 hbx
        obtain ⟨c0, c1, _, _⟩ := hX2.two
        obtain ⟨k0, k1, _, _⟩ := hY2.two
        by_cases hbig : N * M > 60
        · have HB := hide hbig
          obtain ⟨y0, y1, fy0, fy1⟩ := hR2.two
          obtain ⟨g0, g1, fg0, fg1⟩ := hG2.two
          obtain ⟨s0, s1⟩ := hG2.self
          obtain ⟨hR6, hB6⟩ := put2 hR2 hBw2 (by omega) 9 0
          have hG6 := (hG2.other (p := ⟨w.heap.size + 1 + 1 + 1, 0, none⟩) (by simp) (.int .i64 9)).other (p := ⟨w.heap.size + 1 + 1 + 1, 1, none⟩) (by simp) (.int .i64 0)
          obtain ⟨g2, g3, fg2, fg3⟩ := hG6.two
          obtain ⟨s2, s3⟩ := hG6.self
          obtain ⟨z0, z1, _, _⟩ := hR6.two
          go_wp2
          exact bodyPost_ret (v := .tuple #[.agg #[.int .i64 0, .slice none 0 0], .agg #[.int .i64 9, .int .i64 0]]) (by simp [results, Tryz.results33, go_sem, z0, z1, g2, g3]) rfl ⟨_, _, _, rfl, HS4.out _ HCN0.out HCH0.out HZ.out HB.out, hB6⟩
        · have HB := hide hbig
          have HPA := hide (HPA.out (by omega))
          go_wp2_with fail
          clear c0 c1 k0 k1 t0 t1
          generalize w2.alloc (.cells #[.int .i64 0, .int .i64 ik] 27) = w3 at *
          refine (HPA.out _ hBw2).mono ?_
          rintro x w4 ⟨r1, r2, r3, rfl, hrow, hb4⟩
          have hBw4 := bcat2 hBw2 hb4
          have hG4 := blk_below hG2 hb4
          have hR4 := blk_below hR2 hb4
          obtain ⟨y0, y1, fy0, fy1⟩ := hR4.two
          obtain ⟨g0, g1, fg0, fg1⟩ := hG4.two
          obtain ⟨s0, s1⟩ := hR4.self
          have hG6 := (hG4.set 0 (.int .i64 (N * M))).set 1 (.slice r1 r2 r3)
          have hR6 := (hR4.other (p := ⟨w.heap.size + 1 + 1, 0, none⟩) (by simp) (.int .i64 (N * M))).other (p := ⟨w.heap.size + 1 + 1, 1, none⟩) (by simp) (.slice r1 r2 r3)
          obtain ⟨g2, g3, fg2, fg3⟩ := hG6.two
          obtain ⟨z0, z1, fz0, fz1⟩ := hR6.two
          obtain ⟨s2, s3⟩ := hR6.self
          have hB6 := (hBw4.setCell (p := ⟨w.heap.size + 1 + 1, 0, none⟩) (by simp; omega) (.int .i64 (N * M))).setCell (p := ⟨w.heap.size + 1 + 1, 1, none⟩) (by simp; omega) (.slice r1 r2 r3)
          have hsz3 : w.heap.size + 1 + 1 < w3.heap.size := hG2.lt
          have hrow6 := row_keep (W' := (w4.setCell ⟨w.heap.size + 1 + 1, 0, none⟩ (.int .i64 (N * M))).setCell ⟨w.heap.size + 1 + 1, 1, none⟩ (.slice r1 r2 r3)) hrow (fun g h1 _ => by rw [Below.heap_setCell _ _ _ g (by simp; omega), Below.heap_setCell _ _ _ g (by simp; omega)])
          have hrow7 := owns_mono hrow6 (show w.heap.size ≤ w3.heap.size by omega)
          have HS := hide (HS5.out _ HCN0.out HCH0.out HZ.out HB.out _ _ _ hrow7)
          clear hrow hrow6 hrow7
          go_wp2
          exact bodyPost_ret (v := .tuple #[.agg #[.int .i64 (N * M), .slice r1 r2 r3], .agg #[.int .i64 0, .int .i64 0]]) (by simp [results, Tryz.results33, go_sem, z0, z1, g2, g3]) rfl ⟨_, _, _, rfl, HS.out, hB6⟩
      · have hzb : (ck != 0) = true := by simpa using hz
        have HZ := hide hz
        clear hz
        obtain ⟨y0, y1, fy0, fy1⟩ := hR2.two
        obtain ⟨g0, g1, fg0, fg1⟩ := hG2.two
        obtain ⟨s0, s1⟩ := hG2.self
        obtain ⟨hR6, hB6⟩ := put2 hR2 hBw2 (by omega) ck ik
        have hG6 := (hG2.other (p := ⟨w.heap.size + 1 + 1 + 1, 0, none⟩) (by simp) (.int .i64 ck)).other (p := ⟨w.heap.size + 1 + 1 + 1, 1, none⟩) (by simp) (.int .i64 ik)
        obtain ⟨g2, g3, fg2, fg3⟩ := hG6.two
        obtain ⟨s2, s3⟩ := hG6.self
        obtain ⟨z0, z1, _, _⟩ := hR6.two
        go_wp2_with fail
        go_region
        all_goals (
          go_wp2
          exact bodyPost_ret (v := .tuple #[.agg #[.int .i64 0, .slice none 0 0], .agg #[.int .i64 ck, .int .i64 ik]]) (by simp [results, Tryz.results33, go_sem, z0, z1, g2, g3]) rfl ⟨_, _, _, rfl, HS3.out _ HCN0.out HCH0.out HZ.out, bdrew hB6⟩)
end Go.Proofs.YtgejngpioldhpaaGreatDoor
