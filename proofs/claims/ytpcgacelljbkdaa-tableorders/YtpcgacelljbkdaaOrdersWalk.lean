/- TableOrders returns true at every table that fits the machine and every two ints. -/
import Derived.Test.YtpcgacelljbkdaaBegun
import Derived.Test.YtpcgacelljbkdaaFrame
import Derived.Test.YtpcgacelljbkdaaExpo
namespace Go.Proofs.Ytpcgacelljbkdaa
open Go Go.RowKit

theorem sl1 (W : World) (a : Int) : Sl (W.alloc (.cells #[.int .i64 a] 3)) (.slice (some ⟨W.heap.size, 0, none⟩) 1 1) [a] :=
  Sl.of_blk (zs := [a]) (World.alloc_heap_new W _) rfl (by simp)
/-- The list that goes with a fault: none where there is one. -/
def okL (c : Int) (xs : List Int) : List Int := if c = 0 then xs else []
theorem okL_zero (xs : List Int) : okL 0 xs = xs := if_pos rfl

/-- The one of a table, as a number. -/
def oneN (N : Int) (zs : List Int) : Nat := (one N.toNat zs).toNat
theorem oneN_grp {n e : Nat} {zs : List Int} (h : IsGrp n zs e) : oneN n zs = e := by
  unfold oneN
  rw [Int.toNat_natCast, h.one, Int.toNat_natCast]
theorem pow_any (N a z : Int) (v : Value) (zs : List Int) (w : World) (hv : Sl w v zs) :
    Calls Try.prog 28 #[.agg #[.int .i64 N, v], .int .i64 a, .int .i64 z] w fun x w' => x = .returned (.tuple #[.int .i64 (okI (tfault N zs a).1 (pz N.toNat zs (oneN N zs) a.toNat z)), .agg #[.int .i64 (tfault N zs a).1, .int .i64 (tfault N zs a).2]]) ∧ Below w.heap.size w w' := by
  by_cases hf : (tfault N zs a).1 = 0
  · obtain ⟨n, e, b, rfl, rfl, h, hb, hz⟩ := tfault_grp hf
    rw [hz, okI_zero, oneN_grp h, Int.toNat_natCast, Int.toNat_natCast]
    exact pow_ok h hb z v w hv
  · refine (pow_bad N a z v zs w hv hf).mono ?_
    rintro x w' ⟨rfl, hb⟩
    refine ⟨?_, hb⟩
    rw [show okI (tfault N zs a).1 (pz N.toNat zs (oneN N zs) a.toNat z) = 0 from if_neg hf]
theorem orders_any (N : Int) (v : Value) (zs : List Int) (w : World) (hv : Sl w v zs) :
    Calls Try.prog 29 #[.agg #[.int .i64 N, v]] w fun x w' => ∃ r, x = .returned (.tuple #[r, .agg #[.int .i64 (gfault N zs).1, .int .i64 (gfault N zs).2]]) ∧ Sl w' r (okL (gfault N zs).1 (ordL N.toNat zs (oneN N zs))) ∧ Below w.heap.size w w' := by
  by_cases hf : (gfault N zs).1 = 0
  · obtain ⟨n, e, rfl, h, hz⟩ := gfault_grp hf
    rw [hz, okL_zero, oneN_grp h, Int.toNat_natCast]
    exact orders_ok n e v zs w h hv
  · refine (orders_bad N v zs w hv hf).mono ?_
    rintro x w' ⟨rfl, hb⟩
    refine ⟨_, rfl, ?_, hb⟩
    rw [show okL (gfault N zs).1 (ordL N.toNat zs (oneN N zs)) = [] from if_neg hf]
    refine Sl.nil ?_
    obtain ⟨_, _, _, _, _, _, hp, _, _⟩ := hv
    have := hb.size
    omega
theorem exponent_any (N : Int) (v : Value) (zs : List Int) (w : World) (hv : Sl w v zs) :
    Calls Try.prog 30 #[.agg #[.int .i64 N, v]] w fun x w' => x = .returned (.tuple #[.int .i64 (okI (gfault N zs).1 (lc (ordN N.toNat zs (oneN N zs)) N.toNat)), .agg #[.int .i64 (gfault N zs).1, .int .i64 (gfault N zs).2]]) ∧ Below w.heap.size w w' := by
  by_cases hf : (gfault N zs).1 = 0
  · obtain ⟨n, e, rfl, h, hz⟩ := gfault_grp hf
    rw [hz, okI_zero, oneN_grp h, Int.toNat_natCast]
    exact exponent_ok h v w hv
  · refine (exponent_bad N v zs w hv hf).mono ?_
    rintro x w' ⟨rfl, hb⟩
    refine ⟨?_, hb⟩
    rw [show okI (gfault N zs).1 (lc (ordN N.toNat zs (oneN N zs)) N.toNat) = 0 from if_neg hf]

theorem call31 (x y z : Value) (W : World) : Sem.run Try.prog (callFunc 31 #[x, y, z]) W = .ok (.enter 31 #[x, y, z]) W := by kernel_rfl
set_option maxRecDepth 100000 in
set_option maxHeartbeats 8000000 in
theorem pBox_ok {n e : Nat} {zs : List Int} (h : IsGrp n zs e) {a : Nat} (ha : a < n) (z : Int) (b b2 b3 : Nat) (v : Value) (w : World) (hg : BoxG w b n v) (h2 : Boxed w b2 3 (.int .i64 a)) (h3 : Boxed w b3 3 (.int .i64 z)) (hv : Sl w v zs) :
    Calls Try.prog 31 #[.pointer (some ⟨b, 0, none⟩), .pointer (some ⟨b2, 0, none⟩), .pointer (some ⟨b3, 0, none⟩)] w fun r w' => r = .returned (.int .i64 (pz n zs e a z)) ∧ Below w.heap.size w w' := by
  obtain ⟨c0, c1, _, _⟩ := hg.two
  have c2 := h2.cell
  have c3 := h3.cell
  have HP := hide (P_ok h ha z v w hv)
  clear h
  go_enter Try.func31, Try.ntmps31
  go_wp2_with fail
  refine HP.out.mono ?_
  rintro x w1 ⟨rfl, hb1⟩
  go_wp2
  go_ret
  exact ⟨retI rfl, hb1⟩

set_option maxRecDepth 100000 in
set_option maxHeartbeats 8000000 in
theorem ords_any (N a z : Int) (v : Value) (zs : List Int) (w : World) (hv : SlA w v zs) (hbz : zs.length * 8 ≤ 140737488355328) :
    Calls Try.prog 4 #[.agg #[.int .i64 N, v], .int .i64 a, .int .i64 z] w fun r w' => r = .returned (.bool true) ∧ Below w.heap.size w w' := by
  obtain ⟨c, i, hci⟩ : ∃ c i, gfault N zs = (c, i) := ⟨_, _, rfl⟩
  obtain ⟨d, j, hdj⟩ : ∃ d j, tfault N zs a = (d, j) := ⟨_, _, rfl⟩
  have Hown := hide (fun (W : World) (h : Sl W v zs) => ownGroup_any N v zs W h hbz)
  have Hpow := hide (fun (r : Value) (W : World) (h : Sl W r zs) => pow_any N a z r zs W h)
  have Hord := hide (fun (r : Value) (W : World) (h : Sl W r zs) => orders_any N r zs W h)
  have Hexp := hide (fun (r : Value) (W : World) (h : Sl W r zs) => exponent_any N r zs W h)
  have Hgf := hide (fun (r : Value) (W : World) (h : Sl W r zs) => groupFault_any N r zs W h)
  have Htf := hide (fun (r s : Value) (W : World) (h : Sl W r zs) (k : Sl W s [a]) => thingFault_any N r s zs [a] W h k (by simp))
  rw [hdj] at Hpow
  rw [hci] at Hord Hexp Hgf
  rw [tfl_one, hdj] at Htf
  have HP : Hid (∀ (b b2 b3 : Nat) (r : Value) (W : World), BoxG W b N r → Boxed W b2 3 (.int .i64 a) → Boxed W b3 3 (.int .i64 z) → Sl W r zs → d = 0 → Calls Try.prog 31 #[.pointer (some ⟨b, 0, none⟩), .pointer (some ⟨b2, 0, none⟩), .pointer (some ⟨b3, 0, none⟩)] W fun e w' => e = .returned (.int .i64 (pz N.toNat zs (oneN N zs) a.toNat z)) ∧ Below W.heap.size W w') := fun b b2 b3 r W hg h2 h3 h h0 => by
    obtain ⟨n, e, k, rfl, rfl, hgr, hkn, _⟩ := tfault_grp (N := N) (zs := zs) (a := a) (by rw [hdj]; exact h0)
    rw [Int.toNat_natCast, Int.toNat_natCast, oneN_grp hgr]
    exact pBox_ok hgr hkn z b b2 b3 r W hg h2 h3 h
  have HGR := hide (fun (h0 : c = 0) => gfault_grp (N := N) (zs := zs) (by rw [hci]; exact h0))
  generalize pz N.toNat zs (oneN N zs) a.toNat z = pv at *
  clear hci hdj
  obtain ⟨w0, hw0⟩ : ∃ w0, w0 = ((w.alloc (.cells #[.int .i64 N, v] 24)).alloc (.cells #[.int .i64 a] 3)).alloc (.cells #[.int .i64 z] 3) := ⟨_, rfl⟩
  have hB0 : Below w.heap.size w w0 := by rw [hw0]; exact ((balloc w _).alloc (by simp) _).alloc (by simp; omega) _
  have hg0 : BoxG w0 w.heap.size N v := by rw [hw0]; exact ((blk0 _ _).alloc _).alloc _
  have ha0 : Boxed w0 (w.heap.size + 1) 3 (.int .i64 a) := by
    rw [hw0]
    have := Boxed.new (w.alloc (.cells #[.int .i64 N, v] 24)) 3 (.int .i64 a)
    rw [World.size_alloc] at this; exact this.alloc _
  have hz0 : Boxed w0 (w.heap.size + 1 + 1) 3 (.int .i64 z) := by
    rw [hw0]
    have := Boxed.new ((w.alloc (.cells #[.int .i64 N, v] 24)).alloc (.cells #[.int .i64 a] 3)) 3 (.int .i64 z)
    rw [World.size_alloc, World.size_alloc] at this; exact this
  have hv0 := hv.up hB0 (by have := hg0.lt; omega)
  obtain ⟨k0, k1, _, _⟩ := hg0.two
  rw [hw0] at k0 k1
  go_enter Try.func4, Try.ntmps4
  go_wp2_with fail
  rw [← hw0]
  refine (Hown.out _ hv0).mono ?_
  rintro r w1 ⟨u, rfl, hu1, hb1⟩
  clear k0 k1 hw0
  obtain ⟨a9, cap9, _, _, rfl, _⟩ := id hu1
  generalize zs.length = l9 at *
  have hA1 := balloc w1 (.cells #[.int .i64 N, .slice a9 l9 cap9] 24)
  have hX1 : BoxG (w1.alloc (.cells #[.int .i64 N, .slice a9 l9 cap9] 24)) w1.heap.size N (.slice a9 l9 cap9) := blk0 _ _
  have hu1 := hu1.below hA1
  have to1 := bcat2 hb1 hA1
  have xa := below_cell to1 ha0.cell
  have xz := below_cell to1 hz0.cell
  go_wp2_with fail
  refine (Hpow.out _ _ hu1).mono ?_
  rintro r w2 ⟨rfl, hb2⟩
  have al2 := bcat2 hb2 (balloc w2 (.cells #[.int .i64 d, .int .i64 j] 27))
  have N9 : Blk (w2.alloc (.cells #[.int .i64 d, .int .i64 j] 27)) w2.heap.size 27 [.int .i64 d, .int .i64 j] := blk0 _ _
  clear xa xz
  obtain ⟨x0, x1, _, _⟩ := (blk_below hX1 al2).two
  go_wp2_with fail
  refine (Hord.out _ _ (hu1.below al2)).mono ?_
  rintro r w3 ⟨ro, rfl, hro, hb3⟩
  have al3 := bcat2 hb3 (balloc w3 (.cells #[.int .i64 c, .int .i64 i] 27))
  have to3 := bcat2 al2 al3
  have N11 : Blk (w3.alloc (.cells #[.int .i64 c, .int .i64 i] 27)) w3.heap.size 27 [.int .i64 c, .int .i64 i] := blk0 _ _
  clear x0 x1
  obtain ⟨x0, x1, _, _⟩ := (blk_below hX1 to3).two
  go_wp2_with fail
  refine (Hexp.out _ _ (hu1.below to3)).mono ?_
  rintro r w4 ⟨rfl, hb4⟩
  have al4 := bcat2 hb4 (balloc w4 (.cells #[.int .i64 c, .int .i64 i] 27))
  have to4 := bcat2 to3 al4
  have N13 : Blk (w4.alloc (.cells #[.int .i64 c, .int .i64 i] 27)) w4.heap.size 27 [.int .i64 c, .int .i64 i] := blk0 _ _
  clear x0 x1
  have g04 := below_cell (bcat2 to1 to4) hg0.two.1
  have g14 := below_cell (bcat2 to1 to4) hg0.two.2.1
  go_wp2_with fail
  refine (Hgf.out _ _ (hv0.below (bcat2 to1 to4))).mono ?_
  rintro r w5 ⟨rfl, hb5⟩
  have al5 := bcat2 hb5 (balloc w5 (.cells #[.int .i64 c, .int .i64 i] 27))
  have N14 : Blk (w5.alloc (.cells #[.int .i64 c, .int .i64 i] 27)) w5.heap.size 27 [.int .i64 c, .int .i64 i] := blk0 _ _
  have N9' := blk_below N9 (bcat2 al3 (bcat2 al4 al5))
  have N11' := blk_below N11 (bcat2 al4 al5)
  have N13' := blk_below N13 al5
  have hro' := (hro.below (balloc w3 (.cells #[.int .i64 c, .int .i64 i] 27))).below (bcat2 al4 al5)
  have to6 := bcat2 to1 (bcat2 to4 al5)
  have hg' := blk_below hg0 to6
  have ha' := Boxed.below ha0 to6
  have hz' := Boxed.below hz0 to6
  have hv' := hv0.below to6
  have hB' := bcat hB0 to6 hB0.size
  clear g04 g14 hb2 hb3 hb4 hb5 al2 al3 al4 al5 to1 to3 to4 to6 N9 N11 N13 hX1 hu1 hg0 ha0 hz0 hv0 hA1 hb1 Hown Hpow Hord Hexp Hgf hB0 hro
  obtain ⟨hg0c, hg1c, _, _⟩ := hg'.two
  have hac := ha'.cell
  obtain ⟨n90, n91, _, _⟩ := N9'.two
  obtain ⟨n110, n111, _, _⟩ := N11'.two
  obtain ⟨n130, n131, _, _⟩ := N13'.two
  obtain ⟨n140, n141, _, _⟩ := N14.two
  have HN : Hid (∀ W, Below (w5.alloc (.cells #[.int .i64 c, .int .i64 i] 27)).heap.size (w5.alloc (.cells #[.int .i64 c, .int .i64 i] 27)) W → Calls Try.prog 22 #[.int .i64 (okI d pv), .agg #[.int .i64 d, .int .i64 j], .agg #[.int .i64 d, .int .i64 j], .func (.func 31) #[] #[.pointer (some ⟨w.heap.size, 0, none⟩), .pointer (some ⟨w.heap.size + 1, 0, none⟩), .pointer (some ⟨w.heap.size + 1 + 1, 0, none⟩)]] W fun e w' => e = .returned (.bool true) ∧ Below W.heap.size W w') := fun W h =>
    numberAs_any _ d j 31 _ pv W rfl (fun W => call31 _ _ _ W) (fun W2 h2 h0 => HP.out _ _ _ _ W2 (blk_below hg' (bcat2 h h2)) (Boxed.below ha' (bcat2 h h2)) (Boxed.below hz' (bcat2 h h2)) (hv'.below (bcat2 h h2)) h0)
  clear HP
  go_wp2_with fail
  generalize w5.alloc (.cells #[.int .i64 c, .int .i64 i] 27) = w7 at *
  have hS : ∀ W, Below w7.heap.size w7 W → (Below w7.heap.size w7 W ∧ W.cell? ⟨w.heap.size, 0, none⟩ = some (.int .i64 N) ∧ W.cell? ⟨w.heap.size, 1, none⟩ = some v ∧ W.cell? ⟨w.heap.size + 1, 0, none⟩ = some (.int .i64 a) ∧ W.cell? ⟨w2.heap.size, 0, none⟩ = some (.int .i64 d) ∧ W.cell? ⟨w2.heap.size, 1, none⟩ = some (.int .i64 j) ∧ W.cell? ⟨w3.heap.size, 0, none⟩ = some (.int .i64 c) ∧ W.cell? ⟨w3.heap.size, 1, none⟩ = some (.int .i64 i) ∧ W.cell? ⟨w5.heap.size, 0, none⟩ = some (.int .i64 c) ∧ W.cell? ⟨w5.heap.size, 1, none⟩ = some (.int .i64 i)) := fun W h => ⟨h, below_cell h hg0c, below_cell h hg1c, below_cell h hac, below_cell h n90, below_cell h n91, below_cell h n110, below_cell h n111, below_cell h n140, below_cell h n141⟩
  have hS0 := hS _ (bdrew (Below.refl _ w7))
  clear hg0c hg1c hac n90 n91 n110 n111 n130 n131 n140 n141
  go_region_held3 (fun W => Below w7.heap.size w7 W ∧ W.cell? ⟨w.heap.size, 0, none⟩ = some (.int .i64 N) ∧ W.cell? ⟨w.heap.size, 1, none⟩ = some v ∧ W.cell? ⟨w.heap.size + 1, 0, none⟩ = some (.int .i64 a) ∧ W.cell? ⟨w2.heap.size, 0, none⟩ = some (.int .i64 d) ∧ W.cell? ⟨w2.heap.size, 1, none⟩ = some (.int .i64 j) ∧ W.cell? ⟨w3.heap.size, 0, none⟩ = some (.int .i64 c) ∧ W.cell? ⟨w3.heap.size, 1, none⟩ = some (.int .i64 i) ∧ W.cell? ⟨w5.heap.size, 0, none⟩ = some (.int .i64 c) ∧ W.cell? ⟨w5.heap.size, 1, none⟩ = some (.int .i64 i))
    (first | exact hS0 | assumption | exact hS _ (bcat2 (And.left ‹_›) hl1) | exact hS _ (bcat2 (And.left ‹_›) (balloc _ _)))
    (first
      | (go_at_call 19; refine (begun_any _).mono ?_; rintro r U0 ⟨rfl, hl1⟩)
      | (go_at_call 25; refine (Htf.out _ _ _ (hv'.below (And.left ‹_›)) (sl1 _ _)).mono ?_; rintro r U2 ⟨rfl, hl1⟩)
      | (go_at_call 22; refine (HN.out _ (And.left ‹_›)).mono ?_; rintro r U3 ⟨rfl, hl1⟩))
  all_goals (
    obtain ⟨hU, _⟩ := ‹Below w7.heap.size w7 U3 ∧ _›
    clear hS hS0 hl1 HN Htf
    have N11'' := blk_below N11' hU
    have N13'' := blk_below N13' hU
    have N14'' := blk_below N14 hU
    have hg'' := blk_below hg' hU
    have hv'' := hv'.below hU
    have hro'' := hro'.below hU
    have hB'' := bcat hB' hU hB'.size
    clear N9' N11' N13' N14 hg' hv' hro' hB' ha' hz' hU
    generalize U3 = w8 at *
    obtain ⟨hg0c, hg1c, _, _⟩ := hg''.two
    obtain ⟨n130, n131, _, _⟩ := N13''.two
    obtain ⟨n140, n141, _, _⟩ := N14''.two
    clear N11'' N13'' N14'' hg''
    by_cases hc : c = 0
    · obtain ⟨n, e, rfl, h, _⟩ := HGR.out hc
      subst hc
      clear HGR
      rw [okL_zero, Int.toNat_natCast, oneN_grp h] at hro''
      rw [okI_zero, Int.toNat_natCast, oneN_grp h]
      have hol := ordL_len n zs e
      have HOL := hide (fun k (hk : k < n) => (show (ordL n zs e)[k]?.getD 0 = (ordN n zs e k : Int) by simp [ordL, hk]))
      have HLE := hide (fun k (hk : k ≤ n) => lc_le h hk)
      have HOD := hide (fun k (hk : k < n) => And.intro (ord_pos (n := n) (zs := zs) (e := e) k) (And.intro (ord_le h hk) (lagrange h hk)))
      have HO := hide (fun k (hk : k < n) (W : World) (hW : Sl W v zs) => O_ok h hk v W hW)
      have hle := h.tab.le
      have hpos := h.tab.pos
      obtain ⟨a8, cap8, pb, po, rfl, hrd, hpb, hc1, hc2⟩ := hro''
      rw [hol] at hc1 ⊢
      obtain rfl := hrd.at_ (by rw [hol]; exact hpos)
      have HCE := hide (fun k (hk : k < n) => (show w8.cell? ⟨pb, po + k, none⟩ = some (.int .i64 (ordN n zs e k)) by rw [← HOL.out k hk]; exact hrd.cell k (by rw [hol]; exact hk)))
      obtain ⟨lfin, hlfin⟩ : ∃ l, lc (ordN n zs e) n = l := ⟨_, rfl⟩
      rw [hlfin]
      have HLF := hide hlfin
      clear h hol HOL hrd hlfin
      go_wp2
      go_loopw [15, 16] (fun x i wr => ∃ k : Nat, k ≤ n ∧ i = .int .i64 k ∧ x = .int .i64 (lc (ordN n zs e) k) ∧ Below w8.heap.size w8 wr) (fun _ i _ => n - (intOf i).toNat)
      case atStart => exact ⟨0, Nat.zero_le _, rfl, rfl, Below.refl _ _⟩
      case round =>
        obtain ⟨k, hk, rfl, rfl, hB⟩ := hrel
        have d0 := below_cell hB hg0c
        have d1 := below_cell hB hg1c
        by_cases hlt : k < n
        · have hce := HCE.out k hlt
          obtain ⟨l1, l2⟩ := HLE.out k hk
          obtain ⟨m1, m2⟩ := HLE.out (k + 1) (by omega)
          obtain ⟨o1, o2, o3⟩ := HOD.out k hlt
          have HOk := hide (HO.out k hlt)
          have hdn := lcm_down (lc (ordN n zs e) k) (ordN n zs e k)
          have hlc : lc (ordN n zs e) (k + 1) = Nat.lcm (lc (ordN n zs e) k) (ordN n zs e k) := rfl
          rw [← hlc] at hdn
          have hgp : 0 < Nat.gcd (lc (ordN n zs e) k) (ordN n zs e k) := Nat.gcd_pos_of_pos_left _ l1
          have hki : (k : Int) < (n : Int) := by omega
          generalize hL2 : lc (ordN n zs e) (k + 1) = L2 at *
          have HL2 := hide hL2
          clear hL2
          generalize lc (ordN n zs e) k = L at *
          generalize ordN n zs e k = o at *
          have hrem : (n : Int).tmod (o : Int) = 0 := by
            rw [Int.tmod_eq_emod_of_nonneg (by omega), ← Int.natCast_emod, Nat.mod_eq_zero_of_dvd o3]; rfl
          have hon : ¬ ((o : Int) = 0) := by omega
          have hon2 : ¬ o = 0 := by omega
          have hon3 : ((o : Int) == 0) = false := by simp; omega
          have HG := hide (fun W => gcd_ok L o W (by omega) (by omega))
          generalize Nat.gcd L o = g at *
          have hq : (L : Int).tdiv (g : Int) = ((L / g : Nat) : Int) := by rw [Int.tdiv_eq_ediv_of_nonneg (by omega), Int.natCast_ediv]
          have hql : L / g ≤ L := Nat.div_le_self _ _
          generalize L / g = q at *
          have hmul : (q : Int) * (o : Int) = (L2 : Int) := by rw [← hdn, Int.natCast_mul]
          have hgn : ¬ ((g : Int) = 0) := by omega
          have hgn2 : ¬ g = 0 := by omega
          have hgn3 : ((g : Int) == 0) = false := by simp; omega
          have hw1 : IntKind.i64.wrap (L2 : Int) = (L2 : Int) := by rw [IntKind.wrap_i64]; omega
          have hw2 : IntKind.i64.wrap (q : Int) = (q : Int) := by rw [IntKind.wrap_i64]; omega
          have hob : ((o : Int) != (o : Int)) = false := by simp
          have hS : ∀ W, Below w8.heap.size w8 W → (Below w8.heap.size w8 W ∧ W.cell? ⟨w.heap.size, 0, none⟩ = some (.int .i64 n) ∧ W.cell? ⟨w.heap.size, 1, none⟩ = some v ∧ W.cell? ⟨pb, po + k, none⟩ = some (.int .i64 o)) := fun W h => ⟨h, below_cell h hg0c, below_cell h hg1c, below_cell h hce⟩
          have hS0 := hS _ (bdrew hB)
          clear hdn hlc
          go_wp2_with fail
          clear d0 d1
          go_region_held3 (fun W => Below w8.heap.size w8 W ∧ W.cell? ⟨w.heap.size, 0, none⟩ = some (.int .i64 n) ∧ W.cell? ⟨w.heap.size, 1, none⟩ = some v ∧ W.cell? ⟨pb, po + k, none⟩ = some (.int .i64 o))
            (first | exact hS0 | assumption | exact hS _ (bcat2 (And.left ‹_›) hl1))
            (first | (go_at_call 33; refine (HOk.out _ (hv''.below (And.left ‹_›))).mono ?_; rintro r V1 ⟨rfl, hl1⟩))
          obtain ⟨hB3, _⟩ := ‹Below w8.heap.size w8 V1 ∧ _›
          clear hS0 hl1
          have hS1 := hS _ (bdrew hB3)
          go_wp2_with fail
          go_region_held3 (fun W => Below w8.heap.size w8 W ∧ W.cell? ⟨w.heap.size, 0, none⟩ = some (.int .i64 n) ∧ W.cell? ⟨w.heap.size, 1, none⟩ = some v ∧ W.cell? ⟨pb, po + k, none⟩ = some (.int .i64 o))
            (first | exact hS1 | assumption | exact hS _ (bcat2 (And.left ‹_›) hl1))
            (first | (go_at_call 34; refine (HG.out _).mono ?_; rintro r V2 ⟨rfl, hl1⟩))
          obtain ⟨hB4, _⟩ := ‹Below w8.heap.size w8 V2 ∧ _›
          clear hS hS1
          go_wp2
          go_roundw
          case rel => exact ⟨k + 1, by omega, by go_num, by rw [HL2.out], hB4⟩
          case measure => simp [intOf]; omega
        · have hkn : k = n := by omega
          subst hkn
          have e0 := below_cell hB n130
          rw [HLF.out]
          go_wp2
          go_ret
          exact ⟨rfl, bcat hB'' hB hB''.size⟩
    · have hcb : (c != 0) = true := by simpa using hc
      rw [show okI c ((lc (ordN N.toNat zs (oneN N zs)) N.toNat : Nat) : Int) = 0 from if_neg hc]
      rw [show okL c (ordL N.toNat zs (oneN N zs)) = [] from if_neg hc] at hro''
      obtain ⟨a8, cap8, pb, po, rfl, _⟩ := hro''
      clear HGR
      go_wp2
      go_ret
      exact ⟨rfl, hB''⟩)
end Go.Proofs.Ytpcgacelljbkdaa
