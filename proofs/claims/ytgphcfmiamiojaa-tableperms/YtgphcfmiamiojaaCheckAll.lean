/- What table.Check answers: at every table, whatever it holds, the fault that the plain function gfault tells. -/
import Derived.Test.YtgphcfmiamiojaaChk
namespace Go.Proofs.Ytgphcfmiamiojaa
open Go Go.RowKit

/-- A fault that is stored into a block of two cells. -/
theorem put2 {W w : World} {b : Nat} {x y : Value} (hR : Blk W b 29 [x, y]) (hB : Below w.heap.size w W) (hb : w.heap.size ≤ b) (c i : Int) :
    Blk ((W.setCell ⟨b, 0, none⟩ (.int .i64 c)).setCell ⟨b, 1, none⟩ (.int .i64 i)) b 29 [.int .i64 c, .int .i64 i] ∧ Below w.heap.size w ((W.setCell ⟨b, 0, none⟩ (.int .i64 c)).setCell ⟨b, 1, none⟩ (.int .i64 i)) :=
  ⟨(hR.set 0 _).set 1 _, (hB.setCell (p := ⟨b, 0, none⟩) hb _).setCell (p := ⟨b, 1, none⟩) hb _⟩

set_option maxRecDepth 100000 in
set_option maxHeartbeats 4000000 in
theorem check_any (N : Int) (v : Value) (zs : List Int) (w : World) (hv : Sl w v zs) :
    Calls Try.prog 28 #[.agg #[.int .i64 N, v]] w fun x w' => x = .returned (.agg #[.int .i64 (gfault N zs).1, .int .i64 (gfault N zs).2]) ∧ Below w.heap.size w w' := by
  obtain ⟨w0, hw0⟩ : ∃ w0, w0 = (w.alloc (.cells #[.int .i64 N, v] 27)).alloc (.cells #[.int .i64 0, .int .i64 0] 29) := ⟨_, rfl⟩
  have hB0 : Below w.heap.size w w0 := by rw [hw0]; exact (balloc w _).alloc (by simp) _
  have hg0 : BoxG w0 w.heap.size N v := by rw [hw0]; exact (blk0 _ _).alloc _
  have hR0 : Blk w0 (w.heap.size + 1) 29 [.int .i64 0, .int .i64 0] := by
    rw [hw0]
    have := Two.new (w.alloc (.cells #[.int .i64 N, v] 27))
    rw [World.size_alloc] at this; exact this.blk
  have hv0 := hv.below hB0
  have hs0 : w.heap.size + 1 < w0.heap.size := hR0.lt
  obtain ⟨c0, c1, _, _⟩ := hg0.two
  have hck := checkEntries_any N v zs w0 hv0
  obtain ⟨c, i, hci⟩ : ∃ c i, efault N zs = (c, i) := ⟨_, _, rfl⟩
  rw [hci] at hck
  have HCK := hide hck
  have HCI := hide hci
  clear hck hci
  by_cases hc : c = 0
  · subst hc
    obtain ⟨n, rfl, ht, _⟩ := efault_tab (N := N) (zs := zs) (by rw [HCI.out])
    have hgf : gfault n zs = if one n zs = -1 then (6, 0) else if least n (fun a => !assB n zs a) ≠ -1 then (7, least n (fun a => !assB n zs a)) else if least n (fun a => decide (invL n zs (one n zs) a = -1)) ≠ -1 then (4, least n (fun a => decide (invL n zs (one n zs) a = -1))) else (0, 0) := by
      unfold gfault
      rw [HCI.out, if_neg (by simp), Int.toNat_natCast]
    rw [hgf]
    have hle := ht.le
    have HT := hide ht
    rw [efault_of_tab HT.out] at HCI
    obtain rfl : i = 0 := by have := congrArg Prod.snd HCI.out; exact this.symm
    clear hgf ht HCI
    obtain ⟨o, hoe⟩ : ∃ o, one n zs = o := ⟨_, rfl⟩
    rw [hoe]
    obtain ⟨l1, h1e⟩ : ∃ l1, least n (fun a => !assB n zs a) = l1 := ⟨_, rfl⟩
    rw [h1e]
    obtain ⟨l2, h2e⟩ : ∃ l2, least n (fun a => decide (invL n zs o a = -1)) = l2 := ⟨_, rfl⟩
    rw [h2e]
    have HO : Hid (∀ W, Below w0.heap.size w0 W → Calls Try.prog 29 #[.agg #[.int .i64 n, v]] W fun x w' => x = .returned (.int .i64 o) ∧ Below W.heap.size W w') := fun W h => by
      have := oneOf_ok n v zs W HT.out (hv0.below h); rwa [hoe] at this
    have HL1 : Hid (∀ W0, Below w0.heap.size w0 W0 → Calls Try.prog 40 #[.int .i64 n, .func (.func 41) #[] #[.pointer (some ⟨w.heap.size, 0, none⟩)]] W0 fun x w' => x = .returned (.int .i64 l1) ∧ Below W0.heap.size W0 w') := fun W0 h0 => by
      have := least_any n 41 #[.pointer (some ⟨w.heap.size, 0, none⟩)] (fun a => !assB n zs a) W0 (by omega) (fun a W => call55 a _ W)
        (fun W a hW ha => ungroups_ok w.heap.size n a v zs W HT.out (blk_below hg0 (bcat2 h0 hW)) (hv0.below (bcat2 h0 hW)) ha)
      rwa [h1e] at this
    have HL2 : Hid (∀ (W0 : World) (b2 : Nat), Below w0.heap.size w0 W0 → Boxed W0 b2 3 (.int .i64 o) → Calls Try.prog 40 #[.int .i64 n, .func (.func 43) #[] #[.pointer (some ⟨w.heap.size, 0, none⟩), .pointer (some ⟨b2, 0, none⟩)]] W0 fun x w' => x = .returned (.int .i64 l2) ∧ Below W0.heap.size W0 w') := fun W0 b2 h0 hb => by
      have := least_any n 43 #[.pointer (some ⟨w.heap.size, 0, none⟩), .pointer (some ⟨b2, 0, none⟩)] (fun a => decide (invL n zs o a = -1)) W0 (by omega) (fun a W => call57 a _ _ W)
        (fun W a hW ha => noInv_ok w.heap.size b2 n a o v zs W HT.out (blk_below hg0 (bcat2 h0 hW)) (hv0.below (bcat2 h0 hW)) (Boxed.below hb hW) ha)
      rwa [h2e] at this
    clear hoe h1e h2e
    rw [hw0] at c0 c1
    go_enter Try.func28, Try.ntmps28
    go_wp2_with fail
    rw [← hw0]
    refine HCK.out.mono ?_
    rintro x w1 ⟨rfl, hb1⟩
    clear c0 c1 hw0 HCK
    have hB1 := bcat2 hb1 (balloc w1 (.cells #[.int .i64 0, .int .i64 0] 29))
    obtain ⟨k0, k1, _, _⟩ := (blk_below hg0 hB1).two
    go_wp2_with fail
    refine (HO.out _ hB1).mono ?_
    rintro x w2 ⟨rfl, hb2⟩
    have hB2 := bcat2 hB1 hb2
    have hB3 := bcat2 hB2 (balloc w2 (.cells #[.int .i64 o] 3))
    have hO3 : Boxed (w2.alloc (.cells #[.int .i64 o] 3)) w2.heap.size 3 (.int .i64 o) := Boxed.new w2 3 _
    obtain ⟨w3, hw3⟩ : ∃ w3, w3 = w2.alloc (.cells #[.int .i64 o] 3) := ⟨_, rfl⟩
    rw [← hw3] at hB3 hO3
    have hR3 := blk_below hR0 hB3
    have hg3 := blk_below hg0 hB3
    have hBw := bcat hB0 hB3 hB0.size
    obtain ⟨r0, r1, f0, f1⟩ := hR3.two
    have cO := hO3.cell
    obtain ⟨q0, q1, _, _⟩ := hg3.two
    rw [hw3] at cO r0 r1 f0 f1 q0 q1
    clear hB1 hB2 hb1 hb2 k0 k1 HO
    by_cases ho : o = -1
    · subst ho
      obtain ⟨hR4, hB4⟩ := put2 hR3 hBw (by omega) 6 0
      rw [hw3] at hR4 hB4
      clear hw3
      go_wp2
      generalize ((w2.alloc (.cells #[.int .i64 (-1)] 3)).setCell ⟨w.heap.size + 1, 0, none⟩ (.int .i64 6)).setCell ⟨w.heap.size + 1, 1, none⟩ (.int .i64 0) = W at hR4 hB4 ⊢
      obtain ⟨z0, z1, _, _⟩ := hR4.two
      exact bodyPost_ret (v := .agg #[.int .i64 6, .int .i64 0]) (by simp [results, Try.results28, go_sem, z0, z1]) rfl ⟨rfl, hB4⟩
    · have hob : (o == -1) = false := by simpa using ho
      go_wp2_with fail
      rw [← hw3] at cO r0 r1 f0 f1 q0 q1 ⊢
      clear hw3
      refine (HL1.out _ hB3).mono ?_
      rintro x w4 ⟨rfl, hb4⟩
      have hR4 := blk_below hR3 hb4
      have hB4 := bcat hBw hb4 hBw.size
      obtain ⟨y0, y1, fy0, fy1⟩ := hR4.two
      have q0 := below_cell hb4 q0
      have q1 := below_cell hb4 q1
      clear r0 r1 f0 f1 cO HL1
      by_cases h1 : l1 = -1
      · subst h1
        go_wp2_with fail
        refine (HL2.out w4 w2.heap.size (bcat2 hB3 hb4) (Boxed.below hO3 hb4)).mono ?_
        rintro x w5 ⟨rfl, hb5⟩
        have hR5 := blk_below hR4 hb5
        have hB5 := bcat hB4 hb5 hB4.size
        clear y0 y1 fy0 fy1 q0 q1 HL2
        by_cases h2 : l2 = -1
        · subst h2
          obtain ⟨_, y0, y1, fy0, fy1, s0, s1⟩ := Two.mk' hR5
          go_wp2
          exact bodyPost_ret (v := .agg #[.int .i64 0, .int .i64 0]) (by simp [results, Try.results28, go_sem, y0, y1]) rfl ⟨rfl, hB5⟩
        · have h2b : (l2 != -1) = true := by simpa using h2
          obtain ⟨y0, y1, fy0, fy1⟩ := hR5.two
          obtain ⟨hR6, hB6⟩ := put2 hR5 hB5 (by omega) 4 l2
          go_wp2
          generalize (w5.setCell ⟨w.heap.size + 1, 0, none⟩ (.int .i64 4)).setCell ⟨w.heap.size + 1, 1, none⟩ (.int .i64 l2) = W at hR6 hB6 ⊢
          obtain ⟨z0, z1, _, _⟩ := hR6.two
          exact bodyPost_ret (v := .agg #[.int .i64 4, .int .i64 l2]) (by simp [results, Try.results28, go_sem, z0, z1]) rfl ⟨rfl, hB6⟩
      · have h1b : (l1 != -1) = true := by simpa using h1
        obtain ⟨hR6, hB6⟩ := put2 hR4 hB4 (by omega) 7 l1
        go_wp2
        generalize (w4.setCell ⟨w.heap.size + 1, 0, none⟩ (.int .i64 7)).setCell ⟨w.heap.size + 1, 1, none⟩ (.int .i64 l1) = W at hR6 hB6 ⊢
        obtain ⟨z0, z1, _, _⟩ := hR6.two
        exact bodyPost_ret (v := .agg #[.int .i64 7, .int .i64 l1]) (by simp [results, Try.results28, go_sem, z0, z1]) rfl ⟨rfl, hB6⟩
  · have hgf : gfault N zs = (c, i) := by unfold gfault; rw [HCI.out, if_pos hc]
    rw [hgf]
    clear hgf HCI
    have hcb : (c != 0) = true := by simpa using hc
    rw [hw0] at c0 c1
    go_enter Try.func28, Try.ntmps28
    go_wp2_with fail
    rw [← hw0]
    refine HCK.out.mono ?_
    rintro x w1 ⟨rfl, hb1⟩
    clear c0 c1 hw0 HCK
    have hB1 := bcat2 hb1 (balloc w1 (.cells #[.int .i64 c, .int .i64 i] 29))
    have hR1 := blk_below hR0 hB1
    have hF1 : Blk (w1.alloc (.cells #[.int .i64 c, .int .i64 i] 29)) w1.heap.size 29 [.int .i64 c, .int .i64 i] := blk0 _ _
    have hBw := bcat hB0 hB1 hB0.size
    obtain ⟨y0, y1, fy0, fy1⟩ := hR1.two
    obtain ⟨t0, t1, _, _⟩ := hF1.two
    obtain ⟨hR6, hB6⟩ := put2 hR1 hBw (by omega) c i
    go_wp2
    generalize ((w1.alloc (.cells #[.int .i64 c, .int .i64 i] 29)).setCell ⟨w.heap.size + 1, 0, none⟩ (.int .i64 c)).setCell ⟨w.heap.size + 1, 1, none⟩ (.int .i64 i) = W at hR6 hB6 ⊢
    obtain ⟨z0, z1, _, _⟩ := hR6.two
    exact bodyPost_ret (v := .agg #[.int .i64 c, .int .i64 i]) (by simp [results, Try.results28, go_sem, z0, z1]) rfl ⟨rfl, hB6⟩
end Go.Proofs.Ytgphcfmiamiojaa
