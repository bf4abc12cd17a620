/- What One, Inv and Abelian of package table answer: at every table, whatever it holds, and every number. -/
import Derived.Test.YtmgengplfebmjaaDoorRefG
namespace Go.Proofs.YtmgengplfebmjaaDoor
open Go Go.RowKit

/-- The number that goes with a fault: none where there is one. -/
def okI (c x : Int) : Int := if c = 0 then x else 0
theorem okI_zero (x : Int) : okI 0 x = x := if_pos rfl
/-- What is wrong with a table, and then with a number as its thing. -/
def tfault (N : Int) (zs : List Int) (a : Int) : Int × Int := if (gfault N zs).1 ≠ 0 then gfault N zs else if 0 ≤ a ∧ a < N then (0, 0) else (3, 1)

/-- What lies where a function of a table begins: the table in a block of its own, and a fault behind it. -/
structure Beg (w w0 : World) (N : Int) (v : Value) : Prop where
  eq : w0 = (w.alloc (.cells #[.int .i64 N, v] 24)).alloc (.cells #[.int .i64 0, .int .i64 0] 27)
  bel : Below w.heap.size w w0
  box : BoxG w0 w.heap.size N v
  res : Blk w0 (w.heap.size + 1) 27 [.int .i64 0, .int .i64 0]
theorem Beg.new (w : World) (N : Int) (v : Value) : ∃ w0, Beg w w0 N v := by
  refine ⟨_, rfl, (balloc w _).alloc (by simp) _, (blk0 _ _).alloc _, ?_⟩
  have := Two.new (w.alloc (.cells #[.int .i64 N, v] 24))
  rw [World.size_alloc] at this; exact this.blk

set_option maxRecDepth 100000 in
set_option maxHeartbeats 4000000 in
theorem one_any (N : Int) (v : Value) (zs : List Int) (w : World) (hv : Sl w v zs) :
    Calls Tryd.prog 103 #[.agg #[.int .i64 N, v]] w fun x w' => x = .returned (.tuple #[.int .i64 (okI (gfault N zs).1 (one N.toNat zs)), .agg #[.int .i64 (gfault N zs).1, .int .i64 (gfault N zs).2]]) ∧ Below w.heap.size w w' := by
  obtain ⟨w0, BG⟩ := Beg.new w N v
  have hv0 := hv.below BG.bel
  obtain ⟨c0, c1, _, _⟩ := BG.box.two
  have hck := check_any N v zs w0 hv0
  obtain ⟨c, i, hci⟩ : ∃ c i, gfault N zs = (c, i) := ⟨_, _, rfl⟩
  rw [hci] at hck ⊢
  have HCK := hide hck
  have HCI := hide hci
  clear hck hci
  by_cases hc : c = 0
  · subst hc
    obtain ⟨n, e, rfl, hgr, hg0⟩ := gfault_grp (N := N) (zs := zs) (by rw [HCI.out])
    obtain rfl : i = 0 := by have := congrArg Prod.snd (HCI.out.symm.trans hg0); exact this
    simp only [okI_zero, Int.toNat_natCast]
    have HO := hide (fun W (h : Sl W v zs) => oneOf_ok n v zs W hgr.tab h)
    generalize one n zs = o at *
    clear hgr hg0 HCI
    rw [BG.eq] at c0 c1
    go_enter Tryd.func103, Tryd.ntmps103
    go_wp2_with fail
    rw [← BG.eq]
    refine HCK.out.mono ?_
    rintro x w1 ⟨rfl, hb1⟩
    clear c0 c1
    have hB1 := bcat2 hb1 (balloc w1 (.cells #[.int .i64 0, .int .i64 0] 27))
    obtain ⟨k0, k1, _, _⟩ := (blk_below BG.box hB1).two
    go_wp2_with fail
    refine (HO.out _ (hv0.below hB1)).mono ?_
    rintro x w2 ⟨rfl, hb2⟩
    have hB2 := bcat2 hB1 hb2
    have hBw := bcat BG.bel hB2 BG.bel.size
    obtain ⟨_, y0, y1, fy0, fy1, s0, s1⟩ := Two.mk' (blk_below BG.res hB2)
    clear k0 k1
    go_wp2
    exact bodyPost_ret (v := .tuple #[.int .i64 o, .agg #[.int .i64 0, .int .i64 0]]) (by simp [results, Tryd.results103, go_sem, y0, y1]) rfl ⟨rfl, hBw⟩
  · have hcb : (c != 0) = true := by simpa using hc
    clear HCI
    rw [BG.eq] at c0 c1
    go_enter Tryd.func103, Tryd.ntmps103
    go_wp2_with fail
    rw [← BG.eq]
    refine (HCK.out).mono ?_
    rintro x w1 ⟨rfl, hb1⟩
    clear c0 c1
    have hB1 := bcat2 hb1 (balloc w1 (.cells #[.int .i64 c, .int .i64 i] 27))
    have hR1 := blk_below BG.res hB1
    have hF1 : Blk (w1.alloc (.cells #[.int .i64 c, .int .i64 i] 27)) w1.heap.size 27 [.int .i64 c, .int .i64 i] := blk0 _ _
    have hBw := bcat BG.bel hB1 BG.bel.size
    have hs9 : w.heap.size + 1 < w1.heap.size := (blk_below BG.res hb1).lt
    obtain ⟨y0, y1, fy0, fy1⟩ := hR1.two
    obtain ⟨t0, t1, _, _⟩ := hF1.two
    go_wp2_with fail
    generalize w1.alloc (.cells #[.int .i64 c, .int .i64 i] 27) = w2 at *
    go_region
    go_wp2
    obtain ⟨hR6, hB6⟩ := put2 hR1 hBw (by omega) c i
    have hB7 := bdrew hB6
    have hR7 : Blk ((w2.setCell ⟨w.heap.size + 1, 0, none⟩ (.int .i64 c)).setCell ⟨w.heap.size + 1, 1, none⟩ (.int .i64 i)).drew (w.heap.size + 1) 27 [.int .i64 c, .int .i64 i] := hR6
    generalize ((w2.setCell ⟨w.heap.size + 1, 0, none⟩ (.int .i64 c)).setCell ⟨w.heap.size + 1, 1, none⟩ (.int .i64 i)).drew = W at hR7 hB7 ⊢
    obtain ⟨z0, z1, _, _⟩ := hR7.two
    exact bodyPost_ret (v := .tuple #[.int .i64 0, .agg #[.int .i64 c, .int .i64 i]]) (by simp [results, Tryd.results103, go_sem, z0, z1]) rfl ⟨by simp [okI, hc], hB7⟩

theorem tfault_grp {N a : Int} {zs : List Int} (h : (tfault N zs a).1 = 0) : ∃ n e b : Nat, N = n ∧ a = b ∧ IsGrp n zs e ∧ b < n ∧ tfault N zs a = (0, 0) := by
  unfold tfault at h ⊢
  by_cases h1 : (gfault N zs).1 ≠ 0
  · rw [if_pos h1] at h; exact absurd h h1
  · rw [if_neg h1] at h ⊢
    obtain ⟨n, e, rfl, hg, _⟩ := gfault_grp (Decidable.not_not.1 h1)
    by_cases h2 : 0 ≤ a ∧ a < n
    · rw [if_pos h2]
      exact ⟨n, e, a.toNat, rfl, by omega, hg, by omega, rfl⟩
    · rw [if_neg h2] at h; cases h

end Go.Proofs.YtmgengplfebmjaaDoor
