/- What Exponent and Pow of package table answer at every table. -/
import Derived.Test.YtpcgacelljbkdaaOref
namespace Go.Proofs.Ytpcgacelljbkdaa
open Go Go.RowKit

/-- The least number that the first k values of f divide. -/
def lc (f : Nat → Nat) : Nat → Nat
  | 0 => 1
  | k + 1 => Nat.lcm (lc f k) (f k)
theorem lc_dvd {f : Nat → Nat} {n : Nat} : ∀ k, (∀ a, a < k → f a ∣ n) → lc f k ∣ n
  | 0, _ => Nat.one_dvd n
  | k + 1, h => Nat.lcm_dvd (lc_dvd k (fun a ha => h a (by omega))) (h k (by omega))
theorem lcm_up (m o : Nat) : m * (o / Nat.gcd m o) = Nat.lcm m o := by
  unfold Nat.lcm
  rw [Nat.mul_div_assoc _ (Nat.gcd_dvd_right m o)]
theorem lcm_down (m o : Nat) : m / Nat.gcd m o * o = Nat.lcm m o := by
  unfold Nat.lcm
  rw [Nat.mul_comm, Nat.mul_comm m o, Nat.mul_div_assoc _ (Nat.gcd_dvd_left m o)]
theorem lc_le {n e : Nat} {zs : List Int} (h : IsGrp n zs e) {k : Nat} (hk : k ≤ n) : 1 ≤ lc (ordN n zs e) k ∧ lc (ordN n zs e) k ≤ n := by
  have hd : lc (ordN n zs e) k ∣ n := lc_dvd k (fun a ha => lagrange h (by omega))
  have hn := h.tab.pos
  exact ⟨Nat.pos_of_dvd_of_pos hd hn, Nat.le_of_dvd hn hd⟩

set_option maxRecDepth 100000 in
set_option maxHeartbeats 4000000 in
theorem exponent_ok {n e : Nat} {zs : List Int} (h : IsGrp n zs e) (v : Value) (w : World) (hv : Sl w v zs) :
    Calls Try.prog 30 #[.agg #[.int .i64 n, v]] w fun r w' => r = .returned (.tuple #[.int .i64 (lc (ordN n zs e) n), .agg #[.int .i64 0, .int .i64 0]]) ∧ Below w.heap.size w w' := by
  obtain ⟨w0, BG⟩ := Beg.new w n v
  have hv0 := hv.below BG.bel
  obtain ⟨c0, c1, _, _⟩ := BG.box.two
  have HOR := hide (orders_ok n e v zs w0 h hv0)
  have hle := h.tab.le
  have hol := ordL_len n zs e
  have HOL := hide (fun k (hk : k < n) => (show (ordL n zs e)[k]?.getD 0 = (ordN n zs e k : Int) by simp [ordL, hk]))
  have HLE := hide (fun k (hk : k ≤ n) => lc_le h hk)
  have HOD := hide (fun k (hk : k < n) => And.intro (ord_pos (n := n) (zs := zs) (e := e) k) (ord_le h hk))
  rw [BG.eq] at c0 c1
  clear h
  go_enter Try.func30, Try.ntmps30
  go_wp2_with fail
  rw [← BG.eq]
  refine HOR.out.mono ?_
  rintro x w1 ⟨ro, rfl, hro, hb1⟩
  clear c0 c1
  have hA1 := balloc w1 (.cells #[.int .i64 0, .int .i64 0] 27)
  have hro := hro.below hA1
  have hF1 := Two.new w1
  obtain ⟨_, f0, _, _, _, _, _⟩ := hF1
  have hB1 := bcat2 hb1 hA1
  obtain ⟨a8, cap8, pb, po, rfl, hrd, hpb, hc1, hc2⟩ := hro
  rw [hol] at hc1 ⊢
  have hpos : 0 < n := by
    rcases Nat.eq_zero_or_pos n with h0 | h0
    · have := (HLE.out 0 (Nat.zero_le _)); omega
    · exact h0
  obtain rfl := hrd.at_ (by rw [hol]; exact hpos)
  go_wp2
  generalize w1.alloc (.cells #[.int .i64 0, .int .i64 0] 27) = w2 at *
  have HCE := hide (fun k (hk : k < n) => (show w2.cell? ⟨pb, po + k, none⟩ = some (.int .i64 (ordN n zs e k)) by rw [← HOL.out k hk]; exact hrd.cell k (by rw [hol]; exact hk)))
  clear hrd hol f0
  go_loopw [6, 20] (fun x i wr => ∃ k : Nat, k ≤ n ∧ i = .int .i64 k ∧ x = .int .u64 (lc (ordN n zs e) k) ∧ Below w2.heap.size w2 wr) (fun _ i _ => n - (intOf i).toNat)
  case atStart => exact ⟨0, Nat.zero_le _, rfl, rfl, Below.refl _ _⟩
  case round =>
    obtain ⟨k, hk, rfl, rfl, hB⟩ := hrel
    by_cases hlt : k < n
    · have hce := below_cell hB (HCE.out k hlt)
      obtain ⟨l1, l2⟩ := HLE.out k hk
      obtain ⟨m1, m2⟩ := HLE.out (k + 1) (by omega)
      obtain ⟨o1, o2⟩ := HOD.out k hlt
      have hup := lcm_up (lc (ordN n zs e) k) (ordN n zs e k)
      have hlc : lc (ordN n zs e) (k + 1) = Nat.lcm (lc (ordN n zs e) k) (ordN n zs e k) := rfl
      rw [← hlc] at hup
      have hgp : 0 < Nat.gcd (lc (ordN n zs e) k) (ordN n zs e k) := Nat.gcd_pos_of_pos_left _ l1
      have hki : (k : Int) < (n : Int) := by omega
      generalize hL2 : lc (ordN n zs e) (k + 1) = L2 at *
      have HL2 := hide hL2
      clear hL2
      generalize lc (ordN n zs e) k = L at *
      generalize ordN n zs e k = o at *
      have HG := hide (fun W => natGcd_ok L o W (by omega) (by omega))
      generalize Nat.gcd L o = g at *
      have hq : (o : Int).tdiv (g : Int) = ((o / g : Nat) : Int) := by rw [Int.tdiv_eq_ediv_of_nonneg (by omega), Int.natCast_ediv]
      have hql : o / g ≤ o := Nat.div_le_self _ _
      generalize o / g = q at *
      have hmul : (L : Int) * (q : Int) = (L2 : Int) := by rw [← hup, Int.natCast_mul]
      have hgn : ¬ ((g : Int) = 0) := by omega
      have HUP := hide hup
      clear hup hlc
      go_wp2_with fail
      refine (HG.out _).mono ?_
      rintro x w5 ⟨rfl, hb5⟩
      have hB5 := bcat2 hB hb5
      clear hce
      go_wp2
      go_roundw
      case rel => exact ⟨k + 1, by omega, by go_num, by rw [HL2.out], hB5⟩
      case measure => simp [intOf]; omega
    · have hkn : k = n := by omega
      subst hkn
      obtain ⟨l1, l2⟩ := HLE.out k hk
      have hR9 := blk_below BG.res (bcat2 hB1 hB)
      have hB9 := bcat BG.bel (bcat2 hB1 hB) BG.bel.size
      obtain ⟨_, z0, z1, fz0, fz1, s0, s1⟩ := Two.mk' hR9
      generalize hL : lc (ordN k zs e) k = L at *
      have HL := hide hL
      clear hL
      go_wp2
      exact bodyPost_ret (v := .tuple #[.int .i64 L, .agg #[.int .i64 0, .int .i64 0]]) (by simp [results, Try.results30, go_sem, z0, z1]) rfl ⟨by rw [HL.out], hB9⟩

set_option maxRecDepth 100000 in
set_option maxHeartbeats 4000000 in
theorem exponent_bad (N : Int) (v : Value) (zs : List Int) (w : World) (hv : Sl w v zs) (hf : (gfault N zs).1 ≠ 0) :
    Calls Try.prog 30 #[.agg #[.int .i64 N, v]] w fun x w' => x = .returned (.tuple #[.int .i64 0, .agg #[.int .i64 (gfault N zs).1, .int .i64 (gfault N zs).2]]) ∧ Below w.heap.size w w' := by
  obtain ⟨w0, BG⟩ := Beg.new w N v
  have hv0 := hv.below BG.bel
  obtain ⟨c0, c1, _, _⟩ := BG.box.two
  have hck := orders_bad N v zs w0 hv0 hf
  obtain ⟨c, i, hci⟩ : ∃ c i, gfault N zs = (c, i) := ⟨_, _, rfl⟩
  rw [hci] at hck hf ⊢
  have HCK := hide hck
  have hc : ¬ c = 0 := hf
  have hcb : (c != 0) = true := by simpa using hc
  clear hck hci hf
  rw [BG.eq] at c0 c1
  go_enter Try.func30, Try.ntmps30
  go_wp2_with fail
  rw [← BG.eq]
  refine (HCK.out).mono ?_
  rintro x w1 ⟨rfl, hb1⟩
  clear c0 c1
  have hB1 := bcat2 hb1 (balloc w1 (.cells #[.int .i64 c, .int .i64 i] 27))
  have hR1 := blk_below BG.res hB1
  have hF1 : Blk (w1.alloc (.cells #[.int .i64 c, .int .i64 i] 27)) w1.heap.size 27 [.int .i64 c, .int .i64 i] := blk0 _ _
  have hBw := bcat BG.bel hB1 BG.bel.size
  have hs9 : w.heap.size + 1 < w1.heap.size := (blk_below BG.res hb1).lt
  obtain ⟨y0, y1, fy0, fy1⟩ := hR1.two
  obtain ⟨t0, t1, _, _⟩ := hF1.two
  go_wp2_with fail
  generalize w1.alloc (.cells #[.int .i64 c, .int .i64 i] 27) = w2 at *
  go_region
  go_wp2
  obtain ⟨hR6, hB6⟩ := put2 hR1 hBw (by omega) c i
  have hB7 := bdrew hB6
  have hR7 : Blk ((w2.setCell ⟨w.heap.size + 1, 0, none⟩ (.int .i64 c)).setCell ⟨w.heap.size + 1, 1, none⟩ (.int .i64 i)).drew (w.heap.size + 1) 27 [.int .i64 c, .int .i64 i] := hR6
  generalize ((w2.setCell ⟨w.heap.size + 1, 0, none⟩ (.int .i64 c)).setCell ⟨w.heap.size + 1, 1, none⟩ (.int .i64 i)).drew = W at hR7 hB7 ⊢
  obtain ⟨z0, z1, _, _⟩ := hR7.two
  exact bodyPost_ret (v := .tuple #[.int .i64 0, .agg #[.int .i64 c, .int .i64 i]]) (by simp [results, Try.results30, go_sem, z0, z1]) rfl ⟨rfl, hB7⟩

set_option maxRecDepth 100000 in
set_option maxHeartbeats 4000000 in
theorem pow_bad (N a z : Int) (v : Value) (zs : List Int) (w : World) (hv : Sl w v zs) (hf : (tfault N zs a).1 ≠ 0) :
    Calls Try.prog 28 #[.agg #[.int .i64 N, v], .int .i64 a, .int .i64 z] w fun x w' => x = .returned (.tuple #[.int .i64 0, .agg #[.int .i64 (tfault N zs a).1, .int .i64 (tfault N zs a).2]]) ∧ Below w.heap.size w w' := by
  obtain ⟨w0, BG⟩ := Beg.new w N v
  have hv0 := hv.below BG.bel
  obtain ⟨c0, c1, _, _⟩ := BG.box.two
  have hck := checkThing_any N a v zs w0 hv0
  obtain ⟨c, i, hci⟩ : ∃ c i, tfault N zs a = (c, i) := ⟨_, _, rfl⟩
  rw [hci] at hck hf ⊢
  have HCK := hide hck
  have hc : ¬ c = 0 := hf
  have hcb : (c != 0) = true := by simpa using hc
  clear hck hci hf
  rw [BG.eq] at c0 c1
  go_enter Try.func28, Try.ntmps28
  go_wp2_with fail
  rw [← BG.eq]
  refine (HCK.out).mono ?_
  rintro x w1 ⟨rfl, hb1⟩
  clear c0 c1
  have hB1 := bcat2 hb1 (balloc w1 (.cells #[.int .i64 c, .int .i64 i] 27))
  have hR1 := blk_below BG.res hB1
  have hF1 : Blk (w1.alloc (.cells #[.int .i64 c, .int .i64 i] 27)) w1.heap.size 27 [.int .i64 c, .int .i64 i] := blk0 _ _
  have hBw := bcat BG.bel hB1 BG.bel.size
  have hs9 : w.heap.size + 1 < w1.heap.size := (blk_below BG.res hb1).lt
  obtain ⟨y0, y1, fy0, fy1⟩ := hR1.two
  obtain ⟨t0, t1, _, _⟩ := hF1.two
  go_wp2_with fail
  generalize w1.alloc (.cells #[.int .i64 c, .int .i64 i] 27) = w2 at *
  go_region
  go_wp2
  obtain ⟨hR6, hB6⟩ := put2 hR1 hBw (by omega) c i
  have hB7 := bdrew hB6
  have hR7 : Blk ((w2.setCell ⟨w.heap.size + 1, 0, none⟩ (.int .i64 c)).setCell ⟨w.heap.size + 1, 1, none⟩ (.int .i64 i)).drew (w.heap.size + 1) 27 [.int .i64 c, .int .i64 i] := hR6
  generalize ((w2.setCell ⟨w.heap.size + 1, 0, none⟩ (.int .i64 c)).setCell ⟨w.heap.size + 1, 1, none⟩ (.int .i64 i)).drew = W at hR7 hB7 ⊢
  obtain ⟨z0, z1, _, _⟩ := hR7.two
  exact bodyPost_ret (v := .tuple #[.int .i64 0, .agg #[.int .i64 c, .int .i64 i]]) (by simp [results, Try.results28, go_sem, z0, z1]) rfl ⟨rfl, hB7⟩
end Go.Proofs.Ytpcgacelljbkdaa
