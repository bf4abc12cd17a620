/- Quotients and remainders of numbers that are not negative. The law ProdSemi: its walk (A), what it calls as premises. The law ProdSemi: its walk (B), what it calls as premises. The law ProdSemi: its walk (C1), what it calls as premises. The law ProdSemi: its walk (C2), what it calls as premises. The law ProdSemi: its walk (C3), what it calls as premises. -/
import Derived.Test.YtanbpjfdfnmjpaaDoorZ1
import Derived.Test.YtanbpjfdfnmjpaaDoorZ9
namespace Go.Proofs.YtanbpjfdfnmjpaaDoor
open Go Go.RowKit

theorem ndiv0 {x y : Nat} : (x : Int).tdiv (y : Int) = ((x / y : Nat) : Int) := by rw [Int.tdiv_eq_ediv_of_nonneg (by omega), Int.natCast_ediv]
theorem nmod0 {x : Int} {y m : Nat} (h : x = (y : Int)) : x.tmod (m : Int) = ((y % m : Nat) : Int) := by
  rw [h, Int.tmod_eq_emod_of_nonneg (by omega), Int.natCast_emod]
end Go.Proofs.YtanbpjfdfnmjpaaDoor

namespace Go.Proofs.YtanbpjfdfnmjpaaDoor
open Go Go.RowKit

set_option maxRecDepth 100000 in
set_option maxHeartbeats 16000000 in
theorem psem_a (N M : Int) (v1 : Option Addr) (v2 v3 : Nat) (y1 : Option Addr) (y2 y3 : Nat) (l1 : Option Addr) (LL l3 : Nat) (tc ti sc si GN : Int) (GD : Bool) (w : World) (hLL : LL ≤ 100)
    (AP HP LP : World → Value → Prop) (RP : World → Nat → Value → Prop)
    (HAU : Hid (∀ W W' u, AP W u → Below W.heap.size W W' → AP W' u)) (HHU : Hid (∀ W W' u, HP W u → Below W.heap.size W W' → HP W' u)) (HLU : Hid (∀ W W' u, LP W u → Below W.heap.size W W' → LP W' u))
    (HRB : Hid (∀ W W' pb u, RP W pb u → Below W.heap.size W W' → RP W' pb u)) (HRS : Hid (∀ W pb u b k x, RP W pb u → (GD = true → pb ≠ b) → RP (W.setCell ⟨b, k, none⟩ x) pb u)) (HRL : Hid (∀ W pb u, RP W pb u → GD = true → pb < W.heap.size))
    (HBE : Hid (∀ W, Below w.heap.size w W → Calls Tryd.prog 6 #[] W fun x W' => x = .returned (.bool true) ∧ Below W.heap.size W W'))
    (HO1 : Hid (∀ W, Below w.heap.size w W → Calls Tryd.prog 8 #[.agg #[.int .i64 N, .slice v1 v2 v3]] W fun x W' => ∃ u1 u2 u3, x = .returned (.agg #[.int .i64 N, .slice u1 u2 u3]) ∧ AP W' (.slice u1 u2 u3) ∧ Below W.heap.size W W'))
    (HO2 : Hid (∀ W, Below w.heap.size w W → Calls Tryd.prog 8 #[.agg #[.int .i64 M, .slice y1 y2 y3]] W fun x W' => ∃ u1 u2 u3, x = .returned (.agg #[.int .i64 M, .slice u1 u2 u3]) ∧ HP W' (.slice u1 u2 u3) ∧ Below W.heap.size W W'))
    (HOL : Hid (∀ W, Below w.heap.size w W → Calls Tryd.prog 9 #[.slice l1 LL l3] W fun x W' => ∃ u1 u2 u3, x = .returned (.slice u1 u2 u3) ∧ LP W' (.slice u1 u2 u3) ∧ Below W.heap.size W W'))
    (HSE : Hid (∀ W a b l, Below w.heap.size w W → AP W a → HP W b → LP W l → Calls Tryd.prog 7 #[.agg #[.int .i64 N, a], .agg #[.int .i64 M, b], l] W fun x W' => ∃ r1 r2 r3 pb, x = .returned (.tuple #[.agg #[.int .i64 GN, .slice r1 r2 r3], .agg #[.int .i64 sc, .int .i64 si]]) ∧ RP W' pb (.slice r1 r2 r3) ∧ (GD = true → W.heap.size ≤ pb) ∧ Below W.heap.size W W'))
    (HTW : Hid (∀ W, Below w.heap.size w W → Calls Tryd.prog 10 #[.agg #[.int .i64 N, .slice v1 v2 v3], .agg #[.int .i64 M, .slice y1 y2 y3]] W fun x W' => x = .returned (.agg #[.int .i64 tc, .int .i64 ti]) ∧ Below W.heap.size W W'))
    (HNG : Hid (∀ W, Calls Tryd.prog 17 #[.agg #[.int .i64 0, .slice none 0 0]] W fun x W' => x = .returned (.bool true) ∧ Below W.heap.size W W'))
    (HW : (tc ≠ 0 ∧ sc = tc ∧ si = ti ∧ GN = 0 ∧ ∀ W pb r1 r2 r3, RP W pb (.slice r1 r2 r3) → r1 = none ∧ r2 = 0 ∧ r3 = 0)) :
    Calls Tryd.prog 3 #[.agg #[.int .i64 N, .slice v1 v2 v3], .agg #[.int .i64 M, .slice y1 y2 y3], .slice l1 LL l3] w fun x w' => x = .returned (.bool true) ∧ Below w.heap.size w w' := by
  replace HW := hide HW
  have hL1 : ¬ (LL : Int) > 100 := by omega
  have hL2 : decide ((LL : Int) > 100) = false := decide_eq_false hL1
  have hL3 : ¬ (100 : Int) < (LL : Int) := by omega
  obtain ⟨w0, hw0⟩ : ∃ w0, w0 = (w.alloc (.cells #[.int .i64 N, .slice v1 v2 v3] 24)).alloc (.cells #[.int .i64 M, .slice y1 y2 y3] 24) := ⟨_, rfl⟩
  have hB0 : Below w.heap.size w w0 := by rw [hw0]; exact (balloc w _).alloc (by simp) _
  have hX0 : Blk w0 w.heap.size 24 [.int .i64 N, .slice v1 v2 v3] := by rw [hw0]; exact (blk0 _ _).alloc _
  have hY0 : Blk w0 (w.heap.size + 1) 24 [.int .i64 M, .slice y1 y2 y3] := by
    rw [hw0]
    have := blk0 (w := w.alloc (.cells #[.int .i64 N, .slice v1 v2 v3] 24)) (T := 24) (.int .i64 M) (.slice y1 y2 y3)
    rwa [World.size_alloc] at this
  go_enter Tryd.func3, Tryd.ntmps3
  go_wp2_with fail
  rw [← hw0]
  clear hw0
  refine (HBE.out _ hB0).mono ?_
  rintro x1 w1 ⟨rfl, hb1⟩
  have hB1 := bcat2 hB0 hb1
  have hX1 := blk_below hX0 hb1
  have hY1 := blk_below hY0 hb1
  clear hX0 hY0 hb1 hB0
  obtain ⟨c0, c1, _, _⟩ := hX1.two
  obtain ⟨d0, d1, _, _⟩ := hY1.two
  go_wp2_with fail
  clear c0 c1 d0 d1
  go_cut [7, 8] (fun s7 s8 wx => ∃ gb fb r1 r2 r3 pb, s7 = .pointer (some ⟨gb, 0, none⟩) ∧ s8 = .pointer (some ⟨fb, 0, none⟩) ∧ Blk wx gb 24 [.int .i64 GN, .slice r1 r2 r3] ∧ Blk wx fb 28 [.int .i64 sc, .int .i64 si] ∧ RP wx pb (.slice r1 r2 r3) ∧ Below w1.heap.size w1 wx)
  case first =>
    clear HBE HTW HNG HW
    refine psem_r5 N M v1 v2 v3 y1 y2 y3 l1 LL l3 sc si GN GD w w1 hB1 hX1 hY1 AP HP LP RP HAU HHU HLU HRB HRS HRL HO1 HO2 HOL HSE _ _ (hide fun _ _ d _ _ h => by cases d <;> exact h) (hide fun gb fb pb r1 r2 r3 a1 a2 a3 b1 b2 b3 k1 k2 k3 W hG hF hR hBc => ?_)
    go_wp2
    go_meet
    exact ⟨gb, fb, r1, r2, r3, pb, rfl, rfl, hG, hF, hR, hBc⟩
  case rest =>
    obtain ⟨gb, fb, r1, r2, r3, pb, rfl, rfl, hGx, hFx, hRx, hbx⟩ := hcut
    have hBx := bcat2 hB1 hbx
    have hXx := blk_below hX1 hbx
    have hYx := blk_below hY1 hbx
    clear HBE HO1 HO2 HOL HSE hX1 hY1 hB1
    replace HW := HW.out
    obtain ⟨hz, rfl, rfl, rfl, hnil⟩ := HW
    obtain ⟨rfl, rfl, rfl⟩ := hnil _ _ _ _ _ hRx
    have hcz : (sc == 0) = false := by simpa using hz
    have hcn : (sc != 0) = true := by simpa using hz
    clear hz hnil
    obtain ⟨x0, x1, _, _⟩ := hXx.two
    obtain ⟨y0, y1', _, _⟩ := hYx.two
    go_wp2_with fail
    clear x0 x1 y0 y1'
    refine (HTW.out _ hBx).mono ?_
    rintro x6 w6 ⟨rfl, hb6⟩
    obtain ⟨wz, hwz⟩ : ∃ wz, wz = w6.alloc (.cells #[.int .i64 sc, .int .i64 si] 28) := ⟨_, rfl⟩
    have hbz : Below wc.heap.size wc wz := by rw [hwz]; exact bcat2 hb6 (balloc w6 _)
    have hP : PSt w wz w6.heap.size gb fb N M (.slice v1 v2 v3) (.slice y1 y2 y3) 0 (.slice none 0 0) sc si sc si := ⟨blk_below hXx hbz, blk_below hYx hbz, blk_below hGx hbz, blk_below hFx hbz, by rw [hwz]; exact blk0 _ _, bcat2 hBx hbz, Nat.lt_of_lt_of_le hYx.lt hb6.size, Nat.lt_of_lt_of_le hGx.lt hb6.size, Nat.lt_of_lt_of_le hFx.lt hb6.size⟩
    have hRz := HRB.out _ _ _ _ hRx hbz
    obtain ⟨x0, x1, _, _⟩ := hP.x.two
    obtain ⟨y0, y1', _, _⟩ := hP.y.two
    obtain ⟨g0, g1, _, _⟩ := hP.g.two
    obtain ⟨f0, f1, _, _⟩ := hP.f.two
    obtain ⟨b0, b1', _, _⟩ := hP.b.two
    rw [hwz] at x0 x1 y0 y1' g0 g1 f0 f1 b0 b1'
    go_wp2_with fail
    rw [← hwz] at x0 x1 y0 y1' g0 g1 f0 f1 b0 b1'
    rw [← hwz]
    clear hwz
    generalize w6.heap.size = wb at *
    go_loopw [10] (fun iv wr => iv = .int .i64 0 ∧ wr = wz) (fun _ _ => 0)
    case atStart => exact ⟨rfl, rfl⟩
    case round =>
      obtain ⟨rfl, rfl⟩ := hrel
      go_wp2_with fail
      all_goals (
        go_loopw [12] (fun iv wq => iv = .int .i64 0 ∧ wq = wr) (fun _ _ => 0)
        case atStart => exact ⟨rfl, rfl⟩
        case round =>
          obtain ⟨rfl, rfl⟩ := hrel
          go_wp2_with fail
          all_goals (
            refine (HNG.out _).mono ?_
            rintro x9 w9 ⟨rfl, hb9⟩
            go_wp2
            go_ret
            exact ⟨rfl, bcat2 hP.bel hb9⟩))
end Go.Proofs.YtanbpjfdfnmjpaaDoor

namespace Go.Proofs.YtanbpjfdfnmjpaaDoor
open Go Go.RowKit

set_option maxRecDepth 100000 in
set_option maxHeartbeats 16000000 in
theorem psem_b (N M : Int) (v1 : Option Addr) (v2 v3 : Nat) (y1 : Option Addr) (y2 y3 : Nat) (l1 : Option Addr) (LL l3 : Nat) (tc ti sc si GN : Int) (GD : Bool) (w : World) (hLL : LL ≤ 100)
    (AP HP LP : World → Value → Prop) (RP : World → Nat → Value → Prop)
    (HAU : Hid (∀ W W' u, AP W u → Below W.heap.size W W' → AP W' u)) (HHU : Hid (∀ W W' u, HP W u → Below W.heap.size W W' → HP W' u)) (HLU : Hid (∀ W W' u, LP W u → Below W.heap.size W W' → LP W' u))
    (HRB : Hid (∀ W W' pb u, RP W pb u → Below W.heap.size W W' → RP W' pb u)) (HRS : Hid (∀ W pb u b k x, RP W pb u → (GD = true → pb ≠ b) → RP (W.setCell ⟨b, k, none⟩ x) pb u)) (HRL : Hid (∀ W pb u, RP W pb u → GD = true → pb < W.heap.size))
    (HBE : Hid (∀ W, Below w.heap.size w W → Calls Tryd.prog 6 #[] W fun x W' => x = .returned (.bool true) ∧ Below W.heap.size W W'))
    (HO1 : Hid (∀ W, Below w.heap.size w W → Calls Tryd.prog 8 #[.agg #[.int .i64 N, .slice v1 v2 v3]] W fun x W' => ∃ u1 u2 u3, x = .returned (.agg #[.int .i64 N, .slice u1 u2 u3]) ∧ AP W' (.slice u1 u2 u3) ∧ Below W.heap.size W W'))
    (HO2 : Hid (∀ W, Below w.heap.size w W → Calls Tryd.prog 8 #[.agg #[.int .i64 M, .slice y1 y2 y3]] W fun x W' => ∃ u1 u2 u3, x = .returned (.agg #[.int .i64 M, .slice u1 u2 u3]) ∧ HP W' (.slice u1 u2 u3) ∧ Below W.heap.size W W'))
    (HOL : Hid (∀ W, Below w.heap.size w W → Calls Tryd.prog 9 #[.slice l1 LL l3] W fun x W' => ∃ u1 u2 u3, x = .returned (.slice u1 u2 u3) ∧ LP W' (.slice u1 u2 u3) ∧ Below W.heap.size W W'))
    (HSE : Hid (∀ W a b l, Below w.heap.size w W → AP W a → HP W b → LP W l → Calls Tryd.prog 7 #[.agg #[.int .i64 N, a], .agg #[.int .i64 M, b], l] W fun x W' => ∃ r1 r2 r3 pb, x = .returned (.tuple #[.agg #[.int .i64 GN, .slice r1 r2 r3], .agg #[.int .i64 sc, .int .i64 si]]) ∧ RP W' pb (.slice r1 r2 r3) ∧ (GD = true → W.heap.size ≤ pb) ∧ Below W.heap.size W W'))
    (HTW : Hid (∀ W, Below w.heap.size w W → Calls Tryd.prog 10 #[.agg #[.int .i64 N, .slice v1 v2 v3], .agg #[.int .i64 M, .slice y1 y2 y3]] W fun x W' => x = .returned (.agg #[.int .i64 tc, .int .i64 ti]) ∧ Below W.heap.size W W'))
    (HNG : Hid (∀ W, Calls Tryd.prog 17 #[.agg #[.int .i64 0, .slice none 0 0]] W fun x W' => x = .returned (.bool true) ∧ Below W.heap.size W W'))
    (HW : (tc = 0 ∧ ((LL : Nat) : Int) ≠ M ∧ sc = 8 ∧ si = 0 ∧ GN = 0 ∧ ∀ W pb r1 r2 r3, RP W pb (.slice r1 r2 r3) → r1 = none ∧ r2 = 0 ∧ r3 = 0)) :
    Calls Tryd.prog 3 #[.agg #[.int .i64 N, .slice v1 v2 v3], .agg #[.int .i64 M, .slice y1 y2 y3], .slice l1 LL l3] w fun x w' => x = .returned (.bool true) ∧ Below w.heap.size w w' := by
  replace HW := hide HW
  have hL1 : ¬ (LL : Int) > 100 := by omega
  have hL2 : decide ((LL : Int) > 100) = false := decide_eq_false hL1
  have hL3 : ¬ (100 : Int) < (LL : Int) := by omega
  obtain ⟨w0, hw0⟩ : ∃ w0, w0 = (w.alloc (.cells #[.int .i64 N, .slice v1 v2 v3] 24)).alloc (.cells #[.int .i64 M, .slice y1 y2 y3] 24) := ⟨_, rfl⟩
  have hB0 : Below w.heap.size w w0 := by rw [hw0]; exact (balloc w _).alloc (by simp) _
  have hX0 : Blk w0 w.heap.size 24 [.int .i64 N, .slice v1 v2 v3] := by rw [hw0]; exact (blk0 _ _).alloc _
  have hY0 : Blk w0 (w.heap.size + 1) 24 [.int .i64 M, .slice y1 y2 y3] := by
    rw [hw0]
    have := blk0 (w := w.alloc (.cells #[.int .i64 N, .slice v1 v2 v3] 24)) (T := 24) (.int .i64 M) (.slice y1 y2 y3)
    rwa [World.size_alloc] at this
  go_enter Tryd.func3, Tryd.ntmps3
  go_wp2_with fail
  rw [← hw0]
  clear hw0
  refine (HBE.out _ hB0).mono ?_
  rintro x1 w1 ⟨rfl, hb1⟩
  have hB1 := bcat2 hB0 hb1
  have hX1 := blk_below hX0 hb1
  have hY1 := blk_below hY0 hb1
  clear hX0 hY0 hb1 hB0
  obtain ⟨c0, c1, _, _⟩ := hX1.two
  obtain ⟨d0, d1, _, _⟩ := hY1.two
  go_wp2_with fail
  clear c0 c1 d0 d1
  go_cut [7, 8] (fun s7 s8 wx => ∃ gb fb r1 r2 r3 pb, s7 = .pointer (some ⟨gb, 0, none⟩) ∧ s8 = .pointer (some ⟨fb, 0, none⟩) ∧ Blk wx gb 24 [.int .i64 GN, .slice r1 r2 r3] ∧ Blk wx fb 28 [.int .i64 sc, .int .i64 si] ∧ RP wx pb (.slice r1 r2 r3) ∧ Below w1.heap.size w1 wx)
  case first =>
    clear HBE HTW HNG HW
    refine psem_r5 N M v1 v2 v3 y1 y2 y3 l1 LL l3 sc si GN GD w w1 hB1 hX1 hY1 AP HP LP RP HAU HHU HLU HRB HRS HRL HO1 HO2 HOL HSE _ _ (hide fun _ _ d _ _ h => by cases d <;> exact h) (hide fun gb fb pb r1 r2 r3 a1 a2 a3 b1 b2 b3 k1 k2 k3 W hG hF hR hBc => ?_)
    go_wp2
    go_meet
    exact ⟨gb, fb, r1, r2, r3, pb, rfl, rfl, hG, hF, hR, hBc⟩
  case rest =>
    obtain ⟨gb, fb, r1, r2, r3, pb, rfl, rfl, hGx, hFx, hRx, hbx⟩ := hcut
    have hBx := bcat2 hB1 hbx
    have hXx := blk_below hX1 hbx
    have hYx := blk_below hY1 hbx
    clear HBE HO1 HO2 HOL HSE hX1 hY1 hB1
    replace HW := HW.out
    obtain ⟨rfl, hz, rfl, rfl, rfl, hnil⟩ := HW
    obtain ⟨rfl, rfl, rfl⟩ := hnil _ _ _ _ _ hRx
    have hsz : (((LL : Nat) : Int) != M) = true := by simpa using hz
    clear hz hnil
    obtain ⟨x0, x1, _, _⟩ := hXx.two
    obtain ⟨y0, y1', _, _⟩ := hYx.two
    go_wp2_with fail
    clear x0 x1 y0 y1'
    refine (HTW.out _ hBx).mono ?_
    rintro x6 w6 ⟨rfl, hb6⟩
    obtain ⟨wz, hwz⟩ : ∃ wz, wz = w6.alloc (.cells #[.int .i64 0, .int .i64 ti] 28) := ⟨_, rfl⟩
    have hbz : Below wc.heap.size wc wz := by rw [hwz]; exact bcat2 hb6 (balloc w6 _)
    have hP : PSt w wz w6.heap.size gb fb N M (.slice v1 v2 v3) (.slice y1 y2 y3) 0 (.slice none 0 0) 8 0 0 ti := ⟨blk_below hXx hbz, blk_below hYx hbz, blk_below hGx hbz, blk_below hFx hbz, by rw [hwz]; exact blk0 _ _, bcat2 hBx hbz, Nat.lt_of_lt_of_le hYx.lt hb6.size, Nat.lt_of_lt_of_le hGx.lt hb6.size, Nat.lt_of_lt_of_le hFx.lt hb6.size⟩
    have hRz := HRB.out _ _ _ _ hRx hbz
    obtain ⟨x0, x1, _, _⟩ := hP.x.two
    obtain ⟨y0, y1', _, _⟩ := hP.y.two
    obtain ⟨g0, g1, _, _⟩ := hP.g.two
    obtain ⟨f0, f1, _, _⟩ := hP.f.two
    obtain ⟨b0, b1', _, _⟩ := hP.b.two
    rw [hwz] at x0 x1 y0 y1' g0 g1 f0 f1 b0 b1'
    go_wp2_with fail
    rw [← hwz] at x0 x1 y0 y1' g0 g1 f0 f1 b0 b1'
    rw [← hwz]
    clear hwz
    generalize w6.heap.size = wb at *
    refine (f_any 8 0 wz).mono ?_
    rintro x7 w7 ⟨rfl, hb7⟩
    have hP := hP.below hb7
    clear x0 x1 y0 y1' g0 g1 f0 f1 b0 b1'
    obtain ⟨k0, k1, k2, k3⟩ := hP.b.two
    have hP := hP.put 8 0
    obtain ⟨x0, x1, _, _⟩ := hP.x.two
    obtain ⟨y0, y1', _, _⟩ := hP.y.two
    obtain ⟨g0, g1, _, _⟩ := hP.g.two
    obtain ⟨f0, f1, _, _⟩ := hP.f.two
    obtain ⟨b0, b1', _, _⟩ := hP.b.two
    go_wp2_with fail
    clear k0 k1 k2 k3
    generalize (w7.setCell ⟨wb, 0, none⟩ (.int .i64 8)).setCell ⟨wb, 1, none⟩ (.int .i64 0) = wy at *
    go_loopw [10] (fun iv wr => iv = .int .i64 0 ∧ wr = wy) (fun _ _ => 0)
    case atStart => exact ⟨rfl, rfl⟩
    case round =>
      obtain ⟨rfl, rfl⟩ := hrel
      go_wp2_with fail
      all_goals (
        go_loopw [12] (fun iv wq => iv = .int .i64 0 ∧ wq = wr) (fun _ _ => 0)
        case atStart => exact ⟨rfl, rfl⟩
        case round =>
          obtain ⟨rfl, rfl⟩ := hrel
          go_wp2_with fail
          all_goals (
            refine (HNG.out _).mono ?_
            rintro x9 w9 ⟨rfl, hb9⟩
            go_wp2
            go_ret
            exact ⟨rfl, bcat2 hP.bel hb9⟩))
end Go.Proofs.YtanbpjfdfnmjpaaDoor

namespace Go.Proofs.YtanbpjfdfnmjpaaDoor
open Go Go.RowKit

set_option maxRecDepth 100000 in
set_option maxHeartbeats 16000000 in
theorem psem_c1 (N M : Int) (v1 : Option Addr) (v2 v3 : Nat) (y1 : Option Addr) (y2 y3 : Nat) (l1 : Option Addr) (LL l3 : Nat) (tc ti sc si GN : Int) (GD : Bool) (w : World) (hLL : LL ≤ 100) (n m lb lo : Nat) (ea : Nat → Option Addr) (el ec : Nat → Nat) (hc hi : Nat → Int) (ob : Nat → Bool) (st : Nat → Nat → Bool) (TM : Nat → Nat → Nat) (TP : World → Nat → Nat → Value → Prop)
    (AP HP LP : World → Value → Prop) (RP : World → Nat → Value → Prop)
    (HAU : Hid (∀ W W' u, AP W u → Below W.heap.size W W' → AP W' u)) (HHU : Hid (∀ W W' u, HP W u → Below W.heap.size W W' → HP W' u)) (HLU : Hid (∀ W W' u, LP W u → Below W.heap.size W W' → LP W' u))
    (HRB : Hid (∀ W W' pb u, RP W pb u → Below W.heap.size W W' → RP W' pb u)) (HRS : Hid (∀ W pb u b k x, RP W pb u → (GD = true → pb ≠ b) → RP (W.setCell ⟨b, k, none⟩ x) pb u)) (HRL : Hid (∀ W pb u, RP W pb u → GD = true → pb < W.heap.size))
    (HBE : Hid (∀ W, Below w.heap.size w W → Calls Tryd.prog 6 #[] W fun x W' => x = .returned (.bool true) ∧ Below W.heap.size W W'))
    (HO1 : Hid (∀ W, Below w.heap.size w W → Calls Tryd.prog 8 #[.agg #[.int .i64 N, .slice v1 v2 v3]] W fun x W' => ∃ u1 u2 u3, x = .returned (.agg #[.int .i64 N, .slice u1 u2 u3]) ∧ AP W' (.slice u1 u2 u3) ∧ Below W.heap.size W W'))
    (HO2 : Hid (∀ W, Below w.heap.size w W → Calls Tryd.prog 8 #[.agg #[.int .i64 M, .slice y1 y2 y3]] W fun x W' => ∃ u1 u2 u3, x = .returned (.agg #[.int .i64 M, .slice u1 u2 u3]) ∧ HP W' (.slice u1 u2 u3) ∧ Below W.heap.size W W'))
    (HOL : Hid (∀ W, Below w.heap.size w W → Calls Tryd.prog 9 #[.slice l1 LL l3] W fun x W' => ∃ u1 u2 u3, x = .returned (.slice u1 u2 u3) ∧ LP W' (.slice u1 u2 u3) ∧ Below W.heap.size W W'))
    (HSE : Hid (∀ W a b l, Below w.heap.size w W → AP W a → HP W b → LP W l → Calls Tryd.prog 7 #[.agg #[.int .i64 N, a], .agg #[.int .i64 M, b], l] W fun x W' => ∃ r1 r2 r3 pb, x = .returned (.tuple #[.agg #[.int .i64 GN, .slice r1 r2 r3], .agg #[.int .i64 sc, .int .i64 si]]) ∧ RP W' pb (.slice r1 r2 r3) ∧ (GD = true → W.heap.size ≤ pb) ∧ Below W.heap.size W W'))
    (HTW : Hid (∀ W, Below w.heap.size w W → Calls Tryd.prog 10 #[.agg #[.int .i64 N, .slice v1 v2 v3], .agg #[.int .i64 M, .slice y1 y2 y3]] W fun x W' => x = .returned (.agg #[.int .i64 tc, .int .i64 ti]) ∧ Below W.heap.size W W'))
    (HNG : Hid (∀ W, Calls Tryd.prog 17 #[.agg #[.int .i64 0, .slice none 0 0]] W fun x W' => x = .returned (.bool true) ∧ Below W.heap.size W W'))
    (HW : (tc = 0 ∧ ti = 0 ∧ N = ((n : Nat) : Int) ∧ M = ((m : Nat) : Int) ∧ m = LL ∧ l1 = some ⟨lb, lo, none⟩ ∧ Hid (CPrem w n m (.slice v1 v2 v3) (.slice y1 y2 y3) lb lo ea el ec hc hi ob st TM TP) ∧ 1 ≤ m ∧ m ≤ 60 ∧ n ≤ 60 ∧ GN = 0 ∧ (∀ W pb r1 r2 r3, RP W pb (.slice r1 r2 r3) → r1 = none ∧ r2 = 0 ∧ r3 = 0) ∧ ∃ j : Nat, j < m ∧ Hid (∀ t, t < j → hc t = 0 ∧ ob t = true) ∧ si = ((j : Nat) : Int) ∧ sc ≠ 0 ∧ ((hc j ≠ 0 ∧ sc = hc j) ∨ (hc j = 0 ∧ ob j = false ∧ sc = 10)))) :
    Calls Tryd.prog 3 #[.agg #[.int .i64 N, .slice v1 v2 v3], .agg #[.int .i64 M, .slice y1 y2 y3], .slice l1 LL l3] w fun x w' => x = .returned (.bool true) ∧ Below w.heap.size w w' := by
  replace HW := hide HW
  have hL1 : ¬ (LL : Int) > 100 := by omega
  have hL2 : decide ((LL : Int) > 100) = false := decide_eq_false hL1
  have hL3 : ¬ (100 : Int) < (LL : Int) := by omega
  obtain ⟨w0, hw0⟩ : ∃ w0, w0 = (w.alloc (.cells #[.int .i64 N, .slice v1 v2 v3] 24)).alloc (.cells #[.int .i64 M, .slice y1 y2 y3] 24) := ⟨_, rfl⟩
  have hB0 : Below w.heap.size w w0 := by rw [hw0]; exact (balloc w _).alloc (by simp) _
  have hX0 : Blk w0 w.heap.size 24 [.int .i64 N, .slice v1 v2 v3] := by rw [hw0]; exact (blk0 _ _).alloc _
  have hY0 : Blk w0 (w.heap.size + 1) 24 [.int .i64 M, .slice y1 y2 y3] := by
    rw [hw0]
    have := blk0 (w := w.alloc (.cells #[.int .i64 N, .slice v1 v2 v3] 24)) (T := 24) (.int .i64 M) (.slice y1 y2 y3)
    rwa [World.size_alloc] at this
  go_enter Tryd.func3, Tryd.ntmps3
  go_wp2_with fail
  rw [← hw0]
  clear hw0
  refine (HBE.out _ hB0).mono ?_
  rintro x1 w1 ⟨rfl, hb1⟩
  have hB1 := bcat2 hB0 hb1
  have hX1 := blk_below hX0 hb1
  have hY1 := blk_below hY0 hb1
  clear hX0 hY0 hb1 hB0
  obtain ⟨c0, c1, _, _⟩ := hX1.two
  obtain ⟨d0, d1, _, _⟩ := hY1.two
  go_wp2_with fail
  clear c0 c1 d0 d1
  go_cut [7, 8] (fun s7 s8 wx => ∃ gb fb r1 r2 r3 pb, s7 = .pointer (some ⟨gb, 0, none⟩) ∧ s8 = .pointer (some ⟨fb, 0, none⟩) ∧ Blk wx gb 24 [.int .i64 GN, .slice r1 r2 r3] ∧ Blk wx fb 28 [.int .i64 sc, .int .i64 si] ∧ RP wx pb (.slice r1 r2 r3) ∧ Below w1.heap.size w1 wx)
  case first =>
    clear HBE HTW HNG HW
    refine psem_r5 N M v1 v2 v3 y1 y2 y3 l1 LL l3 sc si GN GD w w1 hB1 hX1 hY1 AP HP LP RP HAU HHU HLU HRB HRS HRL HO1 HO2 HOL HSE _ _ (hide fun _ _ d _ _ h => by cases d <;> exact h) (hide fun gb fb pb r1 r2 r3 a1 a2 a3 b1 b2 b3 k1 k2 k3 W hG hF hR hBc => ?_)
    go_wp2
    go_meet
    exact ⟨gb, fb, r1, r2, r3, pb, rfl, rfl, hG, hF, hR, hBc⟩
  case rest =>
    obtain ⟨gb, fb, r1, r2, r3, pb, rfl, rfl, hGx, hFx, hRx, hbx⟩ := hcut
    have hBx := bcat2 hB1 hbx
    have hXx := blk_below hX1 hbx
    have hYx := blk_below hY1 hbx
    clear HBE HO1 HO2 HOL HSE hX1 hY1 hB1
    replace HW := HW.out
    obtain ⟨rfl, rfl, rfl, rfl, rfl, rfl, HC, hm1, hm60, hn60, rfl, hnil, j, hj, HFN, rfl, hsc, HBD⟩ := HW
    obtain ⟨rfl, rfl, rfl⟩ := hnil _ _ _ _ _ hRx
    clear hnil
    have hcz : (sc == 0) = false := by simpa using hsc
    have hcn : (sc != 0) = true := by simpa using hsc
    clear hsc
    have hmm : (((m : Nat) : Int) != ((m : Nat) : Int)) = false := by simp
    obtain ⟨x0, x1, _, _⟩ := hXx.two
    obtain ⟨y0, y1', _, _⟩ := hYx.two
    go_wp2_with fail
    clear x0 x1 y0 y1'
    refine (HTW.out _ hBx).mono ?_
    rintro x6 w6 ⟨rfl, hb6⟩
    obtain ⟨wz, hwz⟩ : ∃ wz, wz = w6.alloc (.cells #[.int .i64 0, .int .i64 0] 28) := ⟨_, rfl⟩
    have hbz : Below wc.heap.size wc wz := by rw [hwz]; exact bcat2 hb6 (balloc w6 _)
    have hP : PSt w wz w6.heap.size gb fb n m (.slice v1 v2 v3) (.slice y1 y2 y3) (0) (.slice none 0 0) sc j 0 0 := ⟨blk_below hXx hbz, blk_below hYx hbz, blk_below hGx hbz, blk_below hFx hbz, by rw [hwz]; exact blk0 _ _, bcat2 hBx hbz, Nat.lt_of_lt_of_le hYx.lt hb6.size, Nat.lt_of_lt_of_le hGx.lt hb6.size, Nat.lt_of_lt_of_le hFx.lt hb6.size⟩
    have hRz := HRB.out _ _ _ _ hRx hbz
    obtain ⟨x0, x1, _, _⟩ := hP.x.two
    obtain ⟨y0, y1', _, _⟩ := hP.y.two
    obtain ⟨g0, g1, _, _⟩ := hP.g.two
    obtain ⟨f0, f1, _, _⟩ := hP.f.two
    obtain ⟨b0, b1', _, _⟩ := hP.b.two
    rw [hwz] at x0 x1 y0 y1' g0 g1 f0 f1 b0 b1'
    go_wp2_with fail
    rw [← hwz]
    clear hwz x0 x1 y0 y1' g0 g1 f0 f1 b0 b1' hmm hXx hYx hGx hFx hbz hb6
    generalize w6.heap.size = wb at *
    go_loopw [10] (fun iv wr => ∃ k : Nat, iv = .int .i64 k ∧ ((k ≤ j ∧ PSt w wr wb gb fb n m (.slice v1 v2 v3) (.slice y1 y2 y3) (0) (.slice none 0 0) (sc) (j) (0) (0)) ∨ (k = j + 1 ∧ PSt w wr wb gb fb n m (.slice v1 v2 v3) (.slice y1 y2 y3) (0) (.slice none 0 0) (sc) (j) (sc) (j)))) (fun iv _ => m - (intOf iv).toNat)
    case atStart => exact ⟨0, rfl, .inl ⟨Nat.zero_le _, hP⟩⟩
    case round =>
      obtain ⟨k, rfl, ⟨hkj, hPr⟩ | ⟨hkj, hPr⟩⟩ := hrel
      · have hlt : k < m := by omega
        by_cases hke : k = j
        · subst hke
          rcases HBD with ⟨hz, rfl⟩ | ⟨hz1, hz2, rfl⟩
          · have hzb : (hc k != 0) = true := by simpa using hz
            clear hz
            have hki : (k : Int) < (m : Int) := by omega
            obtain ⟨x0, x1, _, _⟩ := hPr.x.two
            obtain ⟨b0, b1', _, _⟩ := hPr.b.two
            have hS12 : ∀ W, Below wr.heap.size wr W → (Below wr.heap.size wr W ∧ W.cell? ⟨w.heap.size, 0, none⟩ = some (.int .i64 n) ∧ W.cell? ⟨w.heap.size, 1, none⟩ = some (.slice v1 v2 v3) ∧ W.cell? ⟨lb, lo + k, none⟩ = some (.slice (ea k) (el k) (ec k))) := fun W h => ⟨h, below_cell h x0, below_cell h x1, HC.out.cell W (bcat2 hPr.bel h) k hlt⟩
            have hBc : Below wr.heap.size wr wr.drew := bdrew (Below.refl _ _)
            have hS120 := hS12 _ hBc
            go_wp2_with fail
            clear x0 x1 b0 b1'
            go_cut [11] (fun s11 wx => ∃ vb, s11 = .pointer (some ⟨vb, 0, none⟩) ∧ Blk wx vb 28 [.int .i64 (hc k), .int .i64 (hi k)] ∧ Below wr.heap.size wr wx)
            case first =>
              refine wp_region_held_drew (S := fun W => Below wr.heap.size wr W ∧ W.cell? ⟨w.heap.size, 0, none⟩ = some (.int .i64 n) ∧ W.cell? ⟨w.heap.size, 1, none⟩ = some (.slice v1 v2 v3) ∧ W.cell? ⟨lb, lo + k, none⟩ = some (.slice (ea k) (el k) (ec k))) (by kernel_rfl) hS120 (fun hHeld => ?_)
              generalize wr.drew = wd at *
              refine wpAnyH_take (i := 0) (oi := ({ dst := some 56, op := Go.Op.load 24 (Go.Operand.tmp 3), type := 24, pos := _, after := _, guard := none } : Oper)) (v := ?_) rfl (by kernel_rfl) (by kernel_rfl) (by kernel_rfl) (fun _ _ _ h => h) (Or.inl ⟨by rfl, ?_⟩) (by assumption) ?_
              rotate_left
              · (intro w hSw; (try dsimp only at hSw); go_simp; try with_reducible rfl)
              simp only [Act.put, List.setIfInBounds_toArray, List.set_cons_zero, List.set_cons_succ]
              refine wpAnyH_take (i := 1) (oi := ({ dst := some 57, op := Go.Op.load 24 (Go.Operand.tmp 3), type := 24, pos := _, after := _, guard := none } : Oper)) (v := ?_) rfl (by kernel_rfl) (by kernel_rfl) (by kernel_rfl) (fun _ _ _ h => h) (Or.inl ⟨by rfl, ?_⟩) (by assumption) ?_
              rotate_left
              · (intro w hSw; (try dsimp only at hSw); go_simp; try with_reducible rfl)
              simp only [Act.put, List.setIfInBounds_toArray, List.set_cons_zero, List.set_cons_succ]
              refine wpAnyH_take (i := 2) (oi := ({ dst := some 58, op := Go.Op.move (Go.Operand.tmp 2), type := 25, pos := _, after := _, guard := none } : Oper)) (v := ?_) rfl (by kernel_rfl) (by kernel_rfl) (by kernel_rfl) (fun _ _ _ h => h) (Or.inl ⟨by rfl, ?_⟩) (by assumption) ?_
              rotate_left
              · (intro w hSw; (try dsimp only at hSw); go_simp; try with_reducible rfl)
              simp only [Act.put, List.setIfInBounds_toArray, List.set_cons_zero, List.set_cons_succ]
              refine wpAnyH_take (i := 3) (oi := ({ dst := some 59, op := Go.Op.move (Go.Operand.tmp 10), type := 3, pos := _, after := _, guard := none } : Oper)) (v := ?_) rfl (by kernel_rfl) (by kernel_rfl) (by kernel_rfl) (fun _ _ _ h => h) (Or.inl ⟨by rfl, ?_⟩) (by assumption) ?_
              rotate_left
              · (intro w hSw; (try dsimp only at hSw); go_simp; try with_reducible rfl)
              simp only [Act.put, List.setIfInBounds_toArray, List.set_cons_zero, List.set_cons_succ]
              refine wpAnyH_take (i := 4) (oi := ({ dst := some 60, op := Go.Op.indexAddr 25 (Go.Operand.tmp 58) (Go.Operand.tmp 59), type := 0, pos := _, after := _, guard := none } : Oper)) (v := ?_) rfl (by kernel_rfl) (by kernel_rfl) (by kernel_rfl) (fun _ _ _ h => h) (Or.inl ⟨by rfl, ?_⟩) (by assumption) ?_
              rotate_left
              · (intro w hSw; (try dsimp only at hSw); go_simp; try with_reducible rfl)
              simp only [Act.put, List.setIfInBounds_toArray, List.set_cons_zero, List.set_cons_succ]
              refine wpAnyH_take (i := 5) (oi := ({ dst := some 61, op := Go.Op.load 22 (Go.Operand.tmp 60), type := 22, pos := _, after := _, guard := none } : Oper)) (v := ?_) rfl (by kernel_rfl) (by kernel_rfl) (by kernel_rfl) (fun _ _ _ h => h) (Or.inl ⟨by rfl, ?_⟩) (by assumption) ?_
              rotate_left
              · (intro w hSw; (try dsimp only at hSw); go_simp; try with_reducible rfl)
              simp only [Act.put, List.setIfInBounds_toArray, List.set_cons_zero, List.set_cons_succ]
              refine wpAnyH_ready (rs := [6, 7]) (by kernel_rfl) (by simp) (AllReadyH.cons (o := ({ dst := some 62, op := Go.Op.call { callee := Go.Callee.value (Go.Operand.func 12), args := #[Go.Operand.tmp 56, Go.Operand.tmp 57, Go.Operand.tmp 61], argTypes := #[24, 24, 22] }, type := 28, pos := _, after := _, guard := none } : Oper)) rfl (fun KK hK => ?_) (AllReadyH.cons (o := ({ dst := some 11, op := Go.Op.alloc 28, type := 0, pos := _, after := _, guard := none } : Oper)) rfl (fun KK hK => ?_) AllReadyH.nil))
              · go_simp
                refine (HC.out.hf _ k (bcat2 hPr.bel hBc) hlt).mono ?_
                rintro x12 U12 ⟨rfl, hl12⟩
                have hBc := bcat2 hBc hl12
                try go_wp2_with fail
                refine hK.out _ _ (hS12 _ hBc) (fun hHeld => ?_)
                clear hK
                try simp only [Act.put, List.setIfInBounds_toArray, List.set_cons_zero, List.set_cons_succ]
                refine wpAnyH_ready (rs := [7]) (by kernel_rfl) (by simp) (AllReadyH.cons (o := ({ dst := some 11, op := Go.Op.alloc 28, type := 0, pos := _, after := _, guard := none } : Oper)) rfl (fun KK hK => ?_) AllReadyH.nil)
                go_simp
                have hge := hBc.size
                have haV := balloc U12 (.cells #[.int .i64 0, .int .i64 0] 28)
                have hBc := bcat2 hBc haV
                have hV := blk0 (w := U12) (T := 28) (.int .i64 0) (.int .i64 0)
                refine hK.out _ _ (hS12 _ hBc) (fun hHeld => ?_)
                clear hK
                try simp only [Act.put, List.setIfInBounds_toArray, List.set_cons_zero, List.set_cons_succ]
                generalize U12.alloc (.cells #[.int .i64 0, .int .i64 0] 28) = WAv at *
                generalize U12.heap.size = vb at *
                refine wpAnyH_ready (rs := [8]) (by kernel_rfl) (by simp) (AllReadyH.cons (o := ({ dst := none, op := Go.Op.store 28 (Go.Operand.tmp 11) (Go.Operand.tmp 62), type := 0, pos := _, after := _, guard := none } : Oper)) rfl (fun KK hK => ?_) AllReadyH.nil)
                obtain ⟨z0, z1, z2, z3⟩ := hV.two
                go_simp
                have hBc := (hBc.setCell (p := ⟨vb, 0, none⟩) hge (.int .i64 (hc k))).setCell (p := ⟨vb, 1, none⟩) hge (.int .i64 (hi k))
                have hV : Blk _ vb 28 [.int .i64 (hc k), .int .i64 (hi k)] := (hV.set 0 (.int .i64 (hc k))).set 1 (.int .i64 (hi k))
                refine hK.out _ _ (hS12 _ hBc) (fun hHeld => ?_)
                clear hK
                try simp only [Act.put, List.setIfInBounds_toArray, List.set_cons_zero, List.set_cons_succ]
                clear z0 z1 z2 z3
                refine wpAnyH_done (by kernel_rfl) ?_ _
                go_wp2
                go_meet
                exact ⟨vb, rfl, hV, hBc⟩
              go_simp
              have hge := hBc.size
              have haV := balloc wd (.cells #[.int .i64 0, .int .i64 0] 28)
              have hBc := bcat2 hBc haV
              have hV := blk0 (w := wd) (T := 28) (.int .i64 0) (.int .i64 0)
              refine hK.out _ _ (hS12 _ hBc) (fun hHeld => ?_)
              clear hK
              try simp only [Act.put, List.setIfInBounds_toArray, List.set_cons_zero, List.set_cons_succ]
              generalize wd.alloc (.cells #[.int .i64 0, .int .i64 0] 28) = WAv at *
              generalize wd.heap.size = vb at *
              refine wpAnyH_ready (rs := [6]) (by kernel_rfl) (by simp) (AllReadyH.cons (o := ({ dst := some 62, op := Go.Op.call { callee := Go.Callee.value (Go.Operand.func 12), args := #[Go.Operand.tmp 56, Go.Operand.tmp 57, Go.Operand.tmp 61], argTypes := #[24, 24, 22] }, type := 28, pos := _, after := _, guard := none } : Oper)) rfl (fun KK hK => ?_) AllReadyH.nil)
              go_simp
              refine (HC.out.hf _ k (bcat2 hPr.bel hBc) hlt).mono ?_
              rintro x12 U12 ⟨rfl, hl12⟩
              have hBc := bcat2 hBc hl12
              have hV := blk_below hV hl12
              try go_wp2_with fail
              refine hK.out _ _ (hS12 _ hBc) (fun hHeld => ?_)
              clear hK
              try simp only [Act.put, List.setIfInBounds_toArray, List.set_cons_zero, List.set_cons_succ]
              refine wpAnyH_ready (rs := [8]) (by kernel_rfl) (by simp) (AllReadyH.cons (o := ({ dst := none, op := Go.Op.store 28 (Go.Operand.tmp 11) (Go.Operand.tmp 62), type := 0, pos := _, after := _, guard := none } : Oper)) rfl (fun KK hK => ?_) AllReadyH.nil)
              obtain ⟨z0, z1, z2, z3⟩ := hV.two
              go_simp
              have hBc := (hBc.setCell (p := ⟨vb, 0, none⟩) hge (.int .i64 (hc k))).setCell (p := ⟨vb, 1, none⟩) hge (.int .i64 (hi k))
              have hV : Blk _ vb 28 [.int .i64 (hc k), .int .i64 (hi k)] := (hV.set 0 (.int .i64 (hc k))).set 1 (.int .i64 (hi k))
              refine hK.out _ _ (hS12 _ hBc) (fun hHeld => ?_)
              clear hK
              try simp only [Act.put, List.setIfInBounds_toArray, List.set_cons_zero, List.set_cons_succ]
              clear z0 z1 z2 z3
              refine wpAnyH_done (by kernel_rfl) ?_ _
              go_wp2
              go_meet
              exact ⟨vb, rfl, hV, hBc⟩
            case rest =>
              obtain ⟨vb, rfl, hV, hbv⟩ := hcut
              have hPc := hPr.below hbv
              obtain ⟨v0, v1', _, _⟩ := hV.two
              go_wp2_with fail
              clear v0 v1'
              refine (f_any (hc k) k _).mono ?_
              rintro x7 w7 ⟨rfl, hb7⟩
              have hPe := hPc.below hb7
              obtain ⟨k0, k1, k2, k3⟩ := hPe.b.two
              have hPg := hPe.put (hc k) k
              go_wp2
              go_roundw
              case rel => exact ⟨k + 1, by go_num, .inr ⟨rfl, hPg⟩⟩
              case measure => simp [intOf]; omega
          · have HZ : Hid (hc k = 0 ∧ ob k = false) := hide ⟨hz1, hz2⟩
            clear hz1 hz2
            have hki : (k : Int) < (m : Int) := by omega
            obtain ⟨x0, x1, _, _⟩ := hPr.x.two
            obtain ⟨b0, b1', _, _⟩ := hPr.b.two
            have hS12 : ∀ W, Below wr.heap.size wr W → (Below wr.heap.size wr W ∧ W.cell? ⟨w.heap.size, 0, none⟩ = some (.int .i64 n) ∧ W.cell? ⟨w.heap.size, 1, none⟩ = some (.slice v1 v2 v3) ∧ W.cell? ⟨lb, lo + k, none⟩ = some (.slice (ea k) (el k) (ec k))) := fun W h => ⟨h, below_cell h x0, below_cell h x1, HC.out.cell W (bcat2 hPr.bel h) k hlt⟩
            have hBc : Below wr.heap.size wr wr.drew := bdrew (Below.refl _ _)
            have hS120 := hS12 _ hBc
            go_wp2_with fail
            clear x0 x1 b0 b1'
            go_cut [11] (fun s11 wx => ∃ vb, s11 = .pointer (some ⟨vb, 0, none⟩) ∧ Blk wx vb 28 [.int .i64 (hc k), .int .i64 (hi k)] ∧ Below wr.heap.size wr wx)
            case first =>
              refine wp_region_held_drew (S := fun W => Below wr.heap.size wr W ∧ W.cell? ⟨w.heap.size, 0, none⟩ = some (.int .i64 n) ∧ W.cell? ⟨w.heap.size, 1, none⟩ = some (.slice v1 v2 v3) ∧ W.cell? ⟨lb, lo + k, none⟩ = some (.slice (ea k) (el k) (ec k))) (by kernel_rfl) hS120 (fun hHeld => ?_)
              generalize wr.drew = wd at *
              refine wpAnyH_take (i := 0) (oi := ({ dst := some 56, op := Go.Op.load 24 (Go.Operand.tmp 3), type := 24, pos := _, after := _, guard := none } : Oper)) (v := ?_) rfl (by kernel_rfl) (by kernel_rfl) (by kernel_rfl) (fun _ _ _ h => h) (Or.inl ⟨by rfl, ?_⟩) (by assumption) ?_
              rotate_left
              · (intro w hSw; (try dsimp only at hSw); go_simp; try with_reducible rfl)
              simp only [Act.put, List.setIfInBounds_toArray, List.set_cons_zero, List.set_cons_succ]
              refine wpAnyH_take (i := 1) (oi := ({ dst := some 57, op := Go.Op.load 24 (Go.Operand.tmp 3), type := 24, pos := _, after := _, guard := none } : Oper)) (v := ?_) rfl (by kernel_rfl) (by kernel_rfl) (by kernel_rfl) (fun _ _ _ h => h) (Or.inl ⟨by rfl, ?_⟩) (by assumption) ?_
              rotate_left
              · (intro w hSw; (try dsimp only at hSw); go_simp; try with_reducible rfl)
              simp only [Act.put, List.setIfInBounds_toArray, List.set_cons_zero, List.set_cons_succ]
              refine wpAnyH_take (i := 2) (oi := ({ dst := some 58, op := Go.Op.move (Go.Operand.tmp 2), type := 25, pos := _, after := _, guard := none } : Oper)) (v := ?_) rfl (by kernel_rfl) (by kernel_rfl) (by kernel_rfl) (fun _ _ _ h => h) (Or.inl ⟨by rfl, ?_⟩) (by assumption) ?_
              rotate_left
              · (intro w hSw; (try dsimp only at hSw); go_simp; try with_reducible rfl)
              simp only [Act.put, List.setIfInBounds_toArray, List.set_cons_zero, List.set_cons_succ]
              refine wpAnyH_take (i := 3) (oi := ({ dst := some 59, op := Go.Op.move (Go.Operand.tmp 10), type := 3, pos := _, after := _, guard := none } : Oper)) (v := ?_) rfl (by kernel_rfl) (by kernel_rfl) (by kernel_rfl) (fun _ _ _ h => h) (Or.inl ⟨by rfl, ?_⟩) (by assumption) ?_
              rotate_left
              · (intro w hSw; (try dsimp only at hSw); go_simp; try with_reducible rfl)
              simp only [Act.put, List.setIfInBounds_toArray, List.set_cons_zero, List.set_cons_succ]
              refine wpAnyH_take (i := 4) (oi := ({ dst := some 60, op := Go.Op.indexAddr 25 (Go.Operand.tmp 58) (Go.Operand.tmp 59), type := 0, pos := _, after := _, guard := none } : Oper)) (v := ?_) rfl (by kernel_rfl) (by kernel_rfl) (by kernel_rfl) (fun _ _ _ h => h) (Or.inl ⟨by rfl, ?_⟩) (by assumption) ?_
              rotate_left
              · (intro w hSw; (try dsimp only at hSw); go_simp; try with_reducible rfl)
              simp only [Act.put, List.setIfInBounds_toArray, List.set_cons_zero, List.set_cons_succ]
              refine wpAnyH_take (i := 5) (oi := ({ dst := some 61, op := Go.Op.load 22 (Go.Operand.tmp 60), type := 22, pos := _, after := _, guard := none } : Oper)) (v := ?_) rfl (by kernel_rfl) (by kernel_rfl) (by kernel_rfl) (fun _ _ _ h => h) (Or.inl ⟨by rfl, ?_⟩) (by assumption) ?_
              rotate_left
              · (intro w hSw; (try dsimp only at hSw); go_simp; try with_reducible rfl)
              simp only [Act.put, List.setIfInBounds_toArray, List.set_cons_zero, List.set_cons_succ]
              refine wpAnyH_ready (rs := [6, 7]) (by kernel_rfl) (by simp) (AllReadyH.cons (o := ({ dst := some 62, op := Go.Op.call { callee := Go.Callee.value (Go.Operand.func 12), args := #[Go.Operand.tmp 56, Go.Operand.tmp 57, Go.Operand.tmp 61], argTypes := #[24, 24, 22] }, type := 28, pos := _, after := _, guard := none } : Oper)) rfl (fun KK hK => ?_) (AllReadyH.cons (o := ({ dst := some 11, op := Go.Op.alloc 28, type := 0, pos := _, after := _, guard := none } : Oper)) rfl (fun KK hK => ?_) AllReadyH.nil))
              · go_simp
                refine (HC.out.hf _ k (bcat2 hPr.bel hBc) hlt).mono ?_
                rintro x12 U12 ⟨rfl, hl12⟩
                have hBc := bcat2 hBc hl12
                try go_wp2_with fail
                refine hK.out _ _ (hS12 _ hBc) (fun hHeld => ?_)
                clear hK
                try simp only [Act.put, List.setIfInBounds_toArray, List.set_cons_zero, List.set_cons_succ]
                refine wpAnyH_ready (rs := [7]) (by kernel_rfl) (by simp) (AllReadyH.cons (o := ({ dst := some 11, op := Go.Op.alloc 28, type := 0, pos := _, after := _, guard := none } : Oper)) rfl (fun KK hK => ?_) AllReadyH.nil)
                go_simp
                have hge := hBc.size
                have haV := balloc U12 (.cells #[.int .i64 0, .int .i64 0] 28)
                have hBc := bcat2 hBc haV
                have hV := blk0 (w := U12) (T := 28) (.int .i64 0) (.int .i64 0)
                refine hK.out _ _ (hS12 _ hBc) (fun hHeld => ?_)
                clear hK
                try simp only [Act.put, List.setIfInBounds_toArray, List.set_cons_zero, List.set_cons_succ]
                generalize U12.alloc (.cells #[.int .i64 0, .int .i64 0] 28) = WAv at *
                generalize U12.heap.size = vb at *
                refine wpAnyH_ready (rs := [8]) (by kernel_rfl) (by simp) (AllReadyH.cons (o := ({ dst := none, op := Go.Op.store 28 (Go.Operand.tmp 11) (Go.Operand.tmp 62), type := 0, pos := _, after := _, guard := none } : Oper)) rfl (fun KK hK => ?_) AllReadyH.nil)
                obtain ⟨z0, z1, z2, z3⟩ := hV.two
                go_simp
                have hBc := (hBc.setCell (p := ⟨vb, 0, none⟩) hge (.int .i64 (hc k))).setCell (p := ⟨vb, 1, none⟩) hge (.int .i64 (hi k))
                have hV : Blk _ vb 28 [.int .i64 (hc k), .int .i64 (hi k)] := (hV.set 0 (.int .i64 (hc k))).set 1 (.int .i64 (hi k))
                refine hK.out _ _ (hS12 _ hBc) (fun hHeld => ?_)
                clear hK
                try simp only [Act.put, List.setIfInBounds_toArray, List.set_cons_zero, List.set_cons_succ]
                clear z0 z1 z2 z3
                refine wpAnyH_done (by kernel_rfl) ?_ _
                go_wp2
                go_meet
                exact ⟨vb, rfl, hV, hBc⟩
              go_simp
              have hge := hBc.size
              have haV := balloc wd (.cells #[.int .i64 0, .int .i64 0] 28)
              have hBc := bcat2 hBc haV
              have hV := blk0 (w := wd) (T := 28) (.int .i64 0) (.int .i64 0)
              refine hK.out _ _ (hS12 _ hBc) (fun hHeld => ?_)
              clear hK
              try simp only [Act.put, List.setIfInBounds_toArray, List.set_cons_zero, List.set_cons_succ]
              generalize wd.alloc (.cells #[.int .i64 0, .int .i64 0] 28) = WAv at *
              generalize wd.heap.size = vb at *
              refine wpAnyH_ready (rs := [6]) (by kernel_rfl) (by simp) (AllReadyH.cons (o := ({ dst := some 62, op := Go.Op.call { callee := Go.Callee.value (Go.Operand.func 12), args := #[Go.Operand.tmp 56, Go.Operand.tmp 57, Go.Operand.tmp 61], argTypes := #[24, 24, 22] }, type := 28, pos := _, after := _, guard := none } : Oper)) rfl (fun KK hK => ?_) AllReadyH.nil)
              go_simp
              refine (HC.out.hf _ k (bcat2 hPr.bel hBc) hlt).mono ?_
              rintro x12 U12 ⟨rfl, hl12⟩
              have hBc := bcat2 hBc hl12
              have hV := blk_below hV hl12
              try go_wp2_with fail
              refine hK.out _ _ (hS12 _ hBc) (fun hHeld => ?_)
              clear hK
              try simp only [Act.put, List.setIfInBounds_toArray, List.set_cons_zero, List.set_cons_succ]
              refine wpAnyH_ready (rs := [8]) (by kernel_rfl) (by simp) (AllReadyH.cons (o := ({ dst := none, op := Go.Op.store 28 (Go.Operand.tmp 11) (Go.Operand.tmp 62), type := 0, pos := _, after := _, guard := none } : Oper)) rfl (fun KK hK => ?_) AllReadyH.nil)
              obtain ⟨z0, z1, z2, z3⟩ := hV.two
              go_simp
              have hBc := (hBc.setCell (p := ⟨vb, 0, none⟩) hge (.int .i64 (hc k))).setCell (p := ⟨vb, 1, none⟩) hge (.int .i64 (hi k))
              have hV : Blk _ vb 28 [.int .i64 (hc k), .int .i64 (hi k)] := (hV.set 0 (.int .i64 (hc k))).set 1 (.int .i64 (hi k))
              refine hK.out _ _ (hS12 _ hBc) (fun hHeld => ?_)
              clear hK
              try simp only [Act.put, List.setIfInBounds_toArray, List.set_cons_zero, List.set_cons_succ]
              clear z0 z1 z2 z3
              refine wpAnyH_done (by kernel_rfl) ?_ _
              go_wp2
              go_meet
              exact ⟨vb, rfl, hV, hBc⟩
            case rest =>
              obtain ⟨vb, rfl, hV, hbv⟩ := hcut
              have hPc := hPr.below hbv
              obtain ⟨v0, v1', _, _⟩ := hV.two
              obtain ⟨x0, x1, _, _⟩ := hPc.x.two
              have HOO := hide (fun W (h : Below wc.heap.size wc W) => HC.out.oo W k (bcat2 hPc.bel h) hlt HZ.out.1)
              rw [HZ.out.2] at HOO
              rw [HZ.out.1] at v0
              have hS15 : ∀ W, Below wc.heap.size wc W → (Below wc.heap.size wc W ∧ W.cell? ⟨w.heap.size, 0, none⟩ = some (.int .i64 n) ∧ W.cell? ⟨lb, lo + k, none⟩ = some (.slice (ea k) (el k) (ec k))) := fun W h => ⟨h, below_cell h x0, HC.out.cell W (bcat2 hPc.bel h) k hlt⟩
              have hS150 := hS15 _ (bdrew (Below.refl _ wc))
              go_wp2_with fail
              clear x0 x1 v0 v1'
              go_region_held3 (fun W => Below wc.heap.size wc W ∧ W.cell? ⟨w.heap.size, 0, none⟩ = some (.int .i64 n) ∧ W.cell? ⟨lb, lo + k, none⟩ = some (.slice (ea k) (el k) (ec k)))
                (first | exact hS150 | assumption | exact hS15 _ (bcat2 (And.left ‹_›) hl15))
                (first | (go_at_call 13; refine (HOO.out _ (And.left ‹_›)).mono ?_; rintro e15 U15 ⟨rfl, hl15⟩))
              obtain ⟨hB15, _⟩ := ‹Below wc.heap.size wc U15 ∧ _›
              clear hS15 hS150 hl15
              have hPd := hPc.below hB15
              go_wp2_with fail
              refine (f_any 10 k _).mono ?_
              rintro x7 w7 ⟨rfl, hb7⟩
              have hPe := hPd.below hb7
              obtain ⟨k0, k1, k2, k3⟩ := hPe.b.two
              have hPg := hPe.put 10 k
              go_wp2
              go_roundw
              case rel => exact ⟨k + 1, by go_num, .inr ⟨rfl, hPg⟩⟩
              case measure => simp [intOf]; omega
        · have hkl : k < j := by omega
          have HZ := hide (HFN.out k hkl)
          have hki : (k : Int) < (m : Int) := by omega
          obtain ⟨x0, x1, _, _⟩ := hPr.x.two
          obtain ⟨b0, b1', _, _⟩ := hPr.b.two
          have hS12 : ∀ W, Below wr.heap.size wr W → (Below wr.heap.size wr W ∧ W.cell? ⟨w.heap.size, 0, none⟩ = some (.int .i64 n) ∧ W.cell? ⟨w.heap.size, 1, none⟩ = some (.slice v1 v2 v3) ∧ W.cell? ⟨lb, lo + k, none⟩ = some (.slice (ea k) (el k) (ec k))) := fun W h => ⟨h, below_cell h x0, below_cell h x1, HC.out.cell W (bcat2 hPr.bel h) k hlt⟩
          have hBc : Below wr.heap.size wr wr.drew := bdrew (Below.refl _ _)
          have hS120 := hS12 _ hBc
          go_wp2_with fail
          clear x0 x1 b0 b1'
          go_cut [11] (fun s11 wx => ∃ vb, s11 = .pointer (some ⟨vb, 0, none⟩) ∧ Blk wx vb 28 [.int .i64 (hc k), .int .i64 (hi k)] ∧ Below wr.heap.size wr wx)
          case first =>
            refine wp_region_held_drew (S := fun W => Below wr.heap.size wr W ∧ W.cell? ⟨w.heap.size, 0, none⟩ = some (.int .i64 n) ∧ W.cell? ⟨w.heap.size, 1, none⟩ = some (.slice v1 v2 v3) ∧ W.cell? ⟨lb, lo + k, none⟩ = some (.slice (ea k) (el k) (ec k))) (by kernel_rfl) hS120 (fun hHeld => ?_)
            generalize wr.drew = wd at *
            refine wpAnyH_take (i := 0) (oi := ({ dst := some 56, op := Go.Op.load 24 (Go.Operand.tmp 3), type := 24, pos := _, after := _, guard := none } : Oper)) (v := ?_) rfl (by kernel_rfl) (by kernel_rfl) (by kernel_rfl) (fun _ _ _ h => h) (Or.inl ⟨by rfl, ?_⟩) (by assumption) ?_
            rotate_left
            · (intro w hSw; (try dsimp only at hSw); go_simp; try with_reducible rfl)
            simp only [Act.put, List.setIfInBounds_toArray, List.set_cons_zero, List.set_cons_succ]
            refine wpAnyH_take (i := 1) (oi := ({ dst := some 57, op := Go.Op.load 24 (Go.Operand.tmp 3), type := 24, pos := _, after := _, guard := none } : Oper)) (v := ?_) rfl (by kernel_rfl) (by kernel_rfl) (by kernel_rfl) (fun _ _ _ h => h) (Or.inl ⟨by rfl, ?_⟩) (by assumption) ?_
            rotate_left
            · (intro w hSw; (try dsimp only at hSw); go_simp; try with_reducible rfl)
            simp only [Act.put, List.setIfInBounds_toArray, List.set_cons_zero, List.set_cons_succ]
            refine wpAnyH_take (i := 2) (oi := ({ dst := some 58, op := Go.Op.move (Go.Operand.tmp 2), type := 25, pos := _, after := _, guard := none } : Oper)) (v := ?_) rfl (by kernel_rfl) (by kernel_rfl) (by kernel_rfl) (fun _ _ _ h => h) (Or.inl ⟨by rfl, ?_⟩) (by assumption) ?_
            rotate_left
            · (intro w hSw; (try dsimp only at hSw); go_simp; try with_reducible rfl)
            simp only [Act.put, List.setIfInBounds_toArray, List.set_cons_zero, List.set_cons_succ]
            refine wpAnyH_take (i := 3) (oi := ({ dst := some 59, op := Go.Op.move (Go.Operand.tmp 10), type := 3, pos := _, after := _, guard := none } : Oper)) (v := ?_) rfl (by kernel_rfl) (by kernel_rfl) (by kernel_rfl) (fun _ _ _ h => h) (Or.inl ⟨by rfl, ?_⟩) (by assumption) ?_
            rotate_left
            · (intro w hSw; (try dsimp only at hSw); go_simp; try with_reducible rfl)
            simp only [Act.put, List.setIfInBounds_toArray, List.set_cons_zero, List.set_cons_succ]
            refine wpAnyH_take (i := 4) (oi := ({ dst := some 60, op := Go.Op.indexAddr 25 (Go.Operand.tmp 58) (Go.Operand.tmp 59), type := 0, pos := _, after := _, guard := none } : Oper)) (v := ?_) rfl (by kernel_rfl) (by kernel_rfl) (by kernel_rfl) (fun _ _ _ h => h) (Or.inl ⟨by rfl, ?_⟩) (by assumption) ?_
            rotate_left
            · (intro w hSw; (try dsimp only at hSw); go_simp; try with_reducible rfl)
            simp only [Act.put, List.setIfInBounds_toArray, List.set_cons_zero, List.set_cons_succ]
            refine wpAnyH_take (i := 5) (oi := ({ dst := some 61, op := Go.Op.load 22 (Go.Operand.tmp 60), type := 22, pos := _, after := _, guard := none } : Oper)) (v := ?_) rfl (by kernel_rfl) (by kernel_rfl) (by kernel_rfl) (fun _ _ _ h => h) (Or.inl ⟨by rfl, ?_⟩) (by assumption) ?_
            rotate_left
            · (intro w hSw; (try dsimp only at hSw); go_simp; try with_reducible rfl)
            simp only [Act.put, List.setIfInBounds_toArray, List.set_cons_zero, List.set_cons_succ]
            refine wpAnyH_ready (rs := [6, 7]) (by kernel_rfl) (by simp) (AllReadyH.cons (o := ({ dst := some 62, op := Go.Op.call { callee := Go.Callee.value (Go.Operand.func 12), args := #[Go.Operand.tmp 56, Go.Operand.tmp 57, Go.Operand.tmp 61], argTypes := #[24, 24, 22] }, type := 28, pos := _, after := _, guard := none } : Oper)) rfl (fun KK hK => ?_) (AllReadyH.cons (o := ({ dst := some 11, op := Go.Op.alloc 28, type := 0, pos := _, after := _, guard := none } : Oper)) rfl (fun KK hK => ?_) AllReadyH.nil))
            · go_simp
              refine (HC.out.hf _ k (bcat2 hPr.bel hBc) hlt).mono ?_
              rintro x12 U12 ⟨rfl, hl12⟩
              have hBc := bcat2 hBc hl12
              try go_wp2_with fail
              refine hK.out _ _ (hS12 _ hBc) (fun hHeld => ?_)
              clear hK
              try simp only [Act.put, List.setIfInBounds_toArray, List.set_cons_zero, List.set_cons_succ]
              refine wpAnyH_ready (rs := [7]) (by kernel_rfl) (by simp) (AllReadyH.cons (o := ({ dst := some 11, op := Go.Op.alloc 28, type := 0, pos := _, after := _, guard := none } : Oper)) rfl (fun KK hK => ?_) AllReadyH.nil)
              go_simp
              have hge := hBc.size
              have haV := balloc U12 (.cells #[.int .i64 0, .int .i64 0] 28)
              have hBc := bcat2 hBc haV
              have hV := blk0 (w := U12) (T := 28) (.int .i64 0) (.int .i64 0)
              refine hK.out _ _ (hS12 _ hBc) (fun hHeld => ?_)
              clear hK
              try simp only [Act.put, List.setIfInBounds_toArray, List.set_cons_zero, List.set_cons_succ]
              generalize U12.alloc (.cells #[.int .i64 0, .int .i64 0] 28) = WAv at *
              generalize U12.heap.size = vb at *
              refine wpAnyH_ready (rs := [8]) (by kernel_rfl) (by simp) (AllReadyH.cons (o := ({ dst := none, op := Go.Op.store 28 (Go.Operand.tmp 11) (Go.Operand.tmp 62), type := 0, pos := _, after := _, guard := none } : Oper)) rfl (fun KK hK => ?_) AllReadyH.nil)
              obtain ⟨z0, z1, z2, z3⟩ := hV.two
              go_simp
              have hBc := (hBc.setCell (p := ⟨vb, 0, none⟩) hge (.int .i64 (hc k))).setCell (p := ⟨vb, 1, none⟩) hge (.int .i64 (hi k))
              have hV : Blk _ vb 28 [.int .i64 (hc k), .int .i64 (hi k)] := (hV.set 0 (.int .i64 (hc k))).set 1 (.int .i64 (hi k))
              refine hK.out _ _ (hS12 _ hBc) (fun hHeld => ?_)
              clear hK
              try simp only [Act.put, List.setIfInBounds_toArray, List.set_cons_zero, List.set_cons_succ]
              clear z0 z1 z2 z3
              refine wpAnyH_done (by kernel_rfl) ?_ _
              go_wp2
              go_meet
              exact ⟨vb, rfl, hV, hBc⟩
            go_simp
            have hge := hBc.size
            have haV := balloc wd (.cells #[.int .i64 0, .int .i64 0] 28)
            have hBc := bcat2 hBc haV
            have hV := blk0 (w := wd) (T := 28) (.int .i64 0) (.int .i64 0)
            refine hK.out _ _ (hS12 _ hBc) (fun hHeld => ?_)
            clear hK
            try simp only [Act.put, List.setIfInBounds_toArray, List.set_cons_zero, List.set_cons_succ]
            generalize wd.alloc (.cells #[.int .i64 0, .int .i64 0] 28) = WAv at *
            generalize wd.heap.size = vb at *
            refine wpAnyH_ready (rs := [6]) (by kernel_rfl) (by simp) (AllReadyH.cons (o := ({ dst := some 62, op := Go.Op.call { callee := Go.Callee.value (Go.Operand.func 12), args := #[Go.Operand.tmp 56, Go.Operand.tmp 57, Go.Operand.tmp 61], argTypes := #[24, 24, 22] }, type := 28, pos := _, after := _, guard := none } : Oper)) rfl (fun KK hK => ?_) AllReadyH.nil)
            go_simp
            refine (HC.out.hf _ k (bcat2 hPr.bel hBc) hlt).mono ?_
            rintro x12 U12 ⟨rfl, hl12⟩
            have hBc := bcat2 hBc hl12
            have hV := blk_below hV hl12
            try go_wp2_with fail
            refine hK.out _ _ (hS12 _ hBc) (fun hHeld => ?_)
            clear hK
            try simp only [Act.put, List.setIfInBounds_toArray, List.set_cons_zero, List.set_cons_succ]
            refine wpAnyH_ready (rs := [8]) (by kernel_rfl) (by simp) (AllReadyH.cons (o := ({ dst := none, op := Go.Op.store 28 (Go.Operand.tmp 11) (Go.Operand.tmp 62), type := 0, pos := _, after := _, guard := none } : Oper)) rfl (fun KK hK => ?_) AllReadyH.nil)
            obtain ⟨z0, z1, z2, z3⟩ := hV.two
            go_simp
            have hBc := (hBc.setCell (p := ⟨vb, 0, none⟩) hge (.int .i64 (hc k))).setCell (p := ⟨vb, 1, none⟩) hge (.int .i64 (hi k))
            have hV : Blk _ vb 28 [.int .i64 (hc k), .int .i64 (hi k)] := (hV.set 0 (.int .i64 (hc k))).set 1 (.int .i64 (hi k))
            refine hK.out _ _ (hS12 _ hBc) (fun hHeld => ?_)
            clear hK
            try simp only [Act.put, List.setIfInBounds_toArray, List.set_cons_zero, List.set_cons_succ]
            clear z0 z1 z2 z3
            refine wpAnyH_done (by kernel_rfl) ?_ _
            go_wp2
            go_meet
            exact ⟨vb, rfl, hV, hBc⟩
          case rest =>
            obtain ⟨vb, rfl, hV, hbv⟩ := hcut
            have hPc := hPr.below hbv
            obtain ⟨v0, v1', _, _⟩ := hV.two
            obtain ⟨x0, x1, _, _⟩ := hPc.x.two
            have HOO := hide (fun W (h : Below wc.heap.size wc W) => HC.out.oo W k (bcat2 hPc.bel h) hlt HZ.out.1)
            rw [HZ.out.2] at HOO
            rw [HZ.out.1] at v0
            have hS15 : ∀ W, Below wc.heap.size wc W → (Below wc.heap.size wc W ∧ W.cell? ⟨w.heap.size, 0, none⟩ = some (.int .i64 n) ∧ W.cell? ⟨lb, lo + k, none⟩ = some (.slice (ea k) (el k) (ec k))) := fun W h => ⟨h, below_cell h x0, HC.out.cell W (bcat2 hPc.bel h) k hlt⟩
            have hS150 := hS15 _ (bdrew (Below.refl _ wc))
            go_wp2_with fail
            clear x0 x1 v0 v1'
            go_region_held3 (fun W => Below wc.heap.size wc W ∧ W.cell? ⟨w.heap.size, 0, none⟩ = some (.int .i64 n) ∧ W.cell? ⟨lb, lo + k, none⟩ = some (.slice (ea k) (el k) (ec k)))
              (first | exact hS150 | assumption | exact hS15 _ (bcat2 (And.left ‹_›) hl15))
              (first | (go_at_call 13; refine (HOO.out _ (And.left ‹_›)).mono ?_; rintro e15 U15 ⟨rfl, hl15⟩))
            obtain ⟨hB15, _⟩ := ‹Below wc.heap.size wc U15 ∧ _›
            clear hS15 hS150 hl15
            have hPd := hPc.below hB15
            go_wp2
            go_roundw
            case rel => exact ⟨k + 1, by go_num, .inl ⟨by omega, hPd⟩⟩
            case measure => simp [intOf]; omega
      · have HPZ := hPr
        have HAJ := hide hkj
        clear hkj
        have hP := hPr
        obtain ⟨x0, x1, _, _⟩ := HPZ.x.two
        obtain ⟨y0, y1', _, _⟩ := HPZ.y.two
        obtain ⟨g0, g1, _, _⟩ := HPZ.g.two
        obtain ⟨f0, f1, _, _⟩ := HPZ.f.two
        obtain ⟨b0, b1', _, _⟩ := HPZ.b.two
        go_wp2_with fail
        all_goals (
          go_loopw [12] (fun iv wq => iv = .int .i64 0 ∧ wq = wr) (fun _ _ => 0)
          case atStart => exact ⟨rfl, rfl⟩
          case round =>
            obtain ⟨rfl, rfl⟩ := hrel
            go_wp2_with fail
            all_goals (
              refine (HNG.out _).mono ?_
              rintro x9 w9 ⟨rfl, hb9⟩
              go_wp2
              go_ret
              exact ⟨rfl, bcat2 hP.bel hb9⟩))
end Go.Proofs.YtanbpjfdfnmjpaaDoor

namespace Go.Proofs.YtanbpjfdfnmjpaaDoor
open Go Go.RowKit

set_option maxRecDepth 100000 in
set_option maxHeartbeats 16000000 in
theorem psem_c2 (N M : Int) (v1 : Option Addr) (v2 v3 : Nat) (y1 : Option Addr) (y2 y3 : Nat) (l1 : Option Addr) (LL l3 : Nat) (tc ti sc si GN : Int) (GD : Bool) (w : World) (hLL : LL ≤ 100) (n m lb lo : Nat) (ea : Nat → Option Addr) (el ec : Nat → Nat) (hc hi : Nat → Int) (ob : Nat → Bool) (st : Nat → Nat → Bool) (TM : Nat → Nat → Nat) (TP : World → Nat → Nat → Value → Prop)
    (AP HP LP : World → Value → Prop) (RP : World → Nat → Value → Prop)
    (HAU : Hid (∀ W W' u, AP W u → Below W.heap.size W W' → AP W' u)) (HHU : Hid (∀ W W' u, HP W u → Below W.heap.size W W' → HP W' u)) (HLU : Hid (∀ W W' u, LP W u → Below W.heap.size W W' → LP W' u))
    (HRB : Hid (∀ W W' pb u, RP W pb u → Below W.heap.size W W' → RP W' pb u)) (HRS : Hid (∀ W pb u b k x, RP W pb u → (GD = true → pb ≠ b) → RP (W.setCell ⟨b, k, none⟩ x) pb u)) (HRL : Hid (∀ W pb u, RP W pb u → GD = true → pb < W.heap.size))
    (HBE : Hid (∀ W, Below w.heap.size w W → Calls Tryd.prog 6 #[] W fun x W' => x = .returned (.bool true) ∧ Below W.heap.size W W'))
    (HO1 : Hid (∀ W, Below w.heap.size w W → Calls Tryd.prog 8 #[.agg #[.int .i64 N, .slice v1 v2 v3]] W fun x W' => ∃ u1 u2 u3, x = .returned (.agg #[.int .i64 N, .slice u1 u2 u3]) ∧ AP W' (.slice u1 u2 u3) ∧ Below W.heap.size W W'))
    (HO2 : Hid (∀ W, Below w.heap.size w W → Calls Tryd.prog 8 #[.agg #[.int .i64 M, .slice y1 y2 y3]] W fun x W' => ∃ u1 u2 u3, x = .returned (.agg #[.int .i64 M, .slice u1 u2 u3]) ∧ HP W' (.slice u1 u2 u3) ∧ Below W.heap.size W W'))
    (HOL : Hid (∀ W, Below w.heap.size w W → Calls Tryd.prog 9 #[.slice l1 LL l3] W fun x W' => ∃ u1 u2 u3, x = .returned (.slice u1 u2 u3) ∧ LP W' (.slice u1 u2 u3) ∧ Below W.heap.size W W'))
    (HSE : Hid (∀ W a b l, Below w.heap.size w W → AP W a → HP W b → LP W l → Calls Tryd.prog 7 #[.agg #[.int .i64 N, a], .agg #[.int .i64 M, b], l] W fun x W' => ∃ r1 r2 r3 pb, x = .returned (.tuple #[.agg #[.int .i64 GN, .slice r1 r2 r3], .agg #[.int .i64 sc, .int .i64 si]]) ∧ RP W' pb (.slice r1 r2 r3) ∧ (GD = true → W.heap.size ≤ pb) ∧ Below W.heap.size W W'))
    (HTW : Hid (∀ W, Below w.heap.size w W → Calls Tryd.prog 10 #[.agg #[.int .i64 N, .slice v1 v2 v3], .agg #[.int .i64 M, .slice y1 y2 y3]] W fun x W' => x = .returned (.agg #[.int .i64 tc, .int .i64 ti]) ∧ Below W.heap.size W W'))
    (HNG : Hid (∀ W, Calls Tryd.prog 17 #[.agg #[.int .i64 0, .slice none 0 0]] W fun x W' => x = .returned (.bool true) ∧ Below W.heap.size W W'))
    (HW : (tc = 0 ∧ ti = 0 ∧ N = ((n : Nat) : Int) ∧ M = ((m : Nat) : Int) ∧ m = LL ∧ l1 = some ⟨lb, lo, none⟩ ∧ Hid (CPrem w n m (.slice v1 v2 v3) (.slice y1 y2 y3) lb lo ea el ec hc hi ob st TM TP) ∧ 1 ≤ m ∧ m ≤ 60 ∧ n ≤ 60 ∧ GN = 0 ∧ (∀ W pb r1 r2 r3, RP W pb (.slice r1 r2 r3) → r1 = none ∧ r2 = 0 ∧ r3 = 0) ∧ Hid (∀ t, t < m → hc t = 0 ∧ ob t = true) ∧ ∃ j : Nat, j < m ∧ Hid (∀ t b, t < j → b < m → st t b = false) ∧ Hid (∃ b, b < m ∧ st j b = true) ∧ sc = 7 ∧ si = ((j : Nat) : Int))) :
    Calls Tryd.prog 3 #[.agg #[.int .i64 N, .slice v1 v2 v3], .agg #[.int .i64 M, .slice y1 y2 y3], .slice l1 LL l3] w fun x w' => x = .returned (.bool true) ∧ Below w.heap.size w w' := by
  replace HW := hide HW
  have hL1 : ¬ (LL : Int) > 100 := by omega
  have hL2 : decide ((LL : Int) > 100) = false := decide_eq_false hL1
  have hL3 : ¬ (100 : Int) < (LL : Int) := by omega
  obtain ⟨w0, hw0⟩ : ∃ w0, w0 = (w.alloc (.cells #[.int .i64 N, .slice v1 v2 v3] 24)).alloc (.cells #[.int .i64 M, .slice y1 y2 y3] 24) := ⟨_, rfl⟩
  have hB0 : Below w.heap.size w w0 := by rw [hw0]; exact (balloc w _).alloc (by simp) _
  have hX0 : Blk w0 w.heap.size 24 [.int .i64 N, .slice v1 v2 v3] := by rw [hw0]; exact (blk0 _ _).alloc _
  have hY0 : Blk w0 (w.heap.size + 1) 24 [.int .i64 M, .slice y1 y2 y3] := by
    rw [hw0]
    have := blk0 (w := w.alloc (.cells #[.int .i64 N, .slice v1 v2 v3] 24)) (T := 24) (.int .i64 M) (.slice y1 y2 y3)
    rwa [World.size_alloc] at this
  go_enter Tryd.func3, Tryd.ntmps3
  go_wp2_with fail
  rw [← hw0]
  clear hw0
  refine (HBE.out _ hB0).mono ?_
  rintro x1 w1 ⟨rfl, hb1⟩
  have hB1 := bcat2 hB0 hb1
  have hX1 := blk_below hX0 hb1
  have hY1 := blk_below hY0 hb1
  clear hX0 hY0 hb1 hB0
  obtain ⟨c0, c1, _, _⟩ := hX1.two
  obtain ⟨d0, d1, _, _⟩ := hY1.two
  go_wp2_with fail
  clear c0 c1 d0 d1
  go_cut [7, 8] (fun s7 s8 wx => ∃ gb fb r1 r2 r3 pb, s7 = .pointer (some ⟨gb, 0, none⟩) ∧ s8 = .pointer (some ⟨fb, 0, none⟩) ∧ Blk wx gb 24 [.int .i64 GN, .slice r1 r2 r3] ∧ Blk wx fb 28 [.int .i64 sc, .int .i64 si] ∧ RP wx pb (.slice r1 r2 r3) ∧ Below w1.heap.size w1 wx)
  case first =>
    clear HBE HTW HNG HW
    refine psem_r5 N M v1 v2 v3 y1 y2 y3 l1 LL l3 sc si GN GD w w1 hB1 hX1 hY1 AP HP LP RP HAU HHU HLU HRB HRS HRL HO1 HO2 HOL HSE _ _ (hide fun _ _ d _ _ h => by cases d <;> exact h) (hide fun gb fb pb r1 r2 r3 a1 a2 a3 b1 b2 b3 k1 k2 k3 W hG hF hR hBc => ?_)
    go_wp2
    go_meet
    exact ⟨gb, fb, r1, r2, r3, pb, rfl, rfl, hG, hF, hR, hBc⟩
  case rest =>
    obtain ⟨gb, fb, r1, r2, r3, pb, rfl, rfl, hGx, hFx, hRx, hbx⟩ := hcut
    have hBx := bcat2 hB1 hbx
    have hXx := blk_below hX1 hbx
    have hYx := blk_below hY1 hbx
    clear HBE HO1 HO2 HOL HSE hX1 hY1 hB1
    replace HW := HW.out
    obtain ⟨rfl, rfl, rfl, rfl, rfl, rfl, HC, hm1, hm60, hn60, rfl, hnil, HFN, j, hj, HLS, HEX, rfl, rfl⟩ := HW
    obtain ⟨rfl, rfl, rfl⟩ := hnil _ _ _ _ _ hRx
    clear hnil
    have hmm : (((m : Nat) : Int) != ((m : Nat) : Int)) = false := by simp
    obtain ⟨x0, x1, _, _⟩ := hXx.two
    obtain ⟨y0, y1', _, _⟩ := hYx.two
    go_wp2_with fail
    clear x0 x1 y0 y1'
    refine (HTW.out _ hBx).mono ?_
    rintro x6 w6 ⟨rfl, hb6⟩
    obtain ⟨wz, hwz⟩ : ∃ wz, wz = w6.alloc (.cells #[.int .i64 0, .int .i64 0] 28) := ⟨_, rfl⟩
    have hbz : Below wc.heap.size wc wz := by rw [hwz]; exact bcat2 hb6 (balloc w6 _)
    have hP : PSt w wz w6.heap.size gb fb n m (.slice v1 v2 v3) (.slice y1 y2 y3) (0) (.slice none 0 0) 7 j 0 0 := ⟨blk_below hXx hbz, blk_below hYx hbz, blk_below hGx hbz, blk_below hFx hbz, by rw [hwz]; exact blk0 _ _, bcat2 hBx hbz, Nat.lt_of_lt_of_le hYx.lt hb6.size, Nat.lt_of_lt_of_le hGx.lt hb6.size, Nat.lt_of_lt_of_le hFx.lt hb6.size⟩
    have hRz := HRB.out _ _ _ _ hRx hbz
    obtain ⟨x0, x1, _, _⟩ := hP.x.two
    obtain ⟨y0, y1', _, _⟩ := hP.y.two
    obtain ⟨g0, g1, _, _⟩ := hP.g.two
    obtain ⟨f0, f1, _, _⟩ := hP.f.two
    obtain ⟨b0, b1', _, _⟩ := hP.b.two
    rw [hwz] at x0 x1 y0 y1' g0 g1 f0 f1 b0 b1'
    go_wp2_with fail
    rw [← hwz]
    clear hwz x0 x1 y0 y1' g0 g1 f0 f1 b0 b1' hmm hXx hYx hGx hFx hbz hb6
    generalize w6.heap.size = wb at *
    go_loopw [10] (fun iv wr => ∃ k : Nat, k ≤ m ∧ iv = .int .i64 k ∧ PSt w wr wb gb fb n m (.slice v1 v2 v3) (.slice y1 y2 y3) (0) (.slice none 0 0) (7) (j) (0) (0)) (fun iv _ => m - (intOf iv).toNat)
    case atStart => exact ⟨0, Nat.zero_le _, rfl, hP⟩
    case round =>
      obtain ⟨k, hk, rfl, hPr⟩ := hrel
      by_cases hlt : k < m
      · have HZ := hide (HFN.out k hlt)
        have hki : (k : Int) < (m : Int) := by omega
        obtain ⟨x0, x1, _, _⟩ := hPr.x.two
        obtain ⟨b0, b1', _, _⟩ := hPr.b.two
        have hS12 : ∀ W, Below wr.heap.size wr W → (Below wr.heap.size wr W ∧ W.cell? ⟨w.heap.size, 0, none⟩ = some (.int .i64 n) ∧ W.cell? ⟨w.heap.size, 1, none⟩ = some (.slice v1 v2 v3) ∧ W.cell? ⟨lb, lo + k, none⟩ = some (.slice (ea k) (el k) (ec k))) := fun W h => ⟨h, below_cell h x0, below_cell h x1, HC.out.cell W (bcat2 hPr.bel h) k hlt⟩
        have hBc : Below wr.heap.size wr wr.drew := bdrew (Below.refl _ _)
        have hS120 := hS12 _ hBc
        go_wp2_with fail
        clear x0 x1 b0 b1'
        go_cut [11] (fun s11 wx => ∃ vb, s11 = .pointer (some ⟨vb, 0, none⟩) ∧ Blk wx vb 28 [.int .i64 (hc k), .int .i64 (hi k)] ∧ Below wr.heap.size wr wx)
        case first =>
          refine wp_region_held_drew (S := fun W => Below wr.heap.size wr W ∧ W.cell? ⟨w.heap.size, 0, none⟩ = some (.int .i64 n) ∧ W.cell? ⟨w.heap.size, 1, none⟩ = some (.slice v1 v2 v3) ∧ W.cell? ⟨lb, lo + k, none⟩ = some (.slice (ea k) (el k) (ec k))) (by kernel_rfl) hS120 (fun hHeld => ?_)
          generalize wr.drew = wd at *
          refine wpAnyH_take (i := 0) (oi := ({ dst := some 56, op := Go.Op.load 24 (Go.Operand.tmp 3), type := 24, pos := _, after := _, guard := none } : Oper)) (v := ?_) rfl (by kernel_rfl) (by kernel_rfl) (by kernel_rfl) (fun _ _ _ h => h) (Or.inl ⟨by rfl, ?_⟩) (by assumption) ?_
          rotate_left
          · (intro w hSw; (try dsimp only at hSw); go_simp; try with_reducible rfl)
          simp only [Act.put, List.setIfInBounds_toArray, List.set_cons_zero, List.set_cons_succ]
          refine wpAnyH_take (i := 1) (oi := ({ dst := some 57, op := Go.Op.load 24 (Go.Operand.tmp 3), type := 24, pos := _, after := _, guard := none } : Oper)) (v := ?_) rfl (by kernel_rfl) (by kernel_rfl) (by kernel_rfl) (fun _ _ _ h => h) (Or.inl ⟨by rfl, ?_⟩) (by assumption) ?_
          rotate_left
          · (intro w hSw; (try dsimp only at hSw); go_simp; try with_reducible rfl)
          simp only [Act.put, List.setIfInBounds_toArray, List.set_cons_zero, List.set_cons_succ]
          refine wpAnyH_take (i := 2) (oi := ({ dst := some 58, op := Go.Op.move (Go.Operand.tmp 2), type := 25, pos := _, after := _, guard := none } : Oper)) (v := ?_) rfl (by kernel_rfl) (by kernel_rfl) (by kernel_rfl) (fun _ _ _ h => h) (Or.inl ⟨by rfl, ?_⟩) (by assumption) ?_
          rotate_left
          · (intro w hSw; (try dsimp only at hSw); go_simp; try with_reducible rfl)
          simp only [Act.put, List.setIfInBounds_toArray, List.set_cons_zero, List.set_cons_succ]
          refine wpAnyH_take (i := 3) (oi := ({ dst := some 59, op := Go.Op.move (Go.Operand.tmp 10), type := 3, pos := _, after := _, guard := none } : Oper)) (v := ?_) rfl (by kernel_rfl) (by kernel_rfl) (by kernel_rfl) (fun _ _ _ h => h) (Or.inl ⟨by rfl, ?_⟩) (by assumption) ?_
          rotate_left
          · (intro w hSw; (try dsimp only at hSw); go_simp; try with_reducible rfl)
          simp only [Act.put, List.setIfInBounds_toArray, List.set_cons_zero, List.set_cons_succ]
          refine wpAnyH_take (i := 4) (oi := ({ dst := some 60, op := Go.Op.indexAddr 25 (Go.Operand.tmp 58) (Go.Operand.tmp 59), type := 0, pos := _, after := _, guard := none } : Oper)) (v := ?_) rfl (by kernel_rfl) (by kernel_rfl) (by kernel_rfl) (fun _ _ _ h => h) (Or.inl ⟨by rfl, ?_⟩) (by assumption) ?_
          rotate_left
          · (intro w hSw; (try dsimp only at hSw); go_simp; try with_reducible rfl)
          simp only [Act.put, List.setIfInBounds_toArray, List.set_cons_zero, List.set_cons_succ]
          refine wpAnyH_take (i := 5) (oi := ({ dst := some 61, op := Go.Op.load 22 (Go.Operand.tmp 60), type := 22, pos := _, after := _, guard := none } : Oper)) (v := ?_) rfl (by kernel_rfl) (by kernel_rfl) (by kernel_rfl) (fun _ _ _ h => h) (Or.inl ⟨by rfl, ?_⟩) (by assumption) ?_
          rotate_left
          · (intro w hSw; (try dsimp only at hSw); go_simp; try with_reducible rfl)
          simp only [Act.put, List.setIfInBounds_toArray, List.set_cons_zero, List.set_cons_succ]
          refine wpAnyH_ready (rs := [6, 7]) (by kernel_rfl) (by simp) (AllReadyH.cons (o := ({ dst := some 62, op := Go.Op.call { callee := Go.Callee.value (Go.Operand.func 12), args := #[Go.Operand.tmp 56, Go.Operand.tmp 57, Go.Operand.tmp 61], argTypes := #[24, 24, 22] }, type := 28, pos := _, after := _, guard := none } : Oper)) rfl (fun KK hK => ?_) (AllReadyH.cons (o := ({ dst := some 11, op := Go.Op.alloc 28, type := 0, pos := _, after := _, guard := none } : Oper)) rfl (fun KK hK => ?_) AllReadyH.nil))
          · go_simp
            refine (HC.out.hf _ k (bcat2 hPr.bel hBc) hlt).mono ?_
            rintro x12 U12 ⟨rfl, hl12⟩
            have hBc := bcat2 hBc hl12
            try go_wp2_with fail
            refine hK.out _ _ (hS12 _ hBc) (fun hHeld => ?_)
            clear hK
            try simp only [Act.put, List.setIfInBounds_toArray, List.set_cons_zero, List.set_cons_succ]
            refine wpAnyH_ready (rs := [7]) (by kernel_rfl) (by simp) (AllReadyH.cons (o := ({ dst := some 11, op := Go.Op.alloc 28, type := 0, pos := _, after := _, guard := none } : Oper)) rfl (fun KK hK => ?_) AllReadyH.nil)
            go_simp
            have hge := hBc.size
            have haV := balloc U12 (.cells #[.int .i64 0, .int .i64 0] 28)
            have hBc := bcat2 hBc haV
            have hV := blk0 (w := U12) (T := 28) (.int .i64 0) (.int .i64 0)
            refine hK.out _ _ (hS12 _ hBc) (fun hHeld => ?_)
            clear hK
            try simp only [Act.put, List.setIfInBounds_toArray, List.set_cons_zero, List.set_cons_succ]
            generalize U12.alloc (.cells #[.int .i64 0, .int .i64 0] 28) = WAv at *
            generalize U12.heap.size = vb at *
            refine wpAnyH_ready (rs := [8]) (by kernel_rfl) (by simp) (AllReadyH.cons (o := ({ dst := none, op := Go.Op.store 28 (Go.Operand.tmp 11) (Go.Operand.tmp 62), type := 0, pos := _, after := _, guard := none } : Oper)) rfl (fun KK hK => ?_) AllReadyH.nil)
            obtain ⟨z0, z1, z2, z3⟩ := hV.two
            go_simp
            have hBc := (hBc.setCell (p := ⟨vb, 0, none⟩) hge (.int .i64 (hc k))).setCell (p := ⟨vb, 1, none⟩) hge (.int .i64 (hi k))
            have hV : Blk _ vb 28 [.int .i64 (hc k), .int .i64 (hi k)] := (hV.set 0 (.int .i64 (hc k))).set 1 (.int .i64 (hi k))
            refine hK.out _ _ (hS12 _ hBc) (fun hHeld => ?_)
            clear hK
            try simp only [Act.put, List.setIfInBounds_toArray, List.set_cons_zero, List.set_cons_succ]
            clear z0 z1 z2 z3
            refine wpAnyH_done (by kernel_rfl) ?_ _
            go_wp2
            go_meet
            exact ⟨vb, rfl, hV, hBc⟩
          go_simp
          have hge := hBc.size
          have haV := balloc wd (.cells #[.int .i64 0, .int .i64 0] 28)
          have hBc := bcat2 hBc haV
          have hV := blk0 (w := wd) (T := 28) (.int .i64 0) (.int .i64 0)
          refine hK.out _ _ (hS12 _ hBc) (fun hHeld => ?_)
          clear hK
          try simp only [Act.put, List.setIfInBounds_toArray, List.set_cons_zero, List.set_cons_succ]
          generalize wd.alloc (.cells #[.int .i64 0, .int .i64 0] 28) = WAv at *
          generalize wd.heap.size = vb at *
          refine wpAnyH_ready (rs := [6]) (by kernel_rfl) (by simp) (AllReadyH.cons (o := ({ dst := some 62, op := Go.Op.call { callee := Go.Callee.value (Go.Operand.func 12), args := #[Go.Operand.tmp 56, Go.Operand.tmp 57, Go.Operand.tmp 61], argTypes := #[24, 24, 22] }, type := 28, pos := _, after := _, guard := none } : Oper)) rfl (fun KK hK => ?_) AllReadyH.nil)
          go_simp
          refine (HC.out.hf _ k (bcat2 hPr.bel hBc) hlt).mono ?_
          rintro x12 U12 ⟨rfl, hl12⟩
          have hBc := bcat2 hBc hl12
          have hV := blk_below hV hl12
          try go_wp2_with fail
          refine hK.out _ _ (hS12 _ hBc) (fun hHeld => ?_)
          clear hK
          try simp only [Act.put, List.setIfInBounds_toArray, List.set_cons_zero, List.set_cons_succ]
          refine wpAnyH_ready (rs := [8]) (by kernel_rfl) (by simp) (AllReadyH.cons (o := ({ dst := none, op := Go.Op.store 28 (Go.Operand.tmp 11) (Go.Operand.tmp 62), type := 0, pos := _, after := _, guard := none } : Oper)) rfl (fun KK hK => ?_) AllReadyH.nil)
          obtain ⟨z0, z1, z2, z3⟩ := hV.two
          go_simp
          have hBc := (hBc.setCell (p := ⟨vb, 0, none⟩) hge (.int .i64 (hc k))).setCell (p := ⟨vb, 1, none⟩) hge (.int .i64 (hi k))
          have hV : Blk _ vb 28 [.int .i64 (hc k), .int .i64 (hi k)] := (hV.set 0 (.int .i64 (hc k))).set 1 (.int .i64 (hi k))
          refine hK.out _ _ (hS12 _ hBc) (fun hHeld => ?_)
          clear hK
          try simp only [Act.put, List.setIfInBounds_toArray, List.set_cons_zero, List.set_cons_succ]
          clear z0 z1 z2 z3
          refine wpAnyH_done (by kernel_rfl) ?_ _
          go_wp2
          go_meet
          exact ⟨vb, rfl, hV, hBc⟩
        case rest =>
          obtain ⟨vb, rfl, hV, hbv⟩ := hcut
          have hPc := hPr.below hbv
          obtain ⟨v0, v1', _, _⟩ := hV.two
          obtain ⟨x0, x1, _, _⟩ := hPc.x.two
          have HOO := hide (fun W (h : Below wc.heap.size wc W) => HC.out.oo W k (bcat2 hPc.bel h) hlt HZ.out.1)
          rw [HZ.out.2] at HOO
          rw [HZ.out.1] at v0
          have hS15 : ∀ W, Below wc.heap.size wc W → (Below wc.heap.size wc W ∧ W.cell? ⟨w.heap.size, 0, none⟩ = some (.int .i64 n) ∧ W.cell? ⟨lb, lo + k, none⟩ = some (.slice (ea k) (el k) (ec k))) := fun W h => ⟨h, below_cell h x0, HC.out.cell W (bcat2 hPc.bel h) k hlt⟩
          have hS150 := hS15 _ (bdrew (Below.refl _ wc))
          go_wp2_with fail
          clear x0 x1 v0 v1'
          go_region_held3 (fun W => Below wc.heap.size wc W ∧ W.cell? ⟨w.heap.size, 0, none⟩ = some (.int .i64 n) ∧ W.cell? ⟨lb, lo + k, none⟩ = some (.slice (ea k) (el k) (ec k)))
            (first | exact hS150 | assumption | exact hS15 _ (bcat2 (And.left ‹_›) hl15))
            (first | (go_at_call 13; refine (HOO.out _ (And.left ‹_›)).mono ?_; rintro e15 U15 ⟨rfl, hl15⟩))
          obtain ⟨hB15, _⟩ := ‹Below wc.heap.size wc U15 ∧ _›
          clear hS15 hS150 hl15
          have hPd := hPc.below hB15

          go_wp2
          go_roundw
          case rel => exact ⟨k + 1, by omega, by go_num, hPd⟩
          case measure => simp [intOf]; omega
      · have hki : ¬ (k : Int) < (m : Int) := by omega
        obtain ⟨b0, b1', _, _⟩ := hPr.b.two
        obtain ⟨x0, x1, _, _⟩ := hPr.x.two
        obtain ⟨y0, y1', _, _⟩ := hPr.y.two
        obtain ⟨g0, g1, _, _⟩ := hPr.g.two
        obtain ⟨f0, f1, _, _⟩ := hPr.f.two
        go_wp2_with fail
        clear x0 x1 y0 y1' g0 g1 f0 f1 b0 b1' hki
        go_loopw [12] (fun iv wr => ∃ k : Nat, iv = .int .i64 k ∧ ((k ≤ j ∧ PSt w wr wb gb fb n m (.slice v1 v2 v3) (.slice y1 y2 y3) (0) (.slice none 0 0) (7) (j) (0) (0)) ∨ (k = j + 1 ∧ PSt w wr wb gb fb n m (.slice v1 v2 v3) (.slice y1 y2 y3) (0) (.slice none 0 0) (7) (j) (7) (j)))) (fun iv _ => m - (intOf iv).toNat)
        case atStart => exact ⟨0, rfl, .inl ⟨Nat.zero_le _, hPr⟩⟩
        case round =>
          obtain ⟨a, rfl, ⟨haj, hPa⟩ | ⟨haj, hPa⟩⟩ := hrel
          · have hla : a < m := by omega
            have hai : (a : Int) < (m : Int) := by omega
            obtain ⟨b0, b1', _, _⟩ := hPa.b.two
            obtain ⟨y0, y1', _, _⟩ := hPa.y.two
            go_wp2_with fail
            clear b0 b1' y0 y1' hai
            go_loopw [13] (fun iv wr => ∃ b : Nat, b ≤ m ∧ iv = .int .i64 b ∧ ((Hid (∀ t, t < b → st a t = false) ∧ PSt w wr wb gb fb n m (.slice v1 v2 v3) (.slice y1 y2 y3) (0) (.slice none 0 0) (7) (j) (0) (0)) ∨ (a = j ∧ PSt w wr wb gb fb n m (.slice v1 v2 v3) (.slice y1 y2 y3) (0) (.slice none 0 0) (7) (j) (7) (j)))) (fun iv _ => m - (intOf iv).toNat)
            case atStart => exact ⟨0, Nat.zero_le _, rfl, .inl ⟨hide fun t ht => by omega, hPa⟩⟩
            case round =>
              obtain ⟨b, hkb, rfl, ⟨HNO, hPb⟩ | ⟨haj2, hPb⟩⟩ := hrel
              · by_cases hlb : b < m
                · cases hst : st a b with
                  | false =>
                    have HST := hide hst
                    clear hst
                    have HIL := hide (fun W u (h : Below w.heap.size w W) (hu : TP W a b u) => HC.out.il W a b u h hla hlb hu)
                    rw [HST.out] at HIL
                    have HTH := hide (fun W (h : Below w.heap.size w W) => HC.out.th HFN.out W a b h hla hlb)
                    have HTT := hide (fun W (h : Below w.heap.size w W) => HC.out.tm W a b h hla hlb)
                    have htl := HC.out.tl a b hla hlb
                    have hai : (a : Int) < (m : Int) := by omega
                    have hbi : (b : Int) < (m : Int) := by omega
                    have hti : ((TM a b : Nat) : Int) < (m : Int) := by omega
                    obtain ⟨b0, b1', _, _⟩ := hPb.b.two
                    obtain ⟨y0, y1', _, _⟩ := hPb.y.two
                    have hS23 : ∀ W, Below wr.heap.size wr W → (Below wr.heap.size wr W ∧ W.cell? ⟨w.heap.size + 1, 0, none⟩ = some (.int .i64 m) ∧ W.cell? ⟨w.heap.size + 1, 1, none⟩ = some (.slice y1 y2 y3) ∧ W.cell? ⟨lb, lo + a, none⟩ = some (.slice (ea a) (el a) (ec a)) ∧ W.cell? ⟨lb, lo + b, none⟩ = some (.slice (ea b) (el b) (ec b)) ∧ W.cell? ⟨lb, lo + TM a b, none⟩ = some (.slice (ea (TM a b)) (el (TM a b)) (ec (TM a b)))) := fun W h => ⟨h, below_cell h y0, below_cell h y1', HC.out.cell W (bcat2 hPb.bel h) a hla, HC.out.cell W (bcat2 hPb.bel h) b hlb, HC.out.cell W (bcat2 hPb.bel h) _ htl⟩
                    have hS230 := hS23 _ (bdrew (Below.refl _ wr))
                    go_wp2_with fail
                    clear b0 b1' y0 y1'
                    go_region_held3 (fun W => Below wr.heap.size wr W ∧ W.cell? ⟨w.heap.size + 1, 0, none⟩ = some (.int .i64 m) ∧ W.cell? ⟨w.heap.size + 1, 1, none⟩ = some (.slice y1 y2 y3) ∧ W.cell? ⟨lb, lo + a, none⟩ = some (.slice (ea a) (el a) (ec a)) ∧ W.cell? ⟨lb, lo + b, none⟩ = some (.slice (ea b) (el b) (ec b)) ∧ W.cell? ⟨lb, lo + TM a b, none⟩ = some (.slice (ea (TM a b)) (el (TM a b)) (ec (TM a b))))
                      (first | exact hS230 | assumption | exact hS23 _ (bcat2 (And.left ‹_›) hl25) | exact hS23 _ (bcat2 (And.left ‹_›) hl24) | exact hS23 _ (bcat2 (And.left ‹_›) hl23))
                      (first
                        | (go_at_call 15; refine (HTT.out _ (bcat2 hPb.bel (And.left ‹_›))).mono ?_; rintro e23 U23 ⟨rfl, hl23⟩)
                        | (go_at_call 16; refine (HTH.out _ (bcat2 hPb.bel (And.left ‹_›))).mono ?_; rintro e24 U24 ⟨t1, t2, t3, rfl, hTP24, hl24⟩)
                        | (go_at_call 14; refine (HIL.out _ _ (bcat2 hPb.bel (And.left ‹_›)) hTP24).mono ?_; rintro e25 U25 ⟨rfl, hl25⟩))
                    obtain ⟨hB25, _⟩ := ‹Below wr.heap.size wr U25 ∧ _›
                    clear hS23 hS230 hl25 hl24 hl23 hTP24 HIL HTH HTT
                    have hPd := hPb.below hB25
                    go_wp2
                    go_roundw
                    case rel => exact ⟨b + 1, by omega, by go_num, .inl ⟨hide fun t ht => by
                      by_cases e9 : t = b
                      · rw [e9]; exact HST.out
                      · exact HNO.out t (by omega), hPd⟩⟩
                    case measure => simp [intOf]; omega
                  | true =>
                    have HST := hide hst
                    have haj3 : a = j := by
                      refine Classical.byContradiction fun h9 => ?_
                      have := HLS.out a b (by omega) hlb
                      rw [hst] at this
                      cases this
                    have HAJ := hide haj3
                    clear hst haj3
                    have HIL := hide (fun W u (h : Below w.heap.size w W) (hu : TP W a b u) => HC.out.il W a b u h hla hlb hu)
                    rw [HST.out] at HIL
                    have HTH := hide (fun W (h : Below w.heap.size w W) => HC.out.th HFN.out W a b h hla hlb)
                    have HTT := hide (fun W (h : Below w.heap.size w W) => HC.out.tm W a b h hla hlb)
                    have htl := HC.out.tl a b hla hlb
                    have hai : (a : Int) < (m : Int) := by omega
                    have hbi : (b : Int) < (m : Int) := by omega
                    have hti : ((TM a b : Nat) : Int) < (m : Int) := by omega
                    obtain ⟨b0, b1', _, _⟩ := hPb.b.two
                    obtain ⟨y0, y1', _, _⟩ := hPb.y.two
                    have hS23 : ∀ W, Below wr.heap.size wr W → (Below wr.heap.size wr W ∧ W.cell? ⟨w.heap.size + 1, 0, none⟩ = some (.int .i64 m) ∧ W.cell? ⟨w.heap.size + 1, 1, none⟩ = some (.slice y1 y2 y3) ∧ W.cell? ⟨lb, lo + a, none⟩ = some (.slice (ea a) (el a) (ec a)) ∧ W.cell? ⟨lb, lo + b, none⟩ = some (.slice (ea b) (el b) (ec b)) ∧ W.cell? ⟨lb, lo + TM a b, none⟩ = some (.slice (ea (TM a b)) (el (TM a b)) (ec (TM a b)))) := fun W h => ⟨h, below_cell h y0, below_cell h y1', HC.out.cell W (bcat2 hPb.bel h) a hla, HC.out.cell W (bcat2 hPb.bel h) b hlb, HC.out.cell W (bcat2 hPb.bel h) _ htl⟩
                    have hS230 := hS23 _ (bdrew (Below.refl _ wr))
                    go_wp2_with fail
                    clear b0 b1' y0 y1'
                    go_region_held3 (fun W => Below wr.heap.size wr W ∧ W.cell? ⟨w.heap.size + 1, 0, none⟩ = some (.int .i64 m) ∧ W.cell? ⟨w.heap.size + 1, 1, none⟩ = some (.slice y1 y2 y3) ∧ W.cell? ⟨lb, lo + a, none⟩ = some (.slice (ea a) (el a) (ec a)) ∧ W.cell? ⟨lb, lo + b, none⟩ = some (.slice (ea b) (el b) (ec b)) ∧ W.cell? ⟨lb, lo + TM a b, none⟩ = some (.slice (ea (TM a b)) (el (TM a b)) (ec (TM a b))))
                      (first | exact hS230 | assumption | exact hS23 _ (bcat2 (And.left ‹_›) hl25) | exact hS23 _ (bcat2 (And.left ‹_›) hl24) | exact hS23 _ (bcat2 (And.left ‹_›) hl23))
                      (first
                        | (go_at_call 15; refine (HTT.out _ (bcat2 hPb.bel (And.left ‹_›))).mono ?_; rintro e23 U23 ⟨rfl, hl23⟩)
                        | (go_at_call 16; refine (HTH.out _ (bcat2 hPb.bel (And.left ‹_›))).mono ?_; rintro e24 U24 ⟨t1, t2, t3, rfl, hTP24, hl24⟩)
                        | (go_at_call 14; refine (HIL.out _ _ (bcat2 hPb.bel (And.left ‹_›)) hTP24).mono ?_; rintro e25 U25 ⟨rfl, hl25⟩))
                    obtain ⟨hB25, _⟩ := ‹Below wr.heap.size wr U25 ∧ _›
                    clear hS23 hS230 hl25 hl24 hl23 hTP24 HIL HTH HTT
                    have hPd := hPb.below hB25
                    go_wp2_with fail
                    refine (f_any 7 a _).mono ?_
                    rintro x7 w7 ⟨rfl, hb7⟩
                    have hPe := hPd.below hb7
                    obtain ⟨k0, k1, k2, k3⟩ := hPe.b.two
                    have hPg := hPe.put 7 a
                    go_wp2
                    go_roundw
                    case rel => exact ⟨b + 1, by omega, by go_num, .inr ⟨HAJ.out, by rw [← HAJ.out]; rw [← HAJ.out] at hPg; exact hPg⟩⟩
                    case measure => simp [intOf]; omega
                · have hbi : ¬ (b : Int) < (m : Int) := by omega
                  have haj4 : a + 1 ≤ j := by
                    refine Classical.byContradiction fun h9 => ?_
                    obtain ⟨t, ht, hs9⟩ := HEX.out
                    have e9 : a = j := by omega
                    have := HNO.out t (by omega)
                    rw [e9, hs9] at this
                    cases this
                  obtain ⟨b0, b1', _, _⟩ := hPb.b.two
                  obtain ⟨y0, y1', _, _⟩ := hPb.y.two
                  go_wp2
                  go_roundw
                  case rel => exact ⟨a + 1, by go_num, .inl ⟨haj4, hPb⟩⟩
                  case measure => simp [intOf]; omega
              · have HAJ := hide haj2
                clear haj2
                obtain ⟨b0, b1', _, _⟩ := hPb.b.two
                obtain ⟨y0, y1', _, _⟩ := hPb.y.two
                go_wp2
                all_goals (
                  go_roundw
                  case rel => exact ⟨a + 1, by go_num, .inr ⟨by have := HAJ.out; omega, hPb⟩⟩
                  case measure => simp [intOf]; omega)
          · have HPZ := hPa
            have HAJ := hide haj
            clear haj
            obtain ⟨x0, x1, _, _⟩ := HPZ.x.two
            obtain ⟨y0, y1', _, _⟩ := HPZ.y.two
            obtain ⟨g0, g1, _, _⟩ := HPZ.g.two
            obtain ⟨f0, f1, _, _⟩ := HPZ.f.two
            obtain ⟨b0, b1', _, _⟩ := HPZ.b.two
            go_wp2_with fail
            all_goals (
              refine (HNG.out _).mono ?_
              rintro x9 w9 ⟨rfl, hb9⟩
              go_wp2
              go_ret
              exact ⟨rfl, bcat2 HPZ.bel hb9⟩)
end Go.Proofs.YtanbpjfdfnmjpaaDoor

namespace Go.Proofs.YtanbpjfdfnmjpaaDoor
open Go Go.RowKit

set_option maxRecDepth 100000 in
set_option maxHeartbeats 16000000 in
theorem psem_c3 (N M : Int) (v1 : Option Addr) (v2 v3 : Nat) (y1 : Option Addr) (y2 y3 : Nat) (l1 : Option Addr) (LL l3 : Nat) (tc ti sc si GN : Int) (GD : Bool) (w : World) (hLL : LL ≤ 100) (n m lb lo : Nat) (ea : Nat → Option Addr) (el ec : Nat → Nat) (hc hi : Nat → Int) (ob : Nat → Bool) (st : Nat → Nat → Bool) (TM : Nat → Nat → Nat) (TP : World → Nat → Nat → Value → Prop)
    (AP HP LP : World → Value → Prop) (RP : World → Nat → Value → Prop)
    (HAU : Hid (∀ W W' u, AP W u → Below W.heap.size W W' → AP W' u)) (HHU : Hid (∀ W W' u, HP W u → Below W.heap.size W W' → HP W' u)) (HLU : Hid (∀ W W' u, LP W u → Below W.heap.size W W' → LP W' u))
    (HRB : Hid (∀ W W' pb u, RP W pb u → Below W.heap.size W W' → RP W' pb u)) (HRS : Hid (∀ W pb u b k x, RP W pb u → (GD = true → pb ≠ b) → RP (W.setCell ⟨b, k, none⟩ x) pb u)) (HRL : Hid (∀ W pb u, RP W pb u → GD = true → pb < W.heap.size))
    (HBE : Hid (∀ W, Below w.heap.size w W → Calls Tryd.prog 6 #[] W fun x W' => x = .returned (.bool true) ∧ Below W.heap.size W W'))
    (HO1 : Hid (∀ W, Below w.heap.size w W → Calls Tryd.prog 8 #[.agg #[.int .i64 N, .slice v1 v2 v3]] W fun x W' => ∃ u1 u2 u3, x = .returned (.agg #[.int .i64 N, .slice u1 u2 u3]) ∧ AP W' (.slice u1 u2 u3) ∧ Below W.heap.size W W'))
    (HO2 : Hid (∀ W, Below w.heap.size w W → Calls Tryd.prog 8 #[.agg #[.int .i64 M, .slice y1 y2 y3]] W fun x W' => ∃ u1 u2 u3, x = .returned (.agg #[.int .i64 M, .slice u1 u2 u3]) ∧ HP W' (.slice u1 u2 u3) ∧ Below W.heap.size W W'))
    (HOL : Hid (∀ W, Below w.heap.size w W → Calls Tryd.prog 9 #[.slice l1 LL l3] W fun x W' => ∃ u1 u2 u3, x = .returned (.slice u1 u2 u3) ∧ LP W' (.slice u1 u2 u3) ∧ Below W.heap.size W W'))
    (HSE : Hid (∀ W a b l, Below w.heap.size w W → AP W a → HP W b → LP W l → Calls Tryd.prog 7 #[.agg #[.int .i64 N, a], .agg #[.int .i64 M, b], l] W fun x W' => ∃ r1 r2 r3 pb, x = .returned (.tuple #[.agg #[.int .i64 GN, .slice r1 r2 r3], .agg #[.int .i64 sc, .int .i64 si]]) ∧ RP W' pb (.slice r1 r2 r3) ∧ (GD = true → W.heap.size ≤ pb) ∧ Below W.heap.size W W'))
    (HTW : Hid (∀ W, Below w.heap.size w W → Calls Tryd.prog 10 #[.agg #[.int .i64 N, .slice v1 v2 v3], .agg #[.int .i64 M, .slice y1 y2 y3]] W fun x W' => x = .returned (.agg #[.int .i64 tc, .int .i64 ti]) ∧ Below W.heap.size W W'))
    (HNG : Hid (∀ W, Calls Tryd.prog 17 #[.agg #[.int .i64 0, .slice none 0 0]] W fun x W' => x = .returned (.bool true) ∧ Below W.heap.size W W'))
    (HW : (tc = 0 ∧ ti = 0 ∧ N = ((n : Nat) : Int) ∧ M = ((m : Nat) : Int) ∧ m = LL ∧ l1 = some ⟨lb, lo, none⟩ ∧ Hid (CPrem w n m (.slice v1 v2 v3) (.slice y1 y2 y3) lb lo ea el ec hc hi ob st TM TP) ∧ 1 ≤ m ∧ m ≤ 60 ∧ n ≤ 60 ∧ GN = 0 ∧ (∀ W pb r1 r2 r3, RP W pb (.slice r1 r2 r3) → r1 = none ∧ r2 = 0 ∧ r3 = 0) ∧ Hid (∀ t, t < m → hc t = 0 ∧ ob t = true) ∧ Hid (∀ a b, a < m → b < m → st a b = false) ∧ (∃ q : Nat, (n : Int) * (m : Int) = (q : Int) ∧ 60 < q ∧ q ≤ 3600) ∧ sc = 9 ∧ si = 0)) :
    Calls Tryd.prog 3 #[.agg #[.int .i64 N, .slice v1 v2 v3], .agg #[.int .i64 M, .slice y1 y2 y3], .slice l1 LL l3] w fun x w' => x = .returned (.bool true) ∧ Below w.heap.size w w' := by
  replace HW := hide HW
  have hL1 : ¬ (LL : Int) > 100 := by omega
  have hL2 : decide ((LL : Int) > 100) = false := decide_eq_false hL1
  have hL3 : ¬ (100 : Int) < (LL : Int) := by omega
  obtain ⟨w0, hw0⟩ : ∃ w0, w0 = (w.alloc (.cells #[.int .i64 N, .slice v1 v2 v3] 24)).alloc (.cells #[.int .i64 M, .slice y1 y2 y3] 24) := ⟨_, rfl⟩
  have hB0 : Below w.heap.size w w0 := by rw [hw0]; exact (balloc w _).alloc (by simp) _
  have hX0 : Blk w0 w.heap.size 24 [.int .i64 N, .slice v1 v2 v3] := by rw [hw0]; exact (blk0 _ _).alloc _
  have hY0 : Blk w0 (w.heap.size + 1) 24 [.int .i64 M, .slice y1 y2 y3] := by
    rw [hw0]
    have := blk0 (w := w.alloc (.cells #[.int .i64 N, .slice v1 v2 v3] 24)) (T := 24) (.int .i64 M) (.slice y1 y2 y3)
    rwa [World.size_alloc] at this
  go_enter Tryd.func3, Tryd.ntmps3
  go_wp2_with fail
  rw [← hw0]
  clear hw0
  refine (HBE.out _ hB0).mono ?_
  rintro x1 w1 ⟨rfl, hb1⟩
  have hB1 := bcat2 hB0 hb1
  have hX1 := blk_below hX0 hb1
  have hY1 := blk_below hY0 hb1
  clear hX0 hY0 hb1 hB0
  obtain ⟨c0, c1, _, _⟩ := hX1.two
  obtain ⟨d0, d1, _, _⟩ := hY1.two
  go_wp2_with fail
  clear c0 c1 d0 d1
  go_cut [7, 8] (fun s7 s8 wx => ∃ gb fb r1 r2 r3 pb, s7 = .pointer (some ⟨gb, 0, none⟩) ∧ s8 = .pointer (some ⟨fb, 0, none⟩) ∧ Blk wx gb 24 [.int .i64 GN, .slice r1 r2 r3] ∧ Blk wx fb 28 [.int .i64 sc, .int .i64 si] ∧ RP wx pb (.slice r1 r2 r3) ∧ Below w1.heap.size w1 wx)
  case first =>
    clear HBE HTW HNG HW
    refine psem_r5 N M v1 v2 v3 y1 y2 y3 l1 LL l3 sc si GN GD w w1 hB1 hX1 hY1 AP HP LP RP HAU HHU HLU HRB HRS HRL HO1 HO2 HOL HSE _ _ (hide fun _ _ d _ _ h => by cases d <;> exact h) (hide fun gb fb pb r1 r2 r3 a1 a2 a3 b1 b2 b3 k1 k2 k3 W hG hF hR hBc => ?_)
    go_wp2
    go_meet
    exact ⟨gb, fb, r1, r2, r3, pb, rfl, rfl, hG, hF, hR, hBc⟩
  case rest =>
    obtain ⟨gb, fb, r1, r2, r3, pb, rfl, rfl, hGx, hFx, hRx, hbx⟩ := hcut
    have hBx := bcat2 hB1 hbx
    have hXx := blk_below hX1 hbx
    have hYx := blk_below hY1 hbx
    clear HBE HO1 HO2 HOL HSE hX1 hY1 hB1
    replace HW := HW.out
    obtain ⟨rfl, rfl, rfl, rfl, rfl, rfl, HC, hm1, hm60, hn60, rfl, hnil, HFN, HSF, ⟨q, hq, hq6, hq9⟩, rfl, rfl⟩ := HW
    obtain ⟨rfl, rfl, rfl⟩ := hnil _ _ _ _ _ hRx
    clear hnil
    have hwq : IntKind.i64.wrap (q : Int) = (q : Int) := by rw [IntKind.wrap_i64]; omega
    have hqg : (60 : Int) < (q : Int) := by omega
    have hmm : (((m : Nat) : Int) != ((m : Nat) : Int)) = false := by simp
    obtain ⟨x0, x1, _, _⟩ := hXx.two
    obtain ⟨y0, y1', _, _⟩ := hYx.two
    go_wp2_with fail
    clear x0 x1 y0 y1'
    refine (HTW.out _ hBx).mono ?_
    rintro x6 w6 ⟨rfl, hb6⟩
    obtain ⟨wz, hwz⟩ : ∃ wz, wz = w6.alloc (.cells #[.int .i64 0, .int .i64 0] 28) := ⟨_, rfl⟩
    have hbz : Below wc.heap.size wc wz := by rw [hwz]; exact bcat2 hb6 (balloc w6 _)
    have hP : PSt w wz w6.heap.size gb fb n m (.slice v1 v2 v3) (.slice y1 y2 y3) (0) (.slice none 0 0) 9 0 0 0 := ⟨blk_below hXx hbz, blk_below hYx hbz, blk_below hGx hbz, blk_below hFx hbz, by rw [hwz]; exact blk0 _ _, bcat2 hBx hbz, Nat.lt_of_lt_of_le hYx.lt hb6.size, Nat.lt_of_lt_of_le hGx.lt hb6.size, Nat.lt_of_lt_of_le hFx.lt hb6.size⟩
    have hRz := HRB.out _ _ _ _ hRx hbz
    obtain ⟨x0, x1, _, _⟩ := hP.x.two
    obtain ⟨y0, y1', _, _⟩ := hP.y.two
    obtain ⟨g0, g1, _, _⟩ := hP.g.two
    obtain ⟨f0, f1, _, _⟩ := hP.f.two
    obtain ⟨b0, b1', _, _⟩ := hP.b.two
    rw [hwz] at x0 x1 y0 y1' g0 g1 f0 f1 b0 b1'
    go_wp2_with fail
    rw [← hwz]
    clear hwz x0 x1 y0 y1' g0 g1 f0 f1 b0 b1' hmm hXx hYx hGx hFx hbz hb6
    generalize w6.heap.size = wb at *
    go_loopw [10] (fun iv wr => ∃ k : Nat, k ≤ m ∧ iv = .int .i64 k ∧ PSt w wr wb gb fb n m (.slice v1 v2 v3) (.slice y1 y2 y3) (0) (.slice none 0 0) (9) (0) (0) (0)) (fun iv _ => m - (intOf iv).toNat)
    case atStart => exact ⟨0, Nat.zero_le _, rfl, hP⟩
    case round =>
      obtain ⟨k, hk, rfl, hPr⟩ := hrel
      by_cases hlt : k < m
      · have HZ := hide (HFN.out k hlt)
        have hki : (k : Int) < (m : Int) := by omega
        obtain ⟨x0, x1, _, _⟩ := hPr.x.two
        obtain ⟨b0, b1', _, _⟩ := hPr.b.two
        have hS12 : ∀ W, Below wr.heap.size wr W → (Below wr.heap.size wr W ∧ W.cell? ⟨w.heap.size, 0, none⟩ = some (.int .i64 n) ∧ W.cell? ⟨w.heap.size, 1, none⟩ = some (.slice v1 v2 v3) ∧ W.cell? ⟨lb, lo + k, none⟩ = some (.slice (ea k) (el k) (ec k))) := fun W h => ⟨h, below_cell h x0, below_cell h x1, HC.out.cell W (bcat2 hPr.bel h) k hlt⟩
        have hBc : Below wr.heap.size wr wr.drew := bdrew (Below.refl _ _)
        have hS120 := hS12 _ hBc
        go_wp2_with fail
        clear x0 x1 b0 b1'
        go_cut [11] (fun s11 wx => ∃ vb, s11 = .pointer (some ⟨vb, 0, none⟩) ∧ Blk wx vb 28 [.int .i64 (hc k), .int .i64 (hi k)] ∧ Below wr.heap.size wr wx)
        case first =>
          refine wp_region_held_drew (S := fun W => Below wr.heap.size wr W ∧ W.cell? ⟨w.heap.size, 0, none⟩ = some (.int .i64 n) ∧ W.cell? ⟨w.heap.size, 1, none⟩ = some (.slice v1 v2 v3) ∧ W.cell? ⟨lb, lo + k, none⟩ = some (.slice (ea k) (el k) (ec k))) (by kernel_rfl) hS120 (fun hHeld => ?_)
          generalize wr.drew = wd at *
          refine wpAnyH_take (i := 0) (oi := ({ dst := some 56, op := Go.Op.load 24 (Go.Operand.tmp 3), type := 24, pos := _, after := _, guard := none } : Oper)) (v := ?_) rfl (by kernel_rfl) (by kernel_rfl) (by kernel_rfl) (fun _ _ _ h => h) (Or.inl ⟨by rfl, ?_⟩) (by assumption) ?_
          rotate_left
          · (intro w hSw; (try dsimp only at hSw); go_simp; try with_reducible rfl)
          simp only [Act.put, List.setIfInBounds_toArray, List.set_cons_zero, List.set_cons_succ]
          refine wpAnyH_take (i := 1) (oi := ({ dst := some 57, op := Go.Op.load 24 (Go.Operand.tmp 3), type := 24, pos := _, after := _, guard := none } : Oper)) (v := ?_) rfl (by kernel_rfl) (by kernel_rfl) (by kernel_rfl) (fun _ _ _ h => h) (Or.inl ⟨by rfl, ?_⟩) (by assumption) ?_
          rotate_left
          · (intro w hSw; (try dsimp only at hSw); go_simp; try with_reducible rfl)
          simp only [Act.put, List.setIfInBounds_toArray, List.set_cons_zero, List.set_cons_succ]
          refine wpAnyH_take (i := 2) (oi := ({ dst := some 58, op := Go.Op.move (Go.Operand.tmp 2), type := 25, pos := _, after := _, guard := none } : Oper)) (v := ?_) rfl (by kernel_rfl) (by kernel_rfl) (by kernel_rfl) (fun _ _ _ h => h) (Or.inl ⟨by rfl, ?_⟩) (by assumption) ?_
          rotate_left
          · (intro w hSw; (try dsimp only at hSw); go_simp; try with_reducible rfl)
          simp only [Act.put, List.setIfInBounds_toArray, List.set_cons_zero, List.set_cons_succ]
          refine wpAnyH_take (i := 3) (oi := ({ dst := some 59, op := Go.Op.move (Go.Operand.tmp 10), type := 3, pos := _, after := _, guard := none } : Oper)) (v := ?_) rfl (by kernel_rfl) (by kernel_rfl) (by kernel_rfl) (fun _ _ _ h => h) (Or.inl ⟨by rfl, ?_⟩) (by assumption) ?_
          rotate_left
          · (intro w hSw; (try dsimp only at hSw); go_simp; try with_reducible rfl)
          simp only [Act.put, List.setIfInBounds_toArray, List.set_cons_zero, List.set_cons_succ]
          refine wpAnyH_take (i := 4) (oi := ({ dst := some 60, op := Go.Op.indexAddr 25 (Go.Operand.tmp 58) (Go.Operand.tmp 59), type := 0, pos := _, after := _, guard := none } : Oper)) (v := ?_) rfl (by kernel_rfl) (by kernel_rfl) (by kernel_rfl) (fun _ _ _ h => h) (Or.inl ⟨by rfl, ?_⟩) (by assumption) ?_
          rotate_left
          · (intro w hSw; (try dsimp only at hSw); go_simp; try with_reducible rfl)
          simp only [Act.put, List.setIfInBounds_toArray, List.set_cons_zero, List.set_cons_succ]
          refine wpAnyH_take (i := 5) (oi := ({ dst := some 61, op := Go.Op.load 22 (Go.Operand.tmp 60), type := 22, pos := _, after := _, guard := none } : Oper)) (v := ?_) rfl (by kernel_rfl) (by kernel_rfl) (by kernel_rfl) (fun _ _ _ h => h) (Or.inl ⟨by rfl, ?_⟩) (by assumption) ?_
          rotate_left
          · (intro w hSw; (try dsimp only at hSw); go_simp; try with_reducible rfl)
          simp only [Act.put, List.setIfInBounds_toArray, List.set_cons_zero, List.set_cons_succ]
          refine wpAnyH_ready (rs := [6, 7]) (by kernel_rfl) (by simp) (AllReadyH.cons (o := ({ dst := some 62, op := Go.Op.call { callee := Go.Callee.value (Go.Operand.func 12), args := #[Go.Operand.tmp 56, Go.Operand.tmp 57, Go.Operand.tmp 61], argTypes := #[24, 24, 22] }, type := 28, pos := _, after := _, guard := none } : Oper)) rfl (fun KK hK => ?_) (AllReadyH.cons (o := ({ dst := some 11, op := Go.Op.alloc 28, type := 0, pos := _, after := _, guard := none } : Oper)) rfl (fun KK hK => ?_) AllReadyH.nil))
          · go_simp
            refine (HC.out.hf _ k (bcat2 hPr.bel hBc) hlt).mono ?_
            rintro x12 U12 ⟨rfl, hl12⟩
            have hBc := bcat2 hBc hl12
            try go_wp2_with fail
            refine hK.out _ _ (hS12 _ hBc) (fun hHeld => ?_)
            clear hK
            try simp only [Act.put, List.setIfInBounds_toArray, List.set_cons_zero, List.set_cons_succ]
            refine wpAnyH_ready (rs := [7]) (by kernel_rfl) (by simp) (AllReadyH.cons (o := ({ dst := some 11, op := Go.Op.alloc 28, type := 0, pos := _, after := _, guard := none } : Oper)) rfl (fun KK hK => ?_) AllReadyH.nil)
            go_simp
            have hge := hBc.size
            have haV := balloc U12 (.cells #[.int .i64 0, .int .i64 0] 28)
            have hBc := bcat2 hBc haV
            have hV := blk0 (w := U12) (T := 28) (.int .i64 0) (.int .i64 0)
            refine hK.out _ _ (hS12 _ hBc) (fun hHeld => ?_)
            clear hK
            try simp only [Act.put, List.setIfInBounds_toArray, List.set_cons_zero, List.set_cons_succ]
            generalize U12.alloc (.cells #[.int .i64 0, .int .i64 0] 28) = WAv at *
            generalize U12.heap.size = vb at *
            refine wpAnyH_ready (rs := [8]) (by kernel_rfl) (by simp) (AllReadyH.cons (o := ({ dst := none, op := Go.Op.store 28 (Go.Operand.tmp 11) (Go.Operand.tmp 62), type := 0, pos := _, after := _, guard := none } : Oper)) rfl (fun KK hK => ?_) AllReadyH.nil)
            obtain ⟨z0, z1, z2, z3⟩ := hV.two
            go_simp
            have hBc := (hBc.setCell (p := ⟨vb, 0, none⟩) hge (.int .i64 (hc k))).setCell (p := ⟨vb, 1, none⟩) hge (.int .i64 (hi k))
            have hV : Blk _ vb 28 [.int .i64 (hc k), .int .i64 (hi k)] := (hV.set 0 (.int .i64 (hc k))).set 1 (.int .i64 (hi k))
            refine hK.out _ _ (hS12 _ hBc) (fun hHeld => ?_)
            clear hK
            try simp only [Act.put, List.setIfInBounds_toArray, List.set_cons_zero, List.set_cons_succ]
            clear z0 z1 z2 z3
            refine wpAnyH_done (by kernel_rfl) ?_ _
            go_wp2
            go_meet
            exact ⟨vb, rfl, hV, hBc⟩
          go_simp
          have hge := hBc.size
          have haV := balloc wd (.cells #[.int .i64 0, .int .i64 0] 28)
          have hBc := bcat2 hBc haV
          have hV := blk0 (w := wd) (T := 28) (.int .i64 0) (.int .i64 0)
          refine hK.out _ _ (hS12 _ hBc) (fun hHeld => ?_)
          clear hK
          try simp only [Act.put, List.setIfInBounds_toArray, List.set_cons_zero, List.set_cons_succ]
          generalize wd.alloc (.cells #[.int .i64 0, .int .i64 0] 28) = WAv at *
          generalize wd.heap.size = vb at *
          refine wpAnyH_ready (rs := [6]) (by kernel_rfl) (by simp) (AllReadyH.cons (o := ({ dst := some 62, op := Go.Op.call { callee := Go.Callee.value (Go.Operand.func 12), args := #[Go.Operand.tmp 56, Go.Operand.tmp 57, Go.Operand.tmp 61], argTypes := #[24, 24, 22] }, type := 28, pos := _, after := _, guard := none } : Oper)) rfl (fun KK hK => ?_) AllReadyH.nil)
          go_simp
          refine (HC.out.hf _ k (bcat2 hPr.bel hBc) hlt).mono ?_
          rintro x12 U12 ⟨rfl, hl12⟩
          have hBc := bcat2 hBc hl12
          have hV := blk_below hV hl12
          try go_wp2_with fail
          refine hK.out _ _ (hS12 _ hBc) (fun hHeld => ?_)
          clear hK
          try simp only [Act.put, List.setIfInBounds_toArray, List.set_cons_zero, List.set_cons_succ]
          refine wpAnyH_ready (rs := [8]) (by kernel_rfl) (by simp) (AllReadyH.cons (o := ({ dst := none, op := Go.Op.store 28 (Go.Operand.tmp 11) (Go.Operand.tmp 62), type := 0, pos := _, after := _, guard := none } : Oper)) rfl (fun KK hK => ?_) AllReadyH.nil)
          obtain ⟨z0, z1, z2, z3⟩ := hV.two
          go_simp
          have hBc := (hBc.setCell (p := ⟨vb, 0, none⟩) hge (.int .i64 (hc k))).setCell (p := ⟨vb, 1, none⟩) hge (.int .i64 (hi k))
          have hV : Blk _ vb 28 [.int .i64 (hc k), .int .i64 (hi k)] := (hV.set 0 (.int .i64 (hc k))).set 1 (.int .i64 (hi k))
          refine hK.out _ _ (hS12 _ hBc) (fun hHeld => ?_)
          clear hK
          try simp only [Act.put, List.setIfInBounds_toArray, List.set_cons_zero, List.set_cons_succ]
          clear z0 z1 z2 z3
          refine wpAnyH_done (by kernel_rfl) ?_ _
          go_wp2
          go_meet
          exact ⟨vb, rfl, hV, hBc⟩
        case rest =>
          obtain ⟨vb, rfl, hV, hbv⟩ := hcut
          have hPc := hPr.below hbv
          obtain ⟨v0, v1', _, _⟩ := hV.two
          obtain ⟨x0, x1, _, _⟩ := hPc.x.two
          have HOO := hide (fun W (h : Below wc.heap.size wc W) => HC.out.oo W k (bcat2 hPc.bel h) hlt HZ.out.1)
          rw [HZ.out.2] at HOO
          rw [HZ.out.1] at v0
          have hS15 : ∀ W, Below wc.heap.size wc W → (Below wc.heap.size wc W ∧ W.cell? ⟨w.heap.size, 0, none⟩ = some (.int .i64 n) ∧ W.cell? ⟨lb, lo + k, none⟩ = some (.slice (ea k) (el k) (ec k))) := fun W h => ⟨h, below_cell h x0, HC.out.cell W (bcat2 hPc.bel h) k hlt⟩
          have hS150 := hS15 _ (bdrew (Below.refl _ wc))
          go_wp2_with fail
          clear x0 x1 v0 v1'
          go_region_held3 (fun W => Below wc.heap.size wc W ∧ W.cell? ⟨w.heap.size, 0, none⟩ = some (.int .i64 n) ∧ W.cell? ⟨lb, lo + k, none⟩ = some (.slice (ea k) (el k) (ec k)))
            (first | exact hS150 | assumption | exact hS15 _ (bcat2 (And.left ‹_›) hl15))
            (first | (go_at_call 13; refine (HOO.out _ (And.left ‹_›)).mono ?_; rintro e15 U15 ⟨rfl, hl15⟩))
          obtain ⟨hB15, _⟩ := ‹Below wc.heap.size wc U15 ∧ _›
          clear hS15 hS150 hl15
          have hPd := hPc.below hB15

          go_wp2
          go_roundw
          case rel => exact ⟨k + 1, by omega, by go_num, hPd⟩
          case measure => simp [intOf]; omega
      · have hki : ¬ (k : Int) < (m : Int) := by omega
        obtain ⟨b0, b1', _, _⟩ := hPr.b.two
        obtain ⟨x0, x1, _, _⟩ := hPr.x.two
        obtain ⟨y0, y1', _, _⟩ := hPr.y.two
        obtain ⟨g0, g1, _, _⟩ := hPr.g.two
        obtain ⟨f0, f1, _, _⟩ := hPr.f.two
        go_wp2_with fail
        clear x0 x1 y0 y1' g0 g1 f0 f1 b0 b1' hki
        go_loopw [12] (fun iv wr => ∃ k : Nat, k ≤ m ∧ iv = .int .i64 k ∧ PSt w wr wb gb fb n m (.slice v1 v2 v3) (.slice y1 y2 y3) (0) (.slice none 0 0) (9) (0) (0) (0)) (fun iv _ => m - (intOf iv).toNat)
        case atStart => exact ⟨0, Nat.zero_le _, rfl, hPr⟩
        case round =>
          obtain ⟨a, hka, rfl, hPa⟩ := hrel
          by_cases hla : a < m
          · have hai : (a : Int) < (m : Int) := by omega
            obtain ⟨b0, b1', _, _⟩ := hPa.b.two
            obtain ⟨y0, y1', _, _⟩ := hPa.y.two
            go_wp2_with fail
            clear b0 b1' y0 y1' hai
            go_loopw [13] (fun iv wr => ∃ k : Nat, k ≤ m ∧ iv = .int .i64 k ∧ PSt w wr wb gb fb n m (.slice v1 v2 v3) (.slice y1 y2 y3) (0) (.slice none 0 0) (9) (0) (0) (0)) (fun iv _ => m - (intOf iv).toNat)
            case atStart => exact ⟨0, Nat.zero_le _, rfl, hPa⟩
            case round =>
              obtain ⟨b, hkb, rfl, hPb⟩ := hrel
              by_cases hlb : b < m
              · have HST := hide (HSF.out a b hla hlb)
                have HIL := hide (fun W u (h : Below w.heap.size w W) (hu : TP W a b u) => HC.out.il W a b u h hla hlb hu)
                rw [HST.out] at HIL
                have HTH := hide (fun W (h : Below w.heap.size w W) => HC.out.th HFN.out W a b h hla hlb)
                have HTT := hide (fun W (h : Below w.heap.size w W) => HC.out.tm W a b h hla hlb)
                have htl := HC.out.tl a b hla hlb
                have hai : (a : Int) < (m : Int) := by omega
                have hbi : (b : Int) < (m : Int) := by omega
                have hti : ((TM a b : Nat) : Int) < (m : Int) := by omega
                obtain ⟨b0, b1', _, _⟩ := hPb.b.two
                obtain ⟨y0, y1', _, _⟩ := hPb.y.two
                have hS23 : ∀ W, Below wr.heap.size wr W → (Below wr.heap.size wr W ∧ W.cell? ⟨w.heap.size + 1, 0, none⟩ = some (.int .i64 m) ∧ W.cell? ⟨w.heap.size + 1, 1, none⟩ = some (.slice y1 y2 y3) ∧ W.cell? ⟨lb, lo + a, none⟩ = some (.slice (ea a) (el a) (ec a)) ∧ W.cell? ⟨lb, lo + b, none⟩ = some (.slice (ea b) (el b) (ec b)) ∧ W.cell? ⟨lb, lo + TM a b, none⟩ = some (.slice (ea (TM a b)) (el (TM a b)) (ec (TM a b)))) := fun W h => ⟨h, below_cell h y0, below_cell h y1', HC.out.cell W (bcat2 hPb.bel h) a hla, HC.out.cell W (bcat2 hPb.bel h) b hlb, HC.out.cell W (bcat2 hPb.bel h) _ htl⟩
                have hS230 := hS23 _ (bdrew (Below.refl _ wr))
                go_wp2_with fail
                clear b0 b1' y0 y1'
                go_region_held3 (fun W => Below wr.heap.size wr W ∧ W.cell? ⟨w.heap.size + 1, 0, none⟩ = some (.int .i64 m) ∧ W.cell? ⟨w.heap.size + 1, 1, none⟩ = some (.slice y1 y2 y3) ∧ W.cell? ⟨lb, lo + a, none⟩ = some (.slice (ea a) (el a) (ec a)) ∧ W.cell? ⟨lb, lo + b, none⟩ = some (.slice (ea b) (el b) (ec b)) ∧ W.cell? ⟨lb, lo + TM a b, none⟩ = some (.slice (ea (TM a b)) (el (TM a b)) (ec (TM a b))))
                  (first | exact hS230 | assumption | exact hS23 _ (bcat2 (And.left ‹_›) hl25) | exact hS23 _ (bcat2 (And.left ‹_›) hl24) | exact hS23 _ (bcat2 (And.left ‹_›) hl23))
                  (first
                    | (go_at_call 15; refine (HTT.out _ (bcat2 hPb.bel (And.left ‹_›))).mono ?_; rintro e23 U23 ⟨rfl, hl23⟩)
                    | (go_at_call 16; refine (HTH.out _ (bcat2 hPb.bel (And.left ‹_›))).mono ?_; rintro e24 U24 ⟨t1, t2, t3, rfl, hTP24, hl24⟩)
                    | (go_at_call 14; refine (HIL.out _ _ (bcat2 hPb.bel (And.left ‹_›)) hTP24).mono ?_; rintro e25 U25 ⟨rfl, hl25⟩))
                obtain ⟨hB25, _⟩ := ‹Below wr.heap.size wr U25 ∧ _›
                clear hS23 hS230 hl25 hl24 hl23 hTP24 HIL HTH HTT
                have hPd := hPb.below hB25

                go_wp2
                go_roundw
                case rel => exact ⟨b + 1, by omega, by go_num, hPd⟩
                case measure => simp [intOf]; omega
              · have hbi : ¬ (b : Int) < (m : Int) := by omega
                obtain ⟨b0, b1', _, _⟩ := hPb.b.two
                obtain ⟨y0, y1', _, _⟩ := hPb.y.two
                go_wp2
                go_roundw
                case rel => exact ⟨a + 1, by omega, by go_num, hPb⟩
                case measure => simp [intOf]; omega
          · have hai : ¬ (a : Int) < (m : Int) := by omega
            obtain ⟨x0, x1, _, _⟩ := hPa.x.two
            obtain ⟨y0, y1', _, _⟩ := hPa.y.two
            obtain ⟨g0, g1, _, _⟩ := hPa.g.two
            obtain ⟨f0, f1, _, _⟩ := hPa.f.two
            obtain ⟨b0, b1', _, _⟩ := hPa.b.two
            go_wp2_with fail
            clear x0 x1 y0 y1' g0 g1 f0 f1 b0 b1'
            refine (f_any 9 0 wr).mono ?_
            rintro x7 w7 ⟨rfl, hb7⟩
            have hPe := hPa.below hb7
            obtain ⟨k0, k1, k2, k3⟩ := hPe.b.two
            have HPZ := hPe.put 9 0
            obtain ⟨x0, x1, _, _⟩ := HPZ.x.two
            obtain ⟨y0, y1', _, _⟩ := HPZ.y.two
            obtain ⟨g0, g1, _, _⟩ := HPZ.g.two
            obtain ⟨f0, f1, _, _⟩ := HPZ.f.two
            obtain ⟨b0, b1', _, _⟩ := HPZ.b.two
            go_wp2_with fail
            all_goals (
              refine (HNG.out _).mono ?_
              rintro x9 w9 ⟨rfl, hb9⟩
              go_wp2
              go_ret
              exact ⟨rfl, bcat2 HPZ.bel hb9⟩)
end Go.Proofs.YtanbpjfdfnmjpaaDoor
