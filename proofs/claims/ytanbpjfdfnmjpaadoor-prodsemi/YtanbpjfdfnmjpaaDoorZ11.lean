/- The law ProdSemi: its walk (C4), what it calls as premises. For the law ProdSemi: long acts, lists by functions, what the document says of two entries. Condition: the library's table of places lies as its text lays it. The law ProdSemi at everything. Condition: the library's table of places lies as its text lays it. -/
import Derived.Test.YtanbpjfdfnmjpaaDoorZ9
import Derived.Test.YtanbpjfdfnmjpaaDoorZ10
import Derived.Test.YtanbpjfdfnmjpaaDoorZ8
import Derived.Test.YtanbpjfdfnmjpaaDoorZ4
import Derived.Test.YtanbpjfdfnmjpaaDoorZ5
namespace Go.Proofs.YtanbpjfdfnmjpaaDoor
open Go Go.RowKit

set_option maxRecDepth 100000 in
set_option maxHeartbeats 16000000 in
theorem psem_c4 (N M : Int) (v1 : Option Addr) (v2 v3 : Nat) (y1 : Option Addr) (y2 y3 : Nat) (l1 : Option Addr) (LL l3 : Nat) (tc ti sc si GN : Int) (GD : Bool) (w : World) (hLL : LL ≤ 100) (n m lb lo : Nat) (ea : Nat → Option Addr) (el ec : Nat → Nat) (hc hi : Nat → Int) (ob : Nat → Bool) (st : Nat → Nat → Bool) (TM : Nat → Nat → Nat) (TP : World → Nat → Nat → Value → Prop)
    (AP HP LP : World → Value → Prop) (RP : World → Nat → Value → Prop)
    (HAU : Hid (∀ W W' u, AP W u → Below W.heap.size W W' → AP W' u)) (HHU : Hid (∀ W W' u, HP W u → Below W.heap.size W W' → HP W' u)) (HLU : Hid (∀ W W' u, LP W u → Below W.heap.size W W' → LP W' u))
    (HRB : Hid (∀ W W' pb u, RP W pb u → Below W.heap.size W W' → RP W' pb u)) (HRS : Hid (∀ W pb u b k x, RP W pb u → (GD = true → pb ≠ b) → RP (W.setCell ⟨b, k, none⟩ x) pb u)) (HRL : Hid (∀ W pb u, RP W pb u → GD = true → pb < W.heap.size))
    (HBE : Hid (∀ W, Below w.heap.size w W → Calls Tryd.prog 6 #[] W fun x W' => x = .returned (.bool true) ∧ Below W.heap.size W W'))
    (HO1 : Hid (∀ W, Below w.heap.size w W → Calls Tryd.prog 8 #[.agg #[.int .i64 N, .slice v1 v2 v3]] W fun x W' => ∃ u1 u2 u3, x = .returned (.agg #[.int .i64 N, .slice u1 u2 u3]) ∧ AP W' (.slice u1 u2 u3) ∧ Below W.heap.size W W'))
    (HO2 : Hid (∀ W, Below w.heap.size w W → Calls Tryd.prog 8 #[.agg #[.int .i64 M, .slice y1 y2 y3]] W fun x W' => ∃ u1 u2 u3, x = .returned (.agg #[.int .i64 M, .slice u1 u2 u3]) ∧ HP W' (.slice u1 u2 u3) ∧ Below W.heap.size W W'))
    (HOL : Hid (∀ W, Below w.heap.size w W → Calls Tryd.prog 9 #[.slice l1 LL l3] W fun x W' => ∃ u1 u2 u3, x = .returned (.slice u1 u2 u3) ∧ LP W' (.slice u1 u2 u3) ∧ Below W.heap.size W W'))
    (HSE : Hid (∀ W a b l, Below w.heap.size w W → AP W a → HP W b → LP W l → Calls Tryd.prog 7 #[.agg #[.int .i64 N, a], .agg #[.int .i64 M, b], l] W fun x W' => ∃ r1 r2 r3 pb, x = .returned (.tuple #[.agg #[.int .i64 GN, .slice r1 r2 r3], .agg #[.int .i64 sc, .int .i64 si]]) ∧ RP W' pb (.slice r1 r2 r3) ∧ (GD = true → W.heap.size ≤ pb) ∧ Below W.heap.size W W'))
    (HTW : Hid (∀ W, Below w.heap.size w W → Calls Tryd.prog 10 #[.agg #[.int .i64 N, .slice v1 v2 v3], .agg #[.int .i64 M, .slice y1 y2 y3]] W fun x W' => x = .returned (.agg #[.int .i64 tc, .int .i64 ti]) ∧ Below W.heap.size W W'))
    (_HNG : Hid (∀ W, Calls Tryd.prog 17 #[.agg #[.int .i64 0, .slice none 0 0]] W fun x W' => x = .returned (.bool true) ∧ Below W.heap.size W W'))
    (HW : (tc = 0 ∧ ti = 0 ∧ N = ((n : Nat) : Int) ∧ M = ((m : Nat) : Int) ∧ m = LL ∧ l1 = some ⟨lb, lo, none⟩ ∧ Hid (CPrem w n m (.slice v1 v2 v3) (.slice y1 y2 y3) lb lo ea el ec hc hi ob st TM TP) ∧ 1 ≤ m ∧ m ≤ 60 ∧ n ≤ 60 ∧ Hid (∀ t, t < m → hc t = 0 ∧ ob t = true) ∧ Hid (∀ a b, a < m → b < m → st a b = false) ∧ sc = 0 ∧ si = 0 ∧ ∃ (q qq : Nat) (rb ro : Nat → Nat) (φ TN SF : Nat → Nat → Nat), GN = ((q : Nat) : Int) ∧ (n : Int) * (m : Int) = (q : Int) ∧ (q : Int) * (q : Int) = (qq : Int) ∧ q ≤ 60 ∧ qq ≤ 3600 ∧ Hid (∀ W pb r1 r2 r3, RP W pb (.slice r1 r2 r3) → r2 = qq)
      ∧ Hid (∀ i, i < m → ea i = some ⟨rb i, ro i, none⟩ ∧ el i = n) ∧ Hid (∀ W i y, Below w.heap.size w W → i < m → y < n → W.cell? ⟨rb i, ro i + y, none⟩ = some (.int .i64 ((φ i y : Nat) : Int))) ∧ Hid (∀ i y, i < m → y < n → φ i y < n) ∧ Hid (∀ a b, a < n → b < n → TN a b < n)
      ∧ Hid (∀ i k, i < q → k < q → i / m < n ∧ i % m < m ∧ SF i k = TN (i / m) (φ (i % m) (k / m)) * m + TM (i % m) (k % m))
      ∧ Hid (∀ W pb u i k, Below w.heap.size w W → RP W pb u → i < q → k < q → Calls Tryd.prog 15 #[.agg #[.int .i64 q, u], .int .i64 ((i : Nat) : Int), .int .i64 ((k : Nat) : Int)] W fun x W' => x = .returned (.int .i64 ((SF i k : Nat) : Int)) ∧ Below W.heap.size W W')
      ∧ Hid (∀ W a b, Below w.heap.size w W → a < n → b < n → Calls Tryd.prog 15 #[.agg #[.int .i64 n, .slice v1 v2 v3], .int .i64 ((a : Nat) : Int), .int .i64 ((b : Nat) : Int)] W fun x W' => x = .returned (.int .i64 ((TN a b : Nat) : Int)) ∧ Below W.heap.size W W')
      ∧ Hid (∀ W pb u, Below w.heap.size w W → RP W pb u → Calls Tryd.prog 18 #[.agg #[.int .i64 q, u]] W fun x W' => x = .returned (.agg #[.int .i64 0, .int .i64 0]) ∧ Below W.heap.size W W'))) :
    Calls Tryd.prog 3 #[.agg #[.int .i64 N, .slice v1 v2 v3], .agg #[.int .i64 M, .slice y1 y2 y3], .slice l1 LL l3] w fun x w' => x = .returned (.bool true) ∧ Below w.heap.size w w' := by
  replace HW := hide HW
  have hL1 : ¬ (LL : Int) > 100 := by omega
  have hL2 : decide ((LL : Int) > 100) = false := decide_eq_false hL1
  have hL3 : ¬ (100 : Int) < (LL : Int) := by omega
  obtain ⟨w0, hw0⟩ : ∃ w0, w0 = (w.alloc (.cells #[.int .i64 N, .slice v1 v2 v3] 24)).alloc (.cells #[.int .i64 M, .slice y1 y2 y3] 24) := ⟨_, rfl⟩
  have hB0 : Below w.heap.size w w0 := by rw [hw0]; exact (balloc w _).alloc (by simp) _
  have hX0 : Blk w0 w.heap.size 24 [.int .i64 N, .slice v1 v2 v3] := by rw [hw0]; exact (blk0 _ _).alloc _
  have hY0 : Blk w0 (w.heap.size + 1) 24 [.int .i64 M, .slice y1 y2 y3] := by
    rw [hw0]
    have := blk0 (w := w.alloc (.cells #[.int .i64 N, .slice v1 v2 v3] 24)) (T := 24) (.int .i64 M) (.slice y1 y2 y3)
    rwa [World.size_alloc] at this
  go_enter Tryd.func3, Tryd.ntmps3
  go_wp2_with fail
  rw [← hw0]
  clear hw0
  refine (HBE.out _ hB0).mono ?_
  rintro x1 w1 ⟨rfl, hb1⟩
  have hB1 := bcat2 hB0 hb1
  have hX1 := blk_below hX0 hb1
  have hY1 := blk_below hY0 hb1
  clear hX0 hY0 hb1 hB0
  obtain ⟨c0, c1, _, _⟩ := hX1.two
  obtain ⟨d0, d1, _, _⟩ := hY1.two
  go_wp2_with fail
  clear c0 c1 d0 d1
  go_cut [7, 8] (fun s7 s8 wx => ∃ gb fb r1 r2 r3 pb, s7 = .pointer (some ⟨gb, 0, none⟩) ∧ s8 = .pointer (some ⟨fb, 0, none⟩) ∧ Blk wx gb 24 [.int .i64 GN, .slice r1 r2 r3] ∧ Blk wx fb 28 [.int .i64 sc, .int .i64 si] ∧ RP wx pb (.slice r1 r2 r3) ∧ Below w1.heap.size w1 wx)
  case first =>
    clear HBE HTW _HNG HW
    refine psem_r5 N M v1 v2 v3 y1 y2 y3 l1 LL l3 sc si GN GD w w1 hB1 hX1 hY1 AP HP LP RP HAU HHU HLU HRB HRS HRL HO1 HO2 HOL HSE _ _ (hide fun _ _ d _ _ h => by cases d <;> exact h) (hide fun gb fb pb r1 r2 r3 a1 a2 a3 b1 b2 b3 k1 k2 k3 W hG hF hR hBc => ?_)
    go_wp2
    go_meet
    exact ⟨gb, fb, r1, r2, r3, pb, rfl, rfl, hG, hF, hR, hBc⟩
  case rest =>
    obtain ⟨gb, fb, r1, r2, r3, pb, rfl, rfl, hGx, hFx, hRx, hbx⟩ := hcut
    have hBx := bcat2 hB1 hbx
    have hXx := blk_below hX1 hbx
    have hYx := blk_below hY1 hbx
    clear HBE HO1 HO2 HOL HSE hX1 hY1 hB1
    replace HW := HW.out
    obtain ⟨rfl, rfl, rfl, rfl, rfl, rfl, HC, hm1, hm60, hn60, HFN, HSF, rfl, rfl, q, qq, rb, ro, φ, TN, SF, rfl, hq, hqq, hq6, hq9, HLN, HEA, HRC, HFL, HTL, HSQ, HMG, HMN, HGF⟩ := HW
    have hr2 := HLN.out _ _ _ _ _ hRx
    subst hr2
    have hwq : IntKind.i64.wrap (q : Int) = (q : Int) := by rw [IntKind.wrap_i64]; omega
    have hwqq : IntKind.i64.wrap (r2 : Int) = (r2 : Int) := by rw [IntKind.wrap_i64]; omega
    have hqg : ¬ (60 : Int) < (q : Int) := by omega
    have hmm : (((m : Nat) : Int) != ((m : Nat) : Int)) = false := by simp
    obtain ⟨x0, x1, _, _⟩ := hXx.two
    obtain ⟨y0, y1', _, _⟩ := hYx.two
    go_wp2_with fail
    clear x0 x1 y0 y1'
    refine (HTW.out _ hBx).mono ?_
    rintro x6 w6 ⟨rfl, hb6⟩
    obtain ⟨wz, hwz⟩ : ∃ wz, wz = w6.alloc (.cells #[.int .i64 0, .int .i64 0] 28) := ⟨_, rfl⟩
    have hbz : Below wc.heap.size wc wz := by rw [hwz]; exact bcat2 hb6 (balloc w6 _)
    have hP : PSt w wz w6.heap.size gb fb n m (.slice v1 v2 v3) (.slice y1 y2 y3) (q) (.slice r1 r2 r3) 0 0 0 0 := ⟨blk_below hXx hbz, blk_below hYx hbz, blk_below hGx hbz, blk_below hFx hbz, by rw [hwz]; exact blk0 _ _, bcat2 hBx hbz, Nat.lt_of_lt_of_le hYx.lt hb6.size, Nat.lt_of_lt_of_le hGx.lt hb6.size, Nat.lt_of_lt_of_le hFx.lt hb6.size⟩
    have hRz := HRB.out _ _ _ _ hRx hbz
    obtain ⟨x0, x1, _, _⟩ := hP.x.two
    obtain ⟨y0, y1', _, _⟩ := hP.y.two
    obtain ⟨g0, g1, _, _⟩ := hP.g.two
    obtain ⟨f0, f1, _, _⟩ := hP.f.two
    obtain ⟨b0, b1', _, _⟩ := hP.b.two
    rw [hwz] at x0 x1 y0 y1' g0 g1 f0 f1 b0 b1'
    go_wp2_with fail
    rw [← hwz]
    clear hwz x0 x1 y0 y1' g0 g1 f0 f1 b0 b1' hmm hXx hYx hGx hFx hbz hb6
    generalize w6.heap.size = wb at *
    go_loopw [10] (fun iv wr => ∃ k : Nat, k ≤ m ∧ iv = .int .i64 k ∧ PSt w wr wb gb fb n m (.slice v1 v2 v3) (.slice y1 y2 y3) (q) (.slice r1 r2 r3) (0) (0) (0) (0) ∧ RP wr pb (.slice r1 r2 r3)) (fun iv _ => m - (intOf iv).toNat)
    case atStart => exact ⟨0, Nat.zero_le _, rfl, hP, hRz⟩
    case round =>
      obtain ⟨k, hk, rfl, hPr, hRr⟩ := hrel
      by_cases hlt : k < m
      · have HZ := hide (HFN.out k hlt)
        have hki : (k : Int) < (m : Int) := by omega
        obtain ⟨x0, x1, _, _⟩ := hPr.x.two
        obtain ⟨b0, b1', _, _⟩ := hPr.b.two
        have hS12 : ∀ W, Below wr.heap.size wr W → (Below wr.heap.size wr W ∧ W.cell? ⟨w.heap.size, 0, none⟩ = some (.int .i64 n) ∧ W.cell? ⟨w.heap.size, 1, none⟩ = some (.slice v1 v2 v3) ∧ W.cell? ⟨lb, lo + k, none⟩ = some (.slice (ea k) (el k) (ec k))) := fun W h => ⟨h, below_cell h x0, below_cell h x1, HC.out.cell W (bcat2 hPr.bel h) k hlt⟩
        have hBc : Below wr.heap.size wr wr.drew := bdrew (Below.refl _ _)
        have hS120 := hS12 _ hBc
        go_wp2_with fail
        clear x0 x1 b0 b1'
        go_cut [11] (fun s11 wx => ∃ vb, s11 = .pointer (some ⟨vb, 0, none⟩) ∧ Blk wx vb 28 [.int .i64 (hc k), .int .i64 (hi k)] ∧ Below wr.heap.size wr wx)
        case first =>
          refine wp_region_held_drew (S := fun W => Below wr.heap.size wr W ∧ W.cell? ⟨w.heap.size, 0, none⟩ = some (.int .i64 n) ∧ W.cell? ⟨w.heap.size, 1, none⟩ = some (.slice v1 v2 v3) ∧ W.cell? ⟨lb, lo + k, none⟩ = some (.slice (ea k) (el k) (ec k))) (by kernel_rfl) hS120 (fun hHeld => ?_)
          generalize wr.drew = wd at *
          refine wpAnyH_take (i := 0) (oi := ({ dst := some 56, op := Go.Op.load 24 (Go.Operand.tmp 3), type := 24, pos := _, after := _, guard := none } : Oper)) (v := ?_) rfl (by kernel_rfl) (by kernel_rfl) (by kernel_rfl) (fun _ _ _ h => h) (Or.inl ⟨by rfl, ?_⟩) (by assumption) ?_
          rotate_left
          · (intro w hSw; (try dsimp only at hSw); go_simp; try with_reducible rfl)
          simp only [Act.put, List.setIfInBounds_toArray, List.set_cons_zero, List.set_cons_succ]
          refine wpAnyH_take (i := 1) (oi := ({ dst := some 57, op := Go.Op.load 24 (Go.Operand.tmp 3), type := 24, pos := _, after := _, guard := none } : Oper)) (v := ?_) rfl (by kernel_rfl) (by kernel_rfl) (by kernel_rfl) (fun _ _ _ h => h) (Or.inl ⟨by rfl, ?_⟩) (by assumption) ?_
          rotate_left
          · (intro w hSw; (try dsimp only at hSw); go_simp; try with_reducible rfl)
          simp only [Act.put, List.setIfInBounds_toArray, List.set_cons_zero, List.set_cons_succ]
          refine wpAnyH_take (i := 2) (oi := ({ dst := some 58, op := Go.Op.move (Go.Operand.tmp 2), type := 25, pos := _, after := _, guard := none } : Oper)) (v := ?_) rfl (by kernel_rfl) (by kernel_rfl) (by kernel_rfl) (fun _ _ _ h => h) (Or.inl ⟨by rfl, ?_⟩) (by assumption) ?_
          rotate_left
          · (intro w hSw; (try dsimp only at hSw); go_simp; try with_reducible rfl)
          simp only [Act.put, List.setIfInBounds_toArray, List.set_cons_zero, List.set_cons_succ]
          refine wpAnyH_take (i := 3) (oi := ({ dst := some 59, op := Go.Op.move (Go.Operand.tmp 10), type := 3, pos := _, after := _, guard := none } : Oper)) (v := ?_) rfl (by kernel_rfl) (by kernel_rfl) (by kernel_rfl) (fun _ _ _ h => h) (Or.inl ⟨by rfl, ?_⟩) (by assumption) ?_
          rotate_left
          · (intro w hSw; (try dsimp only at hSw); go_simp; try with_reducible rfl)
          simp only [Act.put, List.setIfInBounds_toArray, List.set_cons_zero, List.set_cons_succ]
          refine wpAnyH_take (i := 4) (oi := ({ dst := some 60, op := Go.Op.indexAddr 25 (Go.Operand.tmp 58) (Go.Operand.tmp 59), type := 0, pos := _, after := _, guard := none } : Oper)) (v := ?_) rfl (by kernel_rfl) (by kernel_rfl) (by kernel_rfl) (fun _ _ _ h => h) (Or.inl ⟨by rfl, ?_⟩) (by assumption) ?_
          rotate_left
          · (intro w hSw; (try dsimp only at hSw); go_simp; try with_reducible rfl)
          simp only [Act.put, List.setIfInBounds_toArray, List.set_cons_zero, List.set_cons_succ]
          refine wpAnyH_take (i := 5) (oi := ({ dst := some 61, op := Go.Op.load 22 (Go.Operand.tmp 60), type := 22, pos := _, after := _, guard := none } : Oper)) (v := ?_) rfl (by kernel_rfl) (by kernel_rfl) (by kernel_rfl) (fun _ _ _ h => h) (Or.inl ⟨by rfl, ?_⟩) (by assumption) ?_
          rotate_left
          · (intro w hSw; (try dsimp only at hSw); go_simp; try with_reducible rfl)
          simp only [Act.put, List.setIfInBounds_toArray, List.set_cons_zero, List.set_cons_succ]
          refine wpAnyH_ready (rs := [6, 7]) (by kernel_rfl) (by simp) (AllReadyH.cons (o := ({ dst := some 62, op := Go.Op.call { callee := Go.Callee.value (Go.Operand.func 12), args := #[Go.Operand.tmp 56, Go.Operand.tmp 57, Go.Operand.tmp 61], argTypes := #[24, 24, 22] }, type := 28, pos := _, after := _, guard := none } : Oper)) rfl (fun KK hK => ?_) (AllReadyH.cons (o := ({ dst := some 11, op := Go.Op.alloc 28, type := 0, pos := _, after := _, guard := none } : Oper)) rfl (fun KK hK => ?_) AllReadyH.nil))
          · go_simp
            refine (HC.out.hf _ k (bcat2 hPr.bel hBc) hlt).mono ?_
            rintro x12 U12 ⟨rfl, hl12⟩
            have hBc := bcat2 hBc hl12
            try go_wp2_with fail
            refine hK.out _ _ (hS12 _ hBc) (fun hHeld => ?_)
            clear hK
            try simp only [Act.put, List.setIfInBounds_toArray, List.set_cons_zero, List.set_cons_succ]
            refine wpAnyH_ready (rs := [7]) (by kernel_rfl) (by simp) (AllReadyH.cons (o := ({ dst := some 11, op := Go.Op.alloc 28, type := 0, pos := _, after := _, guard := none } : Oper)) rfl (fun KK hK => ?_) AllReadyH.nil)
            go_simp
            have hge := hBc.size
            have haV := balloc U12 (.cells #[.int .i64 0, .int .i64 0] 28)
            have hBc := bcat2 hBc haV
            have hV := blk0 (w := U12) (T := 28) (.int .i64 0) (.int .i64 0)
            refine hK.out _ _ (hS12 _ hBc) (fun hHeld => ?_)
            clear hK
            try simp only [Act.put, List.setIfInBounds_toArray, List.set_cons_zero, List.set_cons_succ]
            generalize U12.alloc (.cells #[.int .i64 0, .int .i64 0] 28) = WAv at *
            generalize U12.heap.size = vb at *
            refine wpAnyH_ready (rs := [8]) (by kernel_rfl) (by simp) (AllReadyH.cons (o := ({ dst := none, op := Go.Op.store 28 (Go.Operand.tmp 11) (Go.Operand.tmp 62), type := 0, pos := _, after := _, guard := none } : Oper)) rfl (fun KK hK => ?_) AllReadyH.nil)
            obtain ⟨z0, z1, z2, z3⟩ := hV.two
            go_simp
            have hBc := (hBc.setCell (p := ⟨vb, 0, none⟩) hge (.int .i64 (hc k))).setCell (p := ⟨vb, 1, none⟩) hge (.int .i64 (hi k))
            have hV : Blk _ vb 28 [.int .i64 (hc k), .int .i64 (hi k)] := (hV.set 0 (.int .i64 (hc k))).set 1 (.int .i64 (hi k))
            refine hK.out _ _ (hS12 _ hBc) (fun hHeld => ?_)
            clear hK
            try simp only [Act.put, List.setIfInBounds_toArray, List.set_cons_zero, List.set_cons_succ]
            clear z0 z1 z2 z3
            refine wpAnyH_done (by kernel_rfl) ?_ _
            go_wp2
            go_meet
            exact ⟨vb, rfl, hV, hBc⟩
          go_simp
          have hge := hBc.size
          have haV := balloc wd (.cells #[.int .i64 0, .int .i64 0] 28)
          have hBc := bcat2 hBc haV
          have hV := blk0 (w := wd) (T := 28) (.int .i64 0) (.int .i64 0)
          refine hK.out _ _ (hS12 _ hBc) (fun hHeld => ?_)
          clear hK
          try simp only [Act.put, List.setIfInBounds_toArray, List.set_cons_zero, List.set_cons_succ]
          generalize wd.alloc (.cells #[.int .i64 0, .int .i64 0] 28) = WAv at *
          generalize wd.heap.size = vb at *
          refine wpAnyH_ready (rs := [6]) (by kernel_rfl) (by simp) (AllReadyH.cons (o := ({ dst := some 62, op := Go.Op.call { callee := Go.Callee.value (Go.Operand.func 12), args := #[Go.Operand.tmp 56, Go.Operand.tmp 57, Go.Operand.tmp 61], argTypes := #[24, 24, 22] }, type := 28, pos := _, after := _, guard := none } : Oper)) rfl (fun KK hK => ?_) AllReadyH.nil)
          go_simp
          refine (HC.out.hf _ k (bcat2 hPr.bel hBc) hlt).mono ?_
          rintro x12 U12 ⟨rfl, hl12⟩
          have hBc := bcat2 hBc hl12
          have hV := blk_below hV hl12
          try go_wp2_with fail
          refine hK.out _ _ (hS12 _ hBc) (fun hHeld => ?_)
          clear hK
          try simp only [Act.put, List.setIfInBounds_toArray, List.set_cons_zero, List.set_cons_succ]
          refine wpAnyH_ready (rs := [8]) (by kernel_rfl) (by simp) (AllReadyH.cons (o := ({ dst := none, op := Go.Op.store 28 (Go.Operand.tmp 11) (Go.Operand.tmp 62), type := 0, pos := _, after := _, guard := none } : Oper)) rfl (fun KK hK => ?_) AllReadyH.nil)
          obtain ⟨z0, z1, z2, z3⟩ := hV.two
          go_simp
          have hBc := (hBc.setCell (p := ⟨vb, 0, none⟩) hge (.int .i64 (hc k))).setCell (p := ⟨vb, 1, none⟩) hge (.int .i64 (hi k))
          have hV : Blk _ vb 28 [.int .i64 (hc k), .int .i64 (hi k)] := (hV.set 0 (.int .i64 (hc k))).set 1 (.int .i64 (hi k))
          refine hK.out _ _ (hS12 _ hBc) (fun hHeld => ?_)
          clear hK
          try simp only [Act.put, List.setIfInBounds_toArray, List.set_cons_zero, List.set_cons_succ]
          clear z0 z1 z2 z3
          refine wpAnyH_done (by kernel_rfl) ?_ _
          go_wp2
          go_meet
          exact ⟨vb, rfl, hV, hBc⟩
        case rest =>
          obtain ⟨vb, rfl, hV, hbv⟩ := hcut
          have hPc := hPr.below hbv
          obtain ⟨v0, v1', _, _⟩ := hV.two
          obtain ⟨x0, x1, _, _⟩ := hPc.x.two
          have HOO := hide (fun W (h : Below wc.heap.size wc W) => HC.out.oo W k (bcat2 hPc.bel h) hlt HZ.out.1)
          rw [HZ.out.2] at HOO
          rw [HZ.out.1] at v0
          have hS15 : ∀ W, Below wc.heap.size wc W → (Below wc.heap.size wc W ∧ W.cell? ⟨w.heap.size, 0, none⟩ = some (.int .i64 n) ∧ W.cell? ⟨lb, lo + k, none⟩ = some (.slice (ea k) (el k) (ec k))) := fun W h => ⟨h, below_cell h x0, HC.out.cell W (bcat2 hPc.bel h) k hlt⟩
          have hS150 := hS15 _ (bdrew (Below.refl _ wc))
          go_wp2_with fail
          clear x0 x1 v0 v1'
          go_region_held3 (fun W => Below wc.heap.size wc W ∧ W.cell? ⟨w.heap.size, 0, none⟩ = some (.int .i64 n) ∧ W.cell? ⟨lb, lo + k, none⟩ = some (.slice (ea k) (el k) (ec k)))
            (first | exact hS150 | assumption | exact hS15 _ (bcat2 (And.left ‹_›) hl15))
            (first | (go_at_call 13; refine (HOO.out _ (And.left ‹_›)).mono ?_; rintro e15 U15 ⟨rfl, hl15⟩))
          obtain ⟨hB15, _⟩ := ‹Below wc.heap.size wc U15 ∧ _›
          clear hS15 hS150 hl15
          have hPd := hPc.below hB15
          have hRd := HRB.out _ _ _ _ hRr (bcat2 hbv hB15)
          go_wp2
          go_roundw
          case rel => exact ⟨k + 1, by omega, by go_num, hPd, hRd⟩
          case measure => simp [intOf]; omega
      · have hki : ¬ (k : Int) < (m : Int) := by omega
        obtain ⟨b0, b1', _, _⟩ := hPr.b.two
        obtain ⟨x0, x1, _, _⟩ := hPr.x.two
        obtain ⟨y0, y1', _, _⟩ := hPr.y.two
        obtain ⟨g0, g1, _, _⟩ := hPr.g.two
        obtain ⟨f0, f1, _, _⟩ := hPr.f.two
        go_wp2_with fail
        clear x0 x1 y0 y1' g0 g1 f0 f1 b0 b1' hki
        go_loopw [12] (fun iv wr => ∃ k : Nat, k ≤ m ∧ iv = .int .i64 k ∧ PSt w wr wb gb fb n m (.slice v1 v2 v3) (.slice y1 y2 y3) (q) (.slice r1 r2 r3) (0) (0) (0) (0) ∧ RP wr pb (.slice r1 r2 r3)) (fun iv _ => m - (intOf iv).toNat)
        case atStart => exact ⟨0, Nat.zero_le _, rfl, hPr, hRr⟩
        case round =>
          obtain ⟨a, hka, rfl, hPa, hRa⟩ := hrel
          by_cases hla : a < m
          · have hai : (a : Int) < (m : Int) := by omega
            obtain ⟨b0, b1', _, _⟩ := hPa.b.two
            obtain ⟨y0, y1', _, _⟩ := hPa.y.two
            go_wp2_with fail
            clear b0 b1' y0 y1' hai
            go_loopw [13] (fun iv wr => ∃ k : Nat, k ≤ m ∧ iv = .int .i64 k ∧ PSt w wr wb gb fb n m (.slice v1 v2 v3) (.slice y1 y2 y3) (q) (.slice r1 r2 r3) (0) (0) (0) (0) ∧ RP wr pb (.slice r1 r2 r3)) (fun iv _ => m - (intOf iv).toNat)
            case atStart => exact ⟨0, Nat.zero_le _, rfl, hPa, hRa⟩
            case round =>
              obtain ⟨b, hkb, rfl, hPb, hRb⟩ := hrel
              by_cases hlb : b < m
              · have HST := hide (HSF.out a b hla hlb)
                have HIL := hide (fun W u (h : Below w.heap.size w W) (hu : TP W a b u) => HC.out.il W a b u h hla hlb hu)
                rw [HST.out] at HIL
                have HTH := hide (fun W (h : Below w.heap.size w W) => HC.out.th HFN.out W a b h hla hlb)
                have HTT := hide (fun W (h : Below w.heap.size w W) => HC.out.tm W a b h hla hlb)
                have htl := HC.out.tl a b hla hlb
                have hai : (a : Int) < (m : Int) := by omega
                have hbi : (b : Int) < (m : Int) := by omega
                have hti : ((TM a b : Nat) : Int) < (m : Int) := by omega
                obtain ⟨b0, b1', _, _⟩ := hPb.b.two
                obtain ⟨y0, y1', _, _⟩ := hPb.y.two
                have hS23 : ∀ W, Below wr.heap.size wr W → (Below wr.heap.size wr W ∧ W.cell? ⟨w.heap.size + 1, 0, none⟩ = some (.int .i64 m) ∧ W.cell? ⟨w.heap.size + 1, 1, none⟩ = some (.slice y1 y2 y3) ∧ W.cell? ⟨lb, lo + a, none⟩ = some (.slice (ea a) (el a) (ec a)) ∧ W.cell? ⟨lb, lo + b, none⟩ = some (.slice (ea b) (el b) (ec b)) ∧ W.cell? ⟨lb, lo + TM a b, none⟩ = some (.slice (ea (TM a b)) (el (TM a b)) (ec (TM a b)))) := fun W h => ⟨h, below_cell h y0, below_cell h y1', HC.out.cell W (bcat2 hPb.bel h) a hla, HC.out.cell W (bcat2 hPb.bel h) b hlb, HC.out.cell W (bcat2 hPb.bel h) _ htl⟩
                have hS230 := hS23 _ (bdrew (Below.refl _ wr))
                go_wp2_with fail
                clear b0 b1' y0 y1'
                go_region_held3 (fun W => Below wr.heap.size wr W ∧ W.cell? ⟨w.heap.size + 1, 0, none⟩ = some (.int .i64 m) ∧ W.cell? ⟨w.heap.size + 1, 1, none⟩ = some (.slice y1 y2 y3) ∧ W.cell? ⟨lb, lo + a, none⟩ = some (.slice (ea a) (el a) (ec a)) ∧ W.cell? ⟨lb, lo + b, none⟩ = some (.slice (ea b) (el b) (ec b)) ∧ W.cell? ⟨lb, lo + TM a b, none⟩ = some (.slice (ea (TM a b)) (el (TM a b)) (ec (TM a b))))
                  (first | exact hS230 | assumption | exact hS23 _ (bcat2 (And.left ‹_›) hl25) | exact hS23 _ (bcat2 (And.left ‹_›) hl24) | exact hS23 _ (bcat2 (And.left ‹_›) hl23))
                  (first
                    | (go_at_call 15; refine (HTT.out _ (bcat2 hPb.bel (And.left ‹_›))).mono ?_; rintro e23 U23 ⟨rfl, hl23⟩)
                    | (go_at_call 16; refine (HTH.out _ (bcat2 hPb.bel (And.left ‹_›))).mono ?_; rintro e24 U24 ⟨t1, t2, t3, rfl, hTP24, hl24⟩)
                    | (go_at_call 14; refine (HIL.out _ _ (bcat2 hPb.bel (And.left ‹_›)) hTP24).mono ?_; rintro e25 U25 ⟨rfl, hl25⟩))
                obtain ⟨hB25, _⟩ := ‹Below wr.heap.size wr U25 ∧ _›
                clear hS23 hS230 hl25 hl24 hl23 hTP24 HIL HTH HTT
                have hPd := hPb.below hB25
                have hRd := HRB.out _ _ _ _ hRb hB25
                go_wp2
                go_roundw
                case rel => exact ⟨b + 1, by omega, by go_num, hPd, hRd⟩
                case measure => simp [intOf]; omega
              · have hbi : ¬ (b : Int) < (m : Int) := by omega
                obtain ⟨b0, b1', _, _⟩ := hPb.b.two
                obtain ⟨y0, y1', _, _⟩ := hPb.y.two
                go_wp2
                go_roundw
                case rel => exact ⟨a + 1, by omega, by go_num, hPb, hRb⟩
                case measure => simp [intOf]; omega
          · have hai : ¬ (a : Int) < (m : Int) := by omega
            obtain ⟨x0, x1, _, _⟩ := hPa.x.two
            obtain ⟨y0, y1', _, _⟩ := hPa.y.two
            obtain ⟨g0, g1, _, _⟩ := hPa.g.two
            obtain ⟨f0, f1, _, _⟩ := hPa.f.two
            obtain ⟨b0, b1', _, _⟩ := hPa.b.two
            go_wp2_with fail
            clear x0 x1 y0 y1' g0 g1 f0 f1 b0 b1'
            go_loopw [14] (fun iv wr => ∃ k : Nat, k ≤ q ∧ iv = .int .i64 k ∧ PSt w wr wb gb fb n m (.slice v1 v2 v3) (.slice y1 y2 y3) (q) (.slice r1 r2 r3) (0) (0) (0) (0) ∧ RP wr pb (.slice r1 r2 r3)) (fun iv _ => q - (intOf iv).toNat)
            case atStart => exact ⟨0, Nat.zero_le _, rfl, hPa, hRa⟩
            case round =>
              obtain ⟨i, hki9, rfl, hPi, hRi⟩ := hrel
              obtain ⟨g0, g1, _, _⟩ := hPi.g.two
              by_cases hli : i < q
              · have hii : (i : Int) < (q : Int) := by omega
                go_wp2_with fail
                clear g0 g1
                go_loopw [15] (fun iv wr => ∃ k : Nat, k ≤ q ∧ iv = .int .i64 k ∧ PSt w wr wb gb fb n m (.slice v1 v2 v3) (.slice y1 y2 y3) (q) (.slice r1 r2 r3) (0) (0) (0) (0) ∧ RP wr pb (.slice r1 r2 r3)) (fun iv _ => q - (intOf iv).toNat)
                case atStart => exact ⟨0, Nat.zero_le _, rfl, hPi, hRi⟩
                case round =>
                  obtain ⟨k, hkk9, rfl, hPk, hRk⟩ := hrel
                  by_cases hlk : k < q
                  · obtain ⟨hi1, hi2, hsf⟩ := HSQ.out i k hli hlk
                    obtain ⟨hk1, hk2, _⟩ := HSQ.out k i hlk hli
                    have HM1 := hide (fun W u (h : Below w.heap.size w W) (hu : RP W pb u) => HMG.out W pb u i k h hu hli hlk)
                    have hf9 := HFL.out (i % m) (k / m) hi2 hk1
                    have HM2 := hide (fun W (h : Below w.heap.size w W) => HMN.out W (i / m) (φ (i % m) (k / m)) h hi1 hf9)
                    have HM3 := hide (fun W (h : Below w.heap.size w W) => HC.out.tm W (i % m) (k % m) h hi2 hk2)
                    have ht2 := HTL.out (i / m) (φ (i % m) (k / m)) hi1 hf9
                    have ht3 := HC.out.tl (i % m) (k % m) hi2 hk2
                    have hlc := fun W (h : Below w.heap.size w W) => HC.out.cell W h (i % m) hi2
                    rw [(HEA.out (i % m) hi2).1, (HEA.out (i % m) hi2).2] at hlc
                    have hrc := fun W (h : Below w.heap.size w W) => HRC.out W (i % m) (k / m) h hi2 hk1
                    have z1 := ndiv0 (x := i) (y := m)
                    have z2 := ndiv0 (x := k) (y := m)
                    have z3 := nmod0 (x := (i : Int)) (y := i) (m := m) rfl
                    have z4 := nmod0 (x := (k : Int)) (y := k) (m := m) rfl
                    have hprod : TN (i / m) (φ (i % m) (k / m)) * m ≤ 3600 := Nat.le_trans (Nat.mul_le_mul (Nat.le_of_lt (Nat.lt_of_lt_of_le ht2 hn60)) hm60) (by decide)
                    have hmul : ((TN (i / m) (φ (i % m) (k / m)) : Nat) : Int) * (m : Int) = ((TN (i / m) (φ (i % m) (k / m)) * m : Nat) : Int) := by rw [Int.natCast_mul]
                    obtain ⟨p9, hp9⟩ : ∃ p9, p9 = TN (i / m) (φ (i % m) (k / m)) * m := ⟨_, rfl⟩
                    rw [← hp9] at hprod hmul hsf
                    clear hp9
                    generalize TN (i / m) (φ (i % m) (k / m)) = t2 at *
                    generalize hF9 : φ (i % m) (k / m) = f9 at *
                    clear hF9
                    generalize TM (i % m) (k % m) = t3 at *
                    generalize i / m = e1 at *
                    generalize k / m = e2 at *
                    generalize i % m = e3 at *
                    generalize k % m = e4 at *
                    generalize SF i k = s9 at *
                    have HSS := hide hsf
                    have hss : ((s9 : Nat) : Int) = (p9 : Int) + (t3 : Int) := by omega
                    clear hsf
                    have u1 : IntKind.i64.wrap (e1 : Int) = (e1 : Int) := by rw [IntKind.wrap_i64]; omega
                    have u2 : IntKind.i64.wrap (e2 : Int) = (e2 : Int) := by rw [IntKind.wrap_i64]; omega
                    have u3 : IntKind.i64.wrap (p9 : Int) = (p9 : Int) := by rw [IntKind.wrap_i64]; omega
                    have u4 : IntKind.i64.wrap ((p9 : Int) + (t3 : Int)) = (p9 : Int) + (t3 : Int) := by rw [IntKind.wrap_i64]; omega
                    have hneb : (((s9 : Nat) : Int) != (p9 : Int) + (t3 : Int)) = false := by simp [hss]
                    have HSX := hide hss
                    clear hss
                    have hm0 : ¬ ((m : Int) = 0) := by omega
                    have hmz : ¬ m = 0 := by omega
                    have hmb : ((m : Int) == 0) = false := by simp; omega
                    have e3i : (e3 : Int) < (m : Int) := by omega
                    have e2i : (e2 : Int) < (n : Int) := by omega
                    obtain ⟨x0, x1, _, _⟩ := hPk.x.two
                    obtain ⟨y0, y1', _, _⟩ := hPk.y.two
                    obtain ⟨g0, g1, _, _⟩ := hPk.g.two
                    have hS39 : ∀ W, Below wr.heap.size wr W → (Below wr.heap.size wr W ∧ W.cell? ⟨w.heap.size, 0, none⟩ = some (.int .i64 n) ∧ W.cell? ⟨w.heap.size, 1, none⟩ = some (.slice v1 v2 v3) ∧ W.cell? ⟨w.heap.size + 1, 0, none⟩ = some (.int .i64 m) ∧ W.cell? ⟨w.heap.size + 1, 1, none⟩ = some (.slice y1 y2 y3) ∧ W.cell? ⟨gb, 0, none⟩ = some (.int .i64 q) ∧ W.cell? ⟨gb, 1, none⟩ = some (.slice r1 r2 r3) ∧ W.cell? ⟨lb, lo + e3, none⟩ = some (.slice (some ⟨rb e3, ro e3, none⟩) n (ec e3)) ∧ W.cell? ⟨rb e3, ro e3 + e2, none⟩ = some (.int .i64 ((f9 : Nat) : Int))) := fun W h => ⟨h, below_cell h x0, below_cell h x1, below_cell h y0, below_cell h y1', below_cell h g0, below_cell h g1, hlc W (bcat2 hPk.bel h), hrc W (bcat2 hPk.bel h)⟩
                    have hS390 := hS39 _ (bdrew (Below.refl _ wr))
                    have hki : (k : Int) < (q : Int) := by omega
                    go_wp2_with fail
                    clear x0 x1 y0 y1' g0 g1 hlc hrc
                    go_region_held3 (fun W => Below wr.heap.size wr W ∧ W.cell? ⟨w.heap.size, 0, none⟩ = some (.int .i64 n) ∧ W.cell? ⟨w.heap.size, 1, none⟩ = some (.slice v1 v2 v3) ∧ W.cell? ⟨w.heap.size + 1, 0, none⟩ = some (.int .i64 m) ∧ W.cell? ⟨w.heap.size + 1, 1, none⟩ = some (.slice y1 y2 y3) ∧ W.cell? ⟨gb, 0, none⟩ = some (.int .i64 q) ∧ W.cell? ⟨gb, 1, none⟩ = some (.slice r1 r2 r3) ∧ W.cell? ⟨lb, lo + e3, none⟩ = some (.slice (some ⟨rb e3, ro e3, none⟩) n (ec e3)) ∧ W.cell? ⟨rb e3, ro e3 + e2, none⟩ = some (.int .i64 ((f9 : Nat) : Int)))
                      (first | exact hS390 | assumption | exact hS39 _ (bcat2 (And.left ‹_›) hl33) | exact hS39 _ (bcat2 (And.left ‹_›) hl32) | exact hS39 _ (bcat2 (And.left ‹_›) hl31))
                      (first
                        | (go_at_call_of 15 (Value.agg #[Value.int IntKind.i64 (q : Int), Value.slice r1 r2 r3]); refine (HM1.out _ _ (bcat2 hPk.bel (And.left ‹_›)) (HRB.out _ _ _ _ hRk (And.left ‹_›))).mono ?_; rintro e31 U31 ⟨rfl, hl31⟩)
                        | (go_at_call_of 15 (Value.agg #[Value.int IntKind.i64 (n : Int), Value.slice v1 v2 v3]); refine (HM2.out _ (bcat2 hPk.bel (And.left ‹_›))).mono ?_; rintro e32 U32 ⟨rfl, hl32⟩)
                        | (go_at_call_of 15 (Value.agg #[Value.int IntKind.i64 (m : Int), Value.slice y1 y2 y3]); refine (HM3.out _ (bcat2 hPk.bel (And.left ‹_›))).mono ?_; rintro e33 U33 ⟨rfl, hl33⟩))
                    obtain ⟨hB33, _⟩ := ‹Below wr.heap.size wr U33 ∧ _›
                    clear hS39 hS390
                    have hPd := hPk.below hB33
                    have hRd := HRB.out _ _ _ _ hRk hB33
                    go_wp2
                    go_roundw
                    case rel => exact ⟨k + 1, by omega, by go_num, hPd, hRd⟩
                    case measure => simp [intOf]; omega
                  · have hki : ¬ (k : Int) < (q : Int) := by omega
                    obtain ⟨g0, g1, _, _⟩ := hPk.g.two
                    go_wp2
                    go_roundw
                    case rel => exact ⟨i + 1, by omega, by go_num, hPk, hRk⟩
                    case measure => simp [intOf]; omega
              · have hii : ¬ (i : Int) < (q : Int) := by omega
                go_wp2_with fail
                clear g0 g1
                refine (HGF.out _ _ _ hPi.bel hRi).mono ?_
                rintro x9 w9 ⟨rfl, hb9⟩
                have hfd := field27 0 0 w9
                go_wp2
                go_ret
                exact ⟨rfl, bcat2 hPi.bel hb9⟩
end Go.Proofs.YtanbpjfdfnmjpaaDoor

namespace Go.Proofs.YtanbpjfdfnmjpaaDoor
open Go Go.RowKit

set_option maxRecDepth 100000 in
set_option maxHeartbeats 4000000 in
theorem psem_short (N M : Int) (v1 : Option Addr) (v2 v3 : Nat) (y1 : Option Addr) (y2 y3 : Nat) (l1 : Option Addr) (LL l3 : Nat) (w : World) (hLL : 100 < LL) (hT : Tab w) :
    Calls Tryd.prog 3 #[.agg #[.int .i64 N, .slice v1 v2 v3], .agg #[.int .i64 M, .slice y1 y2 y3], .slice l1 LL l3] w fun x w' => x = .returned (.bool true) ∧ Below w.heap.size w w' := by
  have hL3 : (100 : Int) < (LL : Int) := by omega
  obtain ⟨w0, hw0⟩ : ∃ w0, w0 = (w.alloc (.cells #[.int .i64 N, .slice v1 v2 v3] 24)).alloc (.cells #[.int .i64 M, .slice y1 y2 y3] 24) := ⟨_, rfl⟩
  have hB0 : Below w.heap.size w w0 := by rw [hw0]; exact (balloc w _).alloc (by simp) _
  go_enter Tryd.func3, Tryd.ntmps3
  go_wp2_with fail
  rw [← hw0]
  clear hw0
  refine (prodBegun_any w0 (hT.below hB0)).mono ?_
  rintro x1 w1 ⟨rfl, hb1⟩
  go_wp2
  go_ret
  exact ⟨rfl, bcat2 hB0 hb1⟩
set_option maxRecDepth 100000 in
theorem noG_ok (w : World) : Calls Tryd.prog 17 #[.agg #[.int .i64 0, .slice none 0 0]] w fun x w' => x = .returned (.bool true) ∧ Below w.heap.size w w' := by
  have h0 : Blk (w.alloc (.cells #[.int .i64 0, .slice none 0 0] 24)) w.heap.size 24 [.int .i64 0, .slice none 0 0] := blk0 _ _
  obtain ⟨c0, c1, _, _⟩ := h0.two
  go_enter Tryd.func17, Tryd.ntmps17
  go_wp2
  go_ret
  exact ⟨rfl, balloc w _⟩
/-- A list of lists, its rows by functions. -/
theorem lists_at {w : World} {lv : Value} {ls : List (List Int)} (h : SlL w lv ls) (hp : 0 < ls.length) : ∃ lb lo lc, ∃ (ea : Nat → Option Addr) (el ec : Nat → Nat), lv = .slice (some ⟨lb, lo, none⟩) ls.length lc ∧ lb < w.heap.size ∧ ∀ i, i < ls.length → w.cell? ⟨lb, lo + i, none⟩ = some (.slice (ea i) (el i) (ec i)) ∧ Sl w (.slice (ea i) (el i) (ec i)) (ls[i]?.getD []) := by
  obtain ⟨la, lc, lb, lo, rfl, h1, h2, h3, _, _⟩ := h
  obtain rfl := h1 hp
  have h4 : ∀ i, ∃ t : Option Addr × Nat × Nat, i < ls.length → w.cell? ⟨lb, lo + i, none⟩ = some (.slice t.1 t.2.1 t.2.2) ∧ Sl w (.slice t.1 t.2.1 t.2.2) (ls[i]?.getD []) := fun i => by
    by_cases hi : i < ls.length
    · obtain ⟨x, hx, hs⟩ := h2 i hi
      obtain ⟨a, l, c, rfl⟩ := hs.isSlice
      exact ⟨(a, l, c), fun _ => ⟨hx, hs⟩⟩
    · exact ⟨(none, 0, 0), fun h => absurd h hi⟩
  obtain ⟨f, hf⟩ := Classical.skolem.1 h4
  exact ⟨lb, lo, lc, fun i => (f i).1, fun i => (f i).2.1, fun i => (f i).2.2, rfl, h3, hf⟩
/-- Where no entry is wrong: what the document says of two entries. -/
theorem then_st {n m e d : Nat} {zs ys : List Int} {ls : List (List Int)} (g1 : IsGrp n zs e) (g2 : IsGrp m ys d) (h0 : ∀ t, t < m → cent n zs (ls[t]?.getD []) = 0) {a b : Nat} (ha : a < m) (hb : b < m) :
    decide (ls[tm m ys a b]?.getD [] = (ls[b]?.getD []).map fun x => (ls[a]?.getD [])[x.toNat]?.getD 0) = !((List.range n).any fun y => decide (actf ls (tm m ys a b) y ≠ actf ls a (actf ls b y))) := by
  have ht := tm_lt g2.tab ha hb
  obtain ⟨ka, ea, _⟩ := cent_row g1 (h0 a ha)
  obtain ⟨kb, eb, _⟩ := cent_row g1 (h0 b hb)
  obtain ⟨kt, et, _⟩ := cent_row g1 (h0 _ ht)
  have hmap : (ls[b]?.getD []).map (fun x => (ls[a]?.getD [])[x.toNat]?.getD 0) = li ((List.range n).map fun y => actf ls a (actf ls b y)) := by
    rw [eb, ea]
    unfold li
    simp only [List.map_map]
    refine List.map_congr_left fun y hy => ?_
    have hy' := List.mem_range.1 hy
    have hlt := kb.lt y hy'
    simp only [Function.comp_apply, Int.toNat_natCast]
    show _ = ((actf ls a (actf ls b y) : Nat) : Int)
    have hlt2 : actf ls b y < n := hlt
    rw [show ((ls[b]?.getD [])[y]?.getD 0).toNat = actf ls b y from rfl]
    rw [List.getElem?_map, List.getElem?_range hlt2]
    rfl
  rw [hmap, Bool.eq_iff_iff, decide_eq_true_eq, Bool.not_eq_true']
  constructor
  · intro h
    refine Classical.byContradiction fun h9 => ?_
    rw [Bool.not_eq_false, List.any_eq_true] at h9
    obtain ⟨y, hy, h8⟩ := h9
    refine of_decide_eq_true h8 ?_
    have hy' := List.mem_range.1 hy
    have := congrArg (fun l => (l[y]?.getD 0).toNat) h
    have h7 : ((ls[tm m ys a b]?.getD [])[y]?.getD 0).toNat = actf ls a (actf ls b y) := by simpa [li, hy'] using this
    exact h7
  · intro h
    rw [et]
    refine congrArg li (List.map_congr_left fun y hy => ?_)
    have h8 := (List.any_eq_false.1 h) y hy
    exact Classical.byContradiction fun h9 => h8 (decide_eq_true h9)
end Go.Proofs.YtanbpjfdfnmjpaaDoor

namespace Go.Proofs.YtanbpjfdfnmjpaaDoor
open Go Go.RowKit

/-- A slice whose row begins in block pb. -/
def SlAt (T : List Int) (W : World) (pb : Nat) (u : Value) : Prop := ∃ a cap po, u = .slice a T.length cap ∧ Reads W a pb po T ∧ pb < W.heap.size ∧ T.length ≤ cap ∧ cap ≤ maxLen
theorem SlAt.sl {T : List Int} {W : World} {pb : Nat} {u : Value} (h : SlAt T W pb u) : Sl W u T := by
  obtain ⟨a, cap, po, h1, h2, h3, h4, h5⟩ := h
  exact ⟨a, cap, pb, po, h1, h2, h3, h4, h5⟩
theorem SlAt.below {T : List Int} {W W' : World} {pb : Nat} {u : Value} (h : SlAt T W pb u) (hb : Below W.heap.size W W') : SlAt T W' pb u := by
  obtain ⟨a, cap, po, h1, h2, h3, h4, h5⟩ := h
  exact ⟨a, cap, po, h1, h2.below hb h3, Nat.lt_of_lt_of_le h3 hb.size, h4, h5⟩
theorem SlAt.set {T : List Int} {W : World} {pb : Nat} {u : Value} (h : SlAt T W pb u) {b k : Nat} {x : Value} (hb : pb ≠ b) : SlAt T (W.setCell ⟨b, k, none⟩ x) pb u := by
  obtain ⟨a, cap, po, h1, h2, h3, h4, h5⟩ := h
  exact ⟨a, cap, po, h1, h2.of_eq (Below.heap_setCell _ _ _ _ hb), by rw [size_set]; exact h3, h4, h5⟩
theorem li_at' {n a : Nat} {f : Nat → Nat} (h : a < n) : (li ((List.range n).map f))[a]?.getD 0 = ((f a : Nat) : Int) := by simp [li, h]
/-- What the two first loops call. -/
theorem cprem {n m e d : Nat} {zs ys : List Int} {ls : List (List Int)} {w : World} {v y : Value} {lb lo : Nat} {ea : Nat → Option Addr} {el ec : Nat → Nat} (hv : Sl w v zs) (hy : Sl w y ys) (g1 : IsGrp n zs e) (g2 : IsGrp m ys d) (hl : ls.length = m) (hlb : lb < w.heap.size) (hT : Tab w)
    (hc : ∀ i, i < ls.length → w.cell? ⟨lb, lo + i, none⟩ = some (.slice (ea i) (el i) (ec i)) ∧ Sl w (.slice (ea i) (el i) (ec i)) (ls[i]?.getD [])) :
    CPrem w n m v y lb lo ea el ec (fun i => (hfault n zs n zs (ls[i]?.getD [])).1) (fun i => (hfault n zs n zs (ls[i]?.getD [])).2) (fun i => o1 n (ls[i]?.getD [])) (fun a b => (List.range n).any fun y => decide (actf ls (tm m ys a b) y ≠ actf ls a (actf ls b y))) (tm m ys)
      (fun W a b u => (∀ t, t < m → cent n zs (ls[t]?.getD []) = 0) ∧ Sl W u ((ls[b]?.getD []).map fun x => (ls[a]?.getD [])[x.toNat]?.getD 0)) where
  cell := fun W hW i hi => low_cell hW hlb (hc i (by omega)).1
  hf := fun W i hW hi => _root_.Go.Proofs.YtanbpjfdfnmjpaaDoor.Go.Proofs.YtanbpjfdfnmjpaaDoor.Go.Proofs.YtanbpjfdfnmjpaaDoor.rhom_any n n v v _ zs zs _ W (hv.below hW) (hv.below hW) ((hc i (by omega)).2.below hW)
  oo := fun W i hW hi hz => one_ok n _ _ W ((hc i (by omega)).2.below hW) (hom_of g1 g1 hz).2.1 (by have := g1.tab.le; omega)
  tm := fun W a b hW ha hb => M_ok m y ys a b W g2.tab (hy.below hW) ha hb
  tl := fun a b ha hb => tm_lt g2.tab ha hb
  th := fun hfine W a b hW ha hb => by
    have h0 : ∀ t, t < m → cent n zs (ls[t]?.getD []) = 0 := fun t ht => by
      unfold cent
      rw [if_neg (by simpa using (hfine t ht).1), if_pos (hfine t ht).2]
    obtain ⟨ka, ea', _⟩ := cent_row g1 (h0 a ha)
    obtain ⟨kb, eb', _⟩ := cent_row g1 (h0 b hb)
    have hlb : (ls[b]?.getD []).length = n := by rw [eb', li_len, List.length_map, List.length_range]
    have hla : (ls[a]?.getD []).length = n := by rw [ea', li_len, List.length_map, List.length_range]
    have hn := g1.tab.le
    refine (_root_.Go.Proofs.YtanbpjfdfnmjpaaDoor.Go.Proofs.YtanbpjfdfnmjpaaDoor.Go.Proofs.YtanbpjfdfnmjpaaDoor.then_ok _ _ (ls[b]?.getD []) (ls[a]?.getD []) W ((hc b (by omega)).2.below hW) ((hc a (by omega)).2.below hW) (fun k hk => ?_) (by omega)).mono ?_
    · refine ⟨((ls[b]?.getD [])[k]?.getD 0).toNat, ?_, ?_⟩
      · conv => lhs; rw [eb']
        rw [li_at' (by omega)]
      · rw [hla]; exact kb.lt k (by omega)
    · rintro x W' ⟨r, rfl, hr, hb'⟩
      have h9 := row_sl hr (Nat.lt_of_lt_of_le hT.lt (Nat.le_trans hW.size hb'.size))
      obtain ⟨r1, r2, r3, rfl⟩ := h9.isSlice
      exact ⟨r1, r2, r3, rfl, ⟨h0, h9⟩, hb'⟩
  il := fun W a b u hW ha hb hu => by
    have := ints_any _ u (ls[tm m ys a b]?.getD []) _ W ((hc _ (by have := tm_lt g2.tab ha hb; omega)).2.below hW) hu.2
    rw [then_st g1 g2 hu.1 ha hb] at this
    exact this
/-- Rows of an act by their places. -/
theorem act_rows {n m e : Nat} {zs : List Int} {ls : List (List Int)} {w : World} {ea : Nat → Option Addr} {el ec : Nat → Nat} (g1 : IsGrp n zs e) (hl : ls.length = m) (hc : ∀ i, i < ls.length → Sl w (.slice (ea i) (el i) (ec i)) (ls[i]?.getD [])) (h0 : ∀ t, t < m → cent n zs (ls[t]?.getD []) = 0) :
    ∃ rb ro : Nat → Nat, ∀ i, i < m → ea i = some ⟨rb i, ro i, none⟩ ∧ el i = n ∧ rb i < w.heap.size ∧ ∀ y, y < n → w.cell? ⟨rb i, ro i + y, none⟩ = some (.int .i64 ((actf ls i y : Nat) : Int)) := by
  have h4 : ∀ i, ∃ t : Nat × Nat, i < m → ea i = some ⟨t.1, t.2, none⟩ ∧ el i = n ∧ t.1 < w.heap.size ∧ ∀ y, y < n → w.cell? ⟨t.1, t.2 + y, none⟩ = some (.int .i64 ((actf ls i y : Nat) : Int)) := fun i => by
    by_cases hi : i < m
    · obtain ⟨_, er, _⟩ := cent_row g1 (h0 i hi)
      have hlen : (ls[i]?.getD []).length = n := by rw [er, li_len, List.length_map, List.length_range]
      obtain ⟨a, cap, pb, po, he, hr, hp, _, _⟩ := hc i (by omega)
      injection he with e1 e2 e3
      have hn1 : 1 ≤ n := Nat.lt_of_le_of_lt (Nat.zero_le _) g1.elt
      refine ⟨(pb, po), fun _ => ⟨by rw [e1]; exact hr.at_ (by omega), by rw [e2, hlen], hp, fun y hy => ?_⟩⟩
      rw [hr.cell y (by omega)]
      conv => lhs; rw [er]
      rw [li_at' (by omega)]
      rfl
    · exact ⟨(0, 0), fun h => absurd h hi⟩
  obtain ⟨f, hf⟩ := Classical.skolem.1 h4
  exact ⟨fun i => (f i).1, fun i => (f i).2, hf⟩
set_option maxRecDepth 100000 in
set_option maxHeartbeats 4000000 in
theorem psem_law (N M : Int) (v y lv : Value) (zs ys : List Int) (ls : List (List Int)) (w : World) (hv : Sl w v zs) (hy : Sl w y ys) (hL : SlL w lv ls) (hT : Tab w) (cv : zs.length * 8 ≤ 140737488355328) (cy : ys.length * 8 ≤ 140737488355328) (cl : ∀ j, j < ls.length → (ls[j]?.getD []).length * 8 ≤ 140737488355328) :
    Calls Tryd.prog 3 #[.agg #[.int .i64 N, v], .agg #[.int .i64 M, y], lv] w fun x w' => x = .returned (.bool true) ∧ Below w.heap.size w w' := by
  obtain ⟨v1, v2, v3, rfl⟩ := hv.isSlice
  obtain ⟨y1, y2, y3, rfl⟩ := hy.isSlice
  obtain ⟨l1, l2, l3, rfl⟩ := hL.isSlice
  obtain rfl : l2 = ls.length := by
    obtain ⟨a, cap, pb, po, he, _⟩ := id hL
    injection he with _ h _
  by_cases h100' : ¬ ls.length ≤ 100
  · exact psem_short N M v1 v2 v3 y1 y2 y3 l1 ls.length l3 w (by omega) hT
  have h100 : ls.length ≤ 100 := Classical.not_not.1 h100'
  clear h100'
  have HBE : ∀ W, Below w.heap.size w W → Calls Tryd.prog 6 #[] W fun x W' => x = .returned (.bool true) ∧ Below W.heap.size W W' := fun W hW => prodBegun_any W (hT.below hW)
  have HOG : ∀ (K : Int) (a1 : Option Addr) (a2 a3 : Nat) (xs : List Int), Sl w (.slice a1 a2 a3) xs → xs.length * 8 ≤ 140737488355328 → ∀ W, Below w.heap.size w W → Calls Tryd.prog 8 #[.agg #[.int .i64 K, .slice a1 a2 a3]] W fun x W' => ∃ u1 u2 u3, x = .returned (.agg #[.int .i64 K, .slice u1 u2 u3]) ∧ Sl W' (.slice u1 u2 u3) xs ∧ Below W.heap.size W W' := fun K a1 a2 a3 xs hx cx W hW => by
    refine (ownGroup_any K (.slice a1 a2 a3) xs W (hx.below hW) cx).mono ?_
    rintro x W' ⟨u, rfl, hu, hb⟩
    obtain ⟨u1, u2, u3, rfl⟩ := hu.isSlice
    exact ⟨u1, u2, u3, rfl, hu, hb⟩
  have HOL : ∀ W, Below w.heap.size w W → Calls Tryd.prog 9 #[.slice l1 ls.length l3] W fun x W' => ∃ u1 u2 u3, x = .returned (.slice u1 u2 u3) ∧ SlL W' (.slice u1 u2 u3) ls ∧ Below W.heap.size W W' := fun W hW => ownLists_any _ ls W (hL.below hW) h100 cl
  have HTW : ∀ W, Below w.heap.size w W → Calls Tryd.prog 10 #[.agg #[.int .i64 N, .slice v1 v2 v3], .agg #[.int .i64 M, .slice y1 y2 y3]] W fun x W' => x = .returned (.agg #[.int .i64 (twofault N zs M ys).1, .int .i64 (twofault N zs M ys).2]) ∧ Below W.heap.size W W' := fun W hW => rtwo_any N M _ _ zs ys W (hv.below hW) (hy.below hW)
  have HNG := fun W => noG_ok W
  -- what Semi answers where something is wrong
  have HSB : (semc N zs M ys ls).1 ≠ 0 → ∀ W a b l, Below w.heap.size w W → Sl W a zs → Sl W b ys → SlL W l ls → Calls Tryd.prog 7 #[.agg #[.int .i64 N, a], .agg #[.int .i64 M, b], l] W fun x W' => ∃ r1 r2 r3 pb, x = .returned (.tuple #[.agg #[.int .i64 0, .slice r1 r2 r3], .agg #[.int .i64 (semc N zs M ys ls).1, .int .i64 (semc N zs M ys ls).2]]) ∧ (fun (_ : World) (_ : Nat) (u : Value) => u = .slice none 0 0) W' pb (.slice r1 r2 r3) ∧ (false = true → W.heap.size ≤ pb) ∧ Below W.heap.size W W' := fun hbad W a b l hW ha hb hl => by
    refine (semi_any N M a b l zs ys ls W ha hb hl (hT.below hW)).mono ?_
    rintro x W' ⟨g, rfl, h1, _, hb'⟩
    rw [h1 hbad]
    exact ⟨none, 0, 0, 0, rfl, rfl, (fun h => by cases h), hb'⟩
  have hnil : ∀ (W : World) (pb : Nat) (r1 : Option Addr) (r2 r3 : Nat), (fun (_ : World) (_ : Nat) (u : Value) => u = .slice none 0 0) W pb (.slice r1 r2 r3) → r1 = none ∧ r2 = 0 ∧ r3 = 0 := fun W pb r1 r2 r3 h => by
    injection (show Value.slice r1 r2 r3 = .slice none 0 0 from h) with a b c
    exact ⟨a, b, c⟩
  by_cases ht : ¬ (twofault N zs M ys).1 = 0
  · have hs : semc N zs M ys ls = twofault N zs M ys := if_pos ht
    exact psem_a N M v1 v2 v3 y1 y2 y3 l1 ls.length l3 (twofault N zs M ys).1 (twofault N zs M ys).2 (semc N zs M ys ls).1 (semc N zs M ys ls).2 0 false w h100 (fun W u => Sl W u zs) (fun W u => Sl W u ys) (fun W u => SlL W u ls) (fun _ _ u => u = .slice none 0 0)
      (hide fun _ _ _ h hb => h.below hb) (hide fun _ _ _ h hb => h.below hb) (hide fun _ _ _ h hb => h.below hb) (hide fun _ _ _ _ h _ => h) (hide fun _ _ _ _ _ _ h _ => h) (hide fun _ _ _ _ h => by cases h)
      (hide HBE) (hide (HOG N v1 v2 v3 zs hv cv)) (hide (HOG M y1 y2 y3 ys hy cy)) (hide HOL) (hide (HSB (by rw [hs]; exact ht))) (hide HTW) (hide HNG) ⟨ht, by rw [hs], by rw [hs], rfl, hnil⟩
  have ht : (twofault N zs M ys).1 = 0 := Classical.not_not.1 ht
  obtain ⟨n, e, rfl, g1, hg0⟩ : ∃ n e : Nat, N = n ∧ IsGrp n zs e ∧ gfault N zs = (0, 0) := by
    by_cases h1 : (gfault N zs).1 = 0
    · exact gfault_grp h1
    · unfold twofault at ht; rw [if_pos h1] at ht; exact absurd ht h1
  obtain ⟨m, d, rfl, g2, hh0⟩ : ∃ m d : Nat, M = m ∧ IsGrp m ys d ∧ gfault M ys = (0, 0) := by
    unfold twofault at ht
    rw [hg0, if_neg (by simp)] at ht
    exact gfault_grp ht
  have htwo : twofault n zs m ys = (0, 0) := by unfold twofault; rw [hg0, if_neg (by simp), hh0]
  rw [htwo] at HTW
  have hn := g1.tab.le
  have hm := g2.tab.le
  have hn1 : 1 ≤ n := Nat.lt_of_le_of_lt (Nat.zero_le _) g1.elt
  have hm1 : 1 ≤ m := Nat.lt_of_le_of_lt (Nat.zero_le _) g2.elt
  by_cases hl : ¬ ls.length = m
  · have hs : semc n zs m ys ls = (8, 0) := by unfold semc; rw [if_neg (by simpa using ht), if_pos (by omega)]
    exact psem_b n m v1 v2 v3 y1 y2 y3 l1 ls.length l3 0 0 (semc n zs m ys ls).1 (semc n zs m ys ls).2 0 false w h100 (fun W u => Sl W u zs) (fun W u => Sl W u ys) (fun W u => SlL W u ls) (fun _ _ u => u = .slice none 0 0)
      (hide fun _ _ _ h hb => h.below hb) (hide fun _ _ _ h hb => h.below hb) (hide fun _ _ _ h hb => h.below hb) (hide fun _ _ _ _ h _ => h) (hide fun _ _ _ _ _ _ h _ => h) (hide fun _ _ _ _ h => by cases h)
      (hide HBE) (hide (HOG n v1 v2 v3 zs hv cv)) (hide (HOG m y1 y2 y3 ys hy cy)) (hide HOL) (hide (HSB (by rw [hs]; simp))) (hide HTW) (hide HNG) ⟨rfl, by omega, by rw [hs], by rw [hs], rfl, hnil⟩
  have hl : ls.length = m := Classical.not_not.1 hl
  obtain ⟨lb, lo, lc, ea, el, ec, he, hlb, hc⟩ := lists_at hL (by omega)
  injection he with he1 _ he3
  subst he1 he3
  have HC := cprem (v := .slice v1 v2 v3) (y := .slice y1 y2 y3) hv hy g1 g2 hl hlb hT hc
  have hs0 : semc n zs m ys ls = if least ls.length (fun i => decide (cent n zs (ls[i]?.getD []) ≠ 0)) ≠ -1 then (cent n zs (ls[(least ls.length (fun i => decide (cent n zs (ls[i]?.getD []) ≠ 0))).toNat]?.getD []), least ls.length (fun i => decide (cent n zs (ls[i]?.getD []) ≠ 0)))
      else if least ls.length (fun a => pstr m ys n (actf ls) a) ≠ -1 then (7, least ls.length (fun a => pstr m ys n (actf ls) a)) else if (n : Int) * (m : Int) > 60 then (9, 0) else (0, 0) := by
    unfold semc
    rw [if_neg (by simpa using ht), if_neg (by omega)]
    rfl
  have hfine : ∀ t : Nat, cent n zs (ls[t]?.getD []) = 0 → (hfault n zs n zs (ls[t]?.getD [])).1 = 0 ∧ o1 n (ls[t]?.getD []) = true := fun t h => by
    unfold cent at h
    by_cases h1 : (hfault n zs n zs (ls[t]?.getD [])).1 = 0
    · rw [if_neg (by simpa using h1)] at h
      by_cases h2 : o1 n (ls[t]?.getD []) = true
      · exact ⟨h1, h2⟩
      · rw [if_neg h2] at h; cases h
    · rw [if_pos h1] at h; exact absurd h h1
  have hm' : m = ls.length := hl.symm
  rcases least_val (k := ls.length) (p := fun i => decide (cent n zs (ls[i]?.getD []) ≠ 0)) with ⟨j, hj, hb1, hb2, hb3⟩ | ⟨hb1, hb3⟩
  · have hs : semc n zs m ys ls = (cent n zs (ls[j]?.getD []), (j : Int)) := by rw [hs0, if_pos (by rw [hb3]; omega), hb3, Int.toNat_natCast]
    have hne : cent n zs (ls[j]?.getD []) ≠ 0 := of_decide_eq_true hb1
    refine psem_c1 n m v1 v2 v3 y1 y2 y3 (some ⟨lb, lo, none⟩) ls.length l3 0 0 (semc n zs m ys ls).1 (semc n zs m ys ls).2 0 false w h100 n m lb lo ea el ec _ _ _ _ _ _ (fun W u => Sl W u zs) (fun W u => Sl W u ys) (fun W u => SlL W u ls) (fun _ _ u => u = .slice none 0 0)
      (hide fun _ _ _ h hb => h.below hb) (hide fun _ _ _ h hb => h.below hb) (hide fun _ _ _ h hb => h.below hb) (hide fun _ _ _ _ h _ => h) (hide fun _ _ _ _ _ _ h _ => h) (hide fun _ _ _ _ h => by cases h)
      (hide HBE) (hide (HOG n v1 v2 v3 zs hv cv)) (hide (HOG m y1 y2 y3 ys hy cy)) (hide HOL) (hide (HSB (by rw [hs]; exact hne))) (hide HTW) (hide HNG)
      ⟨rfl, rfl, rfl, rfl, hm', rfl, hide HC, hm1, hm, hn, rfl, hnil, j, by omega, hide fun t htj => hfine t (Classical.byContradiction fun h9 => by have := hb2 t htj; rw [decide_eq_true h9] at this; cases this), by rw [hs], by rw [hs]; exact hne, ?_⟩
    rw [hs]
    by_cases h1 : (hfault n zs n zs (ls[j]?.getD [])).1 = 0
    · refine .inr ⟨h1, ?_, ?_⟩
      · cases h2 : o1 n (ls[j]?.getD []) with
        | false => rfl
        | true => exact absurd (by unfold cent; rw [if_neg (by simpa using h1), if_pos h2]) hne
      · show cent n zs (ls[j]?.getD []) = 10
        unfold cent
        rw [if_neg (by simpa using h1)]
        by_cases h2 : o1 n (ls[j]?.getD []) = true
        · exact absurd (by unfold cent; rw [if_neg (by simpa using h1), if_pos h2]) hne
        · rw [if_neg h2]
    · exact .inl ⟨h1, by show cent n zs (ls[j]?.getD []) = _; unfold cent; rw [if_pos h1]⟩
  have h0 : ∀ t, t < m → cent n zs (ls[t]?.getD []) = 0 := fun t ht => Classical.byContradiction fun h9 => by
    have := hb1 t (by omega)
    rw [decide_eq_true h9] at this
    cases this
  have hs1 : semc n zs m ys ls = if least ls.length (fun a => pstr m ys n (actf ls) a) ≠ -1 then (7, least ls.length (fun a => pstr m ys n (actf ls) a)) else if (n : Int) * (m : Int) > 60 then (9, 0) else (0, 0) := by rw [hs0, if_neg (by rw [hb3]; simp)]
  rcases least_val (k := ls.length) (p := fun a => pstr m ys n (actf ls) a) with ⟨j, hj, hp1, hp2, hp3⟩ | ⟨hp1, hp3⟩
  · have hs : semc n zs m ys ls = (7, (j : Int)) := by rw [hs1, if_pos (by rw [hp3]; omega), hp3]
    have hls : ∀ t b, t < j → b < m → ((List.range n).any fun y => decide (actf ls (tm m ys t b) y ≠ actf ls t (actf ls b y))) = false := fun t b htj hb => Bool.eq_false_iff.2 fun h9 => by
      have := hp2 t htj
      rw [show pstr m ys n (actf ls) t = true from List.any_eq_true.2 ⟨b, List.mem_range.2 hb, h9⟩] at this
      cases this
    have hex9 : ∃ b, b < m ∧ ((List.range n).any fun y => decide (actf ls (tm m ys j b) y ≠ actf ls j (actf ls b y))) = true := by
      obtain ⟨b, hb, h9⟩ := List.any_eq_true.1 hp1
      exact ⟨b, List.mem_range.1 hb, h9⟩
    exact psem_c2 n m v1 v2 v3 y1 y2 y3 (some ⟨lb, lo, none⟩) ls.length l3 0 0 (semc n zs m ys ls).1 (semc n zs m ys ls).2 0 false w h100 n m lb lo ea el ec _ _ _ _ _ _ (fun W u => Sl W u zs) (fun W u => Sl W u ys) (fun W u => SlL W u ls) (fun _ _ u => u = .slice none 0 0)
      (hide fun _ _ _ h hb => h.below hb) (hide fun _ _ _ h hb => h.below hb) (hide fun _ _ _ h hb => h.below hb) (hide fun _ _ _ _ h _ => h) (hide fun _ _ _ _ _ _ h _ => h) (hide fun _ _ _ _ h => by cases h)
      (hide HBE) (hide (HOG n v1 v2 v3 zs hv cv)) (hide (HOG m y1 y2 y3 ys hy cy)) (hide HOL) (hide (HSB (by rw [hs]; simp))) (hide HTW) (hide HNG)
      ⟨rfl, rfl, rfl, rfl, hm', rfl, hide HC, hm1, hm, hn, rfl, hnil, hide fun t ht => hfine t (h0 t ht), j, by omega,
        hide hls, hide hex9, by rw [hs], by rw [hs]⟩
  have hst : ∀ a b, a < m → b < m → ((List.range n).any fun y => decide (actf ls (tm m ys a b) y ≠ actf ls a (actf ls b y))) = false := fun a b ha hb => Bool.eq_false_iff.2 fun h9 => by
    have := hp1 a (by omega)
    rw [show pstr m ys n (actf ls) a = true from List.any_eq_true.2 ⟨b, List.mem_range.2 hb, h9⟩] at this
    cases this
  have hs2 : semc n zs m ys ls = if (n : Int) * (m : Int) > 60 then (9, 0) else (0, 0) := by rw [hs1, if_neg (by rw [hp3]; simp)]
  have hnm : (n : Int) * (m : Int) = ((n * m : Nat) : Int) := by rw [Int.natCast_mul]
  have hnm9 : n * m ≤ 3600 := Nat.mul_le_mul hn hm
  by_cases h60 : 60 < n * m
  · have hs : semc n zs m ys ls = (9, 0) := by rw [hs2, if_pos (by rw [hnm]; omega)]
    exact psem_c3 n m v1 v2 v3 y1 y2 y3 (some ⟨lb, lo, none⟩) ls.length l3 0 0 (semc n zs m ys ls).1 (semc n zs m ys ls).2 0 false w h100 n m lb lo ea el ec _ _ _ _ _ _ (fun W u => Sl W u zs) (fun W u => Sl W u ys) (fun W u => SlL W u ls) (fun _ _ u => u = .slice none 0 0)
      (hide fun _ _ _ h hb => h.below hb) (hide fun _ _ _ h hb => h.below hb) (hide fun _ _ _ h hb => h.below hb) (hide fun _ _ _ _ h _ => h) (hide fun _ _ _ _ _ _ h _ => h) (hide fun _ _ _ _ h => by cases h)
      (hide HBE) (hide (HOG n v1 v2 v3 zs hv cv)) (hide (HOG m y1 y2 y3 ys hy cy)) (hide HOL) (hide (HSB (by rw [hs]; simp))) (hide HTW) (hide HNG)
      ⟨rfl, rfl, rfl, rfl, hm', rfl, hide HC, hm1, hm, hn, rfl, hnil, hide fun t ht => hfine t (h0 t ht), hide hst, ⟨n * m, hnm, h60, hnm9⟩, by rw [hs], by rw [hs]⟩
  · have hs : semc n zs m ys ls = (0, 0) := by rw [hs2, if_neg (by rw [hnm]; omega)]
    have hact := act_is (m := m) (ys := ys) g1 h0 (fun t ht => hp1 t (by omega))
    have G := semi_grp g1 g2 hact (by omega)
    obtain ⟨rb, ro, hrr⟩ := act_rows g1 hl (fun i hi => (hc i hi).2) h0
    have hTl : (semT n zs m ys (actf ls)).length = n * m * (n * m) := mkT_len _ _
    have hq1 : 1 ≤ n * m := Nat.mul_pos hn1 hm1
    have hqq9 : n * m * (n * m) ≤ 3600 := Nat.le_trans (Nat.mul_le_mul (show n * m ≤ 60 by omega) (show n * m ≤ 60 by omega)) (by decide)
    exact psem_c4 n m v1 v2 v3 y1 y2 y3 (some ⟨lb, lo, none⟩) ls.length l3 0 0 (semc n zs m ys ls).1 (semc n zs m ys ls).2 ((n * m : Nat) : Int) true w h100 n m lb lo ea el ec _ _ _ _ _ _ (fun W u => Sl W u zs) (fun W u => Sl W u ys) (fun W u => SlL W u ls) (SlAt (semT n zs m ys (actf ls)))
      (hide fun _ _ _ h hb => h.below hb) (hide fun _ _ _ h hb => h.below hb) (hide fun _ _ _ h hb => h.below hb) (hide fun _ _ _ _ h hb => h.below hb) (hide fun _ _ _ _ _ _ h hb => h.set (hb rfl)) (hide fun _ _ _ h _ => by obtain ⟨_, _, _, _, _, h3, _⟩ := h; exact h3)
      (hide HBE) (hide (HOG n v1 v2 v3 zs hv cv)) (hide (HOG m y1 y2 y3 ys hy cy)) (hide HOL)
      (hide fun W a b l hW ha hb hl9 => by
        refine (semi_any n m a b l zs ys ls W ha hb hl9 (hT.below hW)).mono ?_
        rintro x W' ⟨g, rfl, _, h2, hb'⟩
        obtain ⟨r1, r2, r3, rfl, hrow⟩ := h2 (by rw [hs])
        rw [Int.toNat_natCast, Int.toNat_natCast] at hrow
        obtain ⟨a9, cap, pb, po, e1, e2, e3, e4, e5, e6⟩ := slF_row hrow (Nat.le_refl _) (by rw [hTl]; exact Nat.mul_pos hq1 hq1)
        exact ⟨r1, r2, r3, pb, by rw [hnm], ⟨a9, cap, po, e1, e2, e3, e4, e5⟩, fun _ => e6, hb'⟩)
      (hide HTW) (hide HNG)
      ⟨rfl, rfl, rfl, rfl, hm', rfl, hide HC, hm1, hm, hn, hide fun t ht => hfine t (h0 t ht), hide hst, by rw [hs], by rw [hs], n * m, n * m * (n * m), rb, ro, actf ls, tm n zs, semF n zs m ys (actf ls), rfl, hnm, by rw [Int.natCast_mul (n * m)], by omega, hqq9,
        hide fun W pb r1 r2 r3 h => by
          obtain ⟨_, _, _, he9, _⟩ := h
          injection he9 with _ h9 _
          rw [h9, hTl],
        hide fun i hi => ⟨(hrr i hi).1, (hrr i hi).2.1⟩, hide fun W i y hW hi hy9 => low_cell hW (hrr i hi).2.2.1 ((hrr i hi).2.2.2 y hy9), hide fun i y hi hy9 => (cent_row g1 (h0 i hi)).1.lt y hy9, hide fun a b ha hb => tm_lt g1.tab ha hb,
        hide fun i k hi hk => ⟨(semi_parts hm1 hi).1, (semi_parts hm1 hi).2, rfl⟩,
        hide fun W pb u i k hW hu hi hk => by
          have := M_ok (n * m) u (semT n zs m ys (actf ls)) i k W G.tab hu.sl hi hk
          rw [show tm (n * m) (semT n zs m ys (actf ls)) i k = semF n zs m ys (actf ls) i k from tm_mk hi hk] at this
          exact this,
        hide fun W a b hW ha hb => M_ok n (.slice v1 v2 v3) zs a b W g1.tab (hv.below hW) ha hb,
        hide fun W pb u hW hu => by
          have := groupFault_any (n * m : Nat) u (semT n zs m ys (actf ls)) W hu.sl
          rw [gfault_of_grp G] at this
          exact this⟩
end Go.Proofs.YtanbpjfdfnmjpaaDoor
