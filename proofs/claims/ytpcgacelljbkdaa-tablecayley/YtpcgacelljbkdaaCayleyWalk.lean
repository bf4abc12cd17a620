/- TableCayley returns true at every table that fits the machine. -/
import Derived.Test.YtpcgacelljbkdaaBegun
import Derived.Test.YtpcgacelljbkdaaFrame
import Derived.Test.YtpcgacelljbkdaaNog
import Derived.Test.YtpcgacelljbkdaaCmath
import Derived.Deep.DeepCutAuto
namespace Go.Proofs.Ytpcgacelljbkdaa
open Go Go.RowKit

set_option maxRecDepth 100000 in
set_option maxHeartbeats 4000000 in
theorem cayley_bad (N : Int) (v : Value) (zs : List Int) (w : World) (hv : Sl w v zs) (hf : (gfault N zs).1 ≠ 0) :
    Calls Try.prog 50 #[.agg #[.int .i64 N, v]] w fun x w' => x = .returned (.tuple #[.slice none 0 0, .agg #[.int .i64 (gfault N zs).1, .int .i64 (gfault N zs).2]]) ∧ Below w.heap.size w w' := by
  obtain ⟨w0, BG⟩ := Beg.new w N v
  have hv0 := hv.below BG.bel
  obtain ⟨c0, c1, _, _⟩ := BG.box.two
  have hck := check_any N v zs w0 hv0
  obtain ⟨c, i, hci⟩ : ∃ c i, gfault N zs = (c, i) := ⟨_, _, rfl⟩
  rw [hci] at hck hf ⊢
  have HCK := hide hck
  have hc : ¬ c = 0 := hf
  have hcb : (c != 0) = true := by simpa using hc
  clear hck hci hf
  rw [BG.eq] at c0 c1
  go_enter Try.func50, Try.ntmps50
  go_wp2_with fail
  rw [← BG.eq]
  refine (HCK.out).mono ?_
  rintro x w1 ⟨rfl, hb1⟩
  clear c0 c1
  have hB1 := bcat2 hb1 (balloc w1 (.cells #[.int .i64 c, .int .i64 i] 27))
  have hR1 := blk_below BG.res hB1
  have hF1 : Blk (w1.alloc (.cells #[.int .i64 c, .int .i64 i] 27)) w1.heap.size 27 [.int .i64 c, .int .i64 i] := blk0 _ _
  have hBw := bcat BG.bel hB1 BG.bel.size
  have hs9 : w.heap.size + 1 < w1.heap.size := (blk_below BG.res hb1).lt
  obtain ⟨y0, y1, fy0, fy1⟩ := hR1.two
  obtain ⟨t0, t1, _, _⟩ := hF1.two
  go_wp2_with fail
  generalize w1.alloc (.cells #[.int .i64 c, .int .i64 i] 27) = w2 at *
  go_region
  go_wp2
  obtain ⟨hR6, hB6⟩ := put2 hR1 hBw (by omega) c i
  have hB7 := bdrew hB6
  have hR7 : Blk ((w2.setCell ⟨w.heap.size + 1, 0, none⟩ (.int .i64 c)).setCell ⟨w.heap.size + 1, 1, none⟩ (.int .i64 i)).drew (w.heap.size + 1) 27 [.int .i64 c, .int .i64 i] := hR6
  generalize ((w2.setCell ⟨w.heap.size + 1, 0, none⟩ (.int .i64 c)).setCell ⟨w.heap.size + 1, 1, none⟩ (.int .i64 i)).drew = W at hR7 hB7 ⊢
  obtain ⟨z0, z1, _, _⟩ := hR7.two
  exact bodyPost_ret (v := .tuple #[.slice none 0 0, .agg #[.int .i64 c, .int .i64 i]]) (by simp [results, Try.results50, go_sem, z0, z1]) rfl ⟨rfl, hB7⟩

theorem two_drew {w U : World} (h : Below (w.drew.alloc (.cells #[.int .i64 0, .int .i64 0] 27)).heap.size (w.drew.alloc (.cells #[.int .i64 0, .int .i64 0] 27)) U) : Two U w.heap.size := (Two.new w.drew).below h
theorem set_same (W : World) (b o : Nat) (v : Value) (h : W.cell? ⟨b, o, none⟩ = some v) : W.setCell ⟨b, o, none⟩ v = W := by
  cases hb : W.heap[b]? with
  | none => simp [World.cell?, hb] at h
  | some x =>
    cases x with
    | cells c T fz =>
      refine setCell_self hb ?_
      simp [World.cell?, hb] at h
      apply Array.ext
      · simp
      · intro i h1 h2
        rw [Array.getElem_setIfInBounds]
        split
        · rename_i e; subst e
          rw [Array.getElem?_eq_getElem h2] at h
          simpa using h.symm
        · rfl
    | _ => simp [World.cell?, hb] at h
theorem groupFault_ok {n e : Nat} {zs : List Int} (h : IsGrp n zs e) (v : Value) (w : World) (hv : Sl w v zs) :
    Calls Try.prog 18 #[.agg #[.int .i64 n, v]] w fun x w' => x = .returned (.agg #[.int .i64 0, .int .i64 0]) ∧ Below w.heap.size w w' := by
  have h1 := groupFault_any n v zs w hv
  rw [gfault_of_grp h] at h1
  exact h1
theorem permFault_ok {zs : List Int} (h : Pm.fault zs = (0, 0)) (v : Value) (w : World) (hv : Sl w v zs) :
    Calls Try.prog 47 #[v] w fun e w' => e = .returned (.agg #[.int .i64 0, .int .i64 0]) ∧ Below w.heap.size w w' := by
  have h1 := Pm.permFault_any v zs w hv
  rw [h] at h1
  exact h1
theorem ints_is (u v : Value) (xs ys : List Int) (b : Bool) (w : World) (hb : decide (xs = ys) = b) (hu : Sl w u xs) (hv : Sl w v ys) :
    Calls Try.prog 41 #[u, v] w fun e w' => e = .returned (.bool b) ∧ Below w.heap.size w w' := by
  have h1 := ints_any u v xs ys w hu hv
  rw [hb] at h1
  exact h1

set_option maxRecDepth 100000 in
set_option maxHeartbeats 16000000 in
theorem cayleyLaw_ok {n e : Nat} {zs : List Int} (hg : IsGrp n zs e) (u : Value) (w : World) (hu : SlA w u zs) (hbz : zs.length * 8 ≤ 140737488355328) :
    Calls Try.prog 8 #[.agg #[.int .i64 n, u]] w fun r w' => r = .returned (.bool true) ∧ Below w.heap.size w w' := by
  obtain ⟨w0, hw0⟩ : ∃ w0, w0 = w.alloc (.cells #[.int .i64 n, u] 24) := ⟨_, rfl⟩
  have hB0 : Below w.heap.size w w0 := by rw [hw0]; exact balloc w _
  have hg0 : BoxG w0 w.heap.size n u := by rw [hw0]; exact blk0 _ _
  have hu0 := hu.up hB0 (by have := hg0.lt; omega)
  obtain ⟨au, cu, _, _, rfl, _⟩ := id hu0
  have HO := hide (fun W (h : Sl W (.slice au zs.length cu) zs) => ownGroup_any n (.slice au zs.length cu) zs W h hbz)
  have HC := hide (fun (x : Value) W (h : Sl W x zs) => cayley_ok n e x zs W hg h)
  have HF := hide (fun W (h : Sl W (.slice au zs.length cu) zs) => groupFault_ok hg (.slice au zs.length cu) W h)
  have HM := hide (fun W (a b : Nat) (ha : a < n) (hb : b < n) (h : Sl W (.slice au zs.length cu) zs) => M_ok n (.slice au zs.length cu) zs a b W hg.tab h ha hb)
  have HPF := hide (fun (x : Value) W (a : Nat) (ha : a < n) (h : Sl W x (cayR n zs a)) => permFault_ok (cay_fault hg ha) x W h)
  have HML := hide (fun (x y : Value) W (a b : Nat) (ha : a < n) (hb : b < n) (h : Sl W x (cayR n zs a)) (k : Sl W y (cayR n zs b)) => Pm.mul_ok x y _ _ W h k (cay_perm hg ha) (cay_perm hg hb) (by rw [cayR_len, cayR_len]) (by rw [cayR_len]; have := hg.tab.le; omega))
  have HEQ := hide (fun (x y : Value) W (a b : Nat) (ha : a < n) (hb : b < n) (h : Sl W x (Pm.mulL (cayR n zs a) (cayR n zs b))) (k : Sl W y (cayR n zs (tm n zs a b))) => ints_is x y _ _ true W (decide_eq_true (cay_mul hg ha hb)) h k)
  have HNE := hide (fun (x y : Value) W (a b : Nat) (ha : a < n) (hb : b < n) (hab : a ≠ b) (h : Sl W x (cayR n zs a)) (k : Sl W y (cayR n zs b)) => ints_is x y _ _ false W (decide_eq_false (cay_inj hg ha hb hab)) h k)
  have HTL := hide (fun a b (ha : a < n) (hb : b < n) => tm_lt hg.tab ha hb)
  have hle := hg.tab.le
  have hpos := hg.tab.pos
  have hf27 := field27
  generalize zs.length = lu at *
  clear hg
  go_enter Try.func8, Try.ntmps8
  have g0 := hg0.c0
  have g1 := hg0.c1
  rw [hw0] at g0 g1
  go_wp2_with fail
  rw [← hw0]
  clear hw0 g0 g1
  refine (HO.out _ hu0).mono ?_
  rintro r w1 ⟨x1, rfl, hx1, hb1⟩
  go_wp2_with fail
  refine (HC.out _ _ hx1).mono ?_
  rintro r w2 ⟨l, rfl, hl, hb2⟩
  have al2 := bcat2 (bcat2 hb1 hb2) (balloc w2 (.cells #[.int .i64 0, .int .i64 0] 27))
  have N4 := Two.new w2
  have g0 := below_cell al2 hg0.c0
  have g1 := below_cell al2 hg0.c1
  go_wp2_with fail
  refine (HF.out _ (hu0.below al2)).mono ?_
  rintro r w3 ⟨rfl, hb3⟩
  have al3 := bcat2 hb3 (balloc w3 (.cells #[.int .i64 0, .int .i64 0] 27))
  have N5 := Two.new w3
  clear g0 g1
  go_wp2_with fail
  refine (begun_any _).mono ?_
  rintro r w4 ⟨rfl, hb4⟩
  have al4 := bcat2 al3 hb4
  obtain ⟨_, y0, y1, _, _, _, _⟩ := N4.below al4
  obtain ⟨_, z0, z1, _, _, _, _⟩ := N5.below hb4
  have hL := (hl.below (balloc w2 (.cells #[.int .i64 0, .int .i64 0] 27))).below al4
  have t4 := bcat2 al2 al4
  have hgc := blk_below hg0 t4
  have huc := hu0.below t4
  have hBw := bcat hB0 t4 hB0.size
  clear hb1 hb2 hb3 hb4 al2 al3 al4 t4 hl hx1 N4 N5 HO HC HF hg0 hu0 hB0
  obtain ⟨cap, pb, po, rfl, hc1, hc2, hR⟩ := hL.rows hpos
  have HR := hide hR
  clear hR hL
  have g0 := hgc.c0
  unfold maxLen at hc2
  go_wp2
  clear y0 y1 z0 z1 g0
  go_loopw [6] (fun i wr => ∃ a : Nat, a ≤ n ∧ i = .int .i64 a ∧ Below w4.heap.size w4 wr) (fun i _ => n - (intOf i).toNat)
  case atStart => exact ⟨0, Nat.zero_le _, rfl, Below.refl _ _⟩
  case round =>
    obtain ⟨a, ha, rfl, hBa⟩ := hrel
    have g0 := below_cell hBa hgc.c0
    by_cases hlta : a < n
    · obtain ⟨rb, ro, rc, k0, ks, kc1, kc2, kx⟩ := HR.out a hlta
      have KX := hide kx
      clear kx
      unfold maxLen at kc2
      have hai : (a : Int) < (n : Int) := by omega
      have HP := hide (fun W h => HPF.out (.slice (some ⟨rb, ro, none⟩) n rc) W a hlta h)
      have hS : ∀ W, Below w4.heap.size w4 W → (Below w4.heap.size w4 W ∧ W.cell? ⟨w.heap.size, 0, none⟩ = some (.int .i64 n) ∧ W.cell? ⟨pb, po + a, none⟩ = some (.slice (some ⟨rb, ro, none⟩) n rc)) := fun W h => ⟨h, below_cell h hgc.c0, below_cell h k0⟩
      have hS0 := hS _ (bdrew hBa)
      go_wp2_with fail
      clear g0
      go_region_held3 (fun W => Below w4.heap.size w4 W ∧ W.cell? ⟨w.heap.size, 0, none⟩ = some (.int .i64 n) ∧ W.cell? ⟨pb, po + a, none⟩ = some (.slice (some ⟨rb, ro, none⟩) n rc))
        (first | exact hS0 | assumption | exact hS _ (bcat2 (And.left ‹_›) hl1))
        (first | (go_at_call 47; refine (HP.out _ (ks.below (And.left ‹_›))).mono ?_; rintro r V2 ⟨rfl, hl1⟩))
      obtain ⟨hB4, _⟩ := ‹Below w4.heap.size w4 V2 ∧ _›
      clear hS hS0 hBa
      go_wp2
      go_loopw [7] (fun i wr => ∃ x : Nat, x ≤ n ∧ i = .int .i64 x ∧ Below w4.heap.size w4 wr) (fun i _ => n - (intOf i).toNat)
      case atStart => exact ⟨0, Nat.zero_le _, rfl, hB4⟩
      case round =>
        obtain ⟨x, hx, rfl, hBx⟩ := hrel
        have g0 := below_cell hBx hgc.c0
        by_cases hltx : x < n
        · have kx := KX.out x hltx
          have hxi : (x : Int) < (n : Int) := by omega
          have HMx := hide (fun W h => HM.out W x a hltx hlta h)
          generalize tm n zs x a = r9 at kx HMx
          have hS : ∀ W, Below w4.heap.size w4 W → (Below w4.heap.size w4 W ∧ W.cell? ⟨w.heap.size, 0, none⟩ = some (.int .i64 n) ∧ W.cell? ⟨w.heap.size, 1, none⟩ = some (.slice au lu cu) ∧ W.cell? ⟨pb, po + a, none⟩ = some (.slice (some ⟨rb, ro, none⟩) n rc) ∧ W.cell? ⟨rb, ro + x, none⟩ = some (.int .i64 r9)) := fun W h => ⟨h, below_cell h hgc.c0, below_cell h hgc.c1, below_cell h k0, below_cell h kx⟩
          have hS0 := hS _ (bdrew hBx)
          go_wp2_with fail
          clear g0
          go_region_held3 (fun W => Below w4.heap.size w4 W ∧ W.cell? ⟨w.heap.size, 0, none⟩ = some (.int .i64 n) ∧ W.cell? ⟨w.heap.size, 1, none⟩ = some (.slice au lu cu) ∧ W.cell? ⟨pb, po + a, none⟩ = some (.slice (some ⟨rb, ro, none⟩) n rc) ∧ W.cell? ⟨rb, ro + x, none⟩ = some (.int .i64 r9))
            (first | exact hS0 | assumption | exact hS _ (bcat2 (And.left ‹_›) hl1))
            (first | (go_at_call 40; refine (HMx.out _ (huc.below (And.left ‹_›))).mono ?_; rintro r V3 ⟨rfl, hl1⟩))
          obtain ⟨hB5, _⟩ := ‹Below w4.heap.size w4 V3 ∧ _›
          clear hS hS0 hBx
          go_wp2
          go_roundw
          case rel => exact ⟨x + 1, by omega, by go_num, hB5⟩
          case measure => simp [intOf]; omega
        · go_wp2
          go_roundw
          case rel => exact ⟨a + 1, by omega, by go_num, hBx⟩
          case measure => simp [intOf]; omega
    · go_wp2
      clear g0 ha hlta
      go_loopw [8] (fun i wr => ∃ a : Nat, a ≤ n ∧ i = .int .i64 a ∧ Below w4.heap.size w4 wr) (fun i _ => n - (intOf i).toNat)
      case atStart => exact ⟨0, Nat.zero_le _, rfl, hBa⟩
      case round =>
        clear hBa
        obtain ⟨a2, ha, rfl, hBa⟩ := hrel
        have g0 := below_cell hBa hgc.c0
        by_cases hlta : a2 < n
        · go_wp2
          clear g0
          go_loopw [9] (fun i wr => ∃ b : Nat, b ≤ n ∧ i = .int .i64 b ∧ Below w4.heap.size w4 wr) (fun i _ => n - (intOf i).toNat)
          case atStart => exact ⟨0, Nat.zero_le _, rfl, hBa⟩
          case round =>
            clear hBa
            obtain ⟨b, hb, rfl, hBb⟩ := hrel
            have g0 := below_cell hBb hgc.c0
            by_cases hltb : b < n
            · obtain ⟨rb, ro, rc, k0, ks, kc1, kc2, _⟩ := HR.out a2 hlta
              obtain ⟨rb', ro', rc', k0', ks', kc1', kc2', _⟩ := HR.out b hltb
              unfold maxLen at kc2 kc2'
              have hai : (a2 : Int) < (n : Int) := by omega
              have hbi : (b : Int) < (n : Int) := by omega
              have hss := set_same
              have HMU := hide (fun W h k => HML.out (.slice (some ⟨rb, ro, none⟩) n rc) (.slice (some ⟨rb', ro', none⟩) n rc') W a2 b hlta hltb h k)
              have hS : ∀ W, Below w4.heap.size w4 W → (Below w4.heap.size w4 W ∧ W.cell? ⟨pb, po + a2, none⟩ = some (.slice (some ⟨rb, ro, none⟩) n rc) ∧ W.cell? ⟨pb, po + b, none⟩ = some (.slice (some ⟨rb', ro', none⟩) n rc')) := fun W h => ⟨h, below_cell h k0, below_cell h k0'⟩
              have hS0 := hS _ (bdrew hBb)
              go_wp2_with fail
              clear g0
              go_cut [10, 11] (fun s10 s11 wx => ∃ b11, s11 = .pointer (some ⟨b11, 0, none⟩) ∧ wx.cell? ⟨b11, 0, none⟩ = some (.int .i64 0) ∧ Sl wx s10 (Pm.mulL (cayR n zs a2) (cayR n zs b)) ∧ Below w4.heap.size w4 wx)
              case first =>
                go_region_held3 (fun W => Below w4.heap.size w4 W ∧ W.cell? ⟨pb, po + a2, none⟩ = some (.slice (some ⟨rb, ro, none⟩) n rc) ∧ W.cell? ⟨pb, po + b, none⟩ = some (.slice (some ⟨rb', ro', none⟩) n rc'))
                  (first | exact hS0 | assumption | exact hS _ (bcat2 (And.left ‹_›) hl1) | exact hS _ (bcat2 (And.left ‹_›) (balloc _ _)))
                  (first | (go_at_call 51; refine (HMU.out _ (ks.below (And.left ‹_›)) (ks'.below (And.left ‹_›))).mono ?_; rintro r U1 ⟨rm, rfl, hrm, hl1⟩; have hp1 := cell_eq hl1; have hq1 := frozen_eq hl1))
                all_goals (go_wp2; go_meet)
                all_goals (first
                  | exact ⟨_, rfl, (Two.new U1).c0, hrm.below (balloc _ _), And.left ‹Below w4.heap.size w4 (U1.alloc _) ∧ _›⟩
                  | exact ⟨_, rfl, (two_drew hl1).c0, hrm, And.left ‹Below w4.heap.size w4 U1 ∧ _›⟩)
              case rest =>
                obtain ⟨b11, rfl, c11, hm, hBc⟩ := hcut
                clear hS hS0 hss HMU
                have hab9 := HTL.out a2 b hlta hltb
                obtain ⟨rb3, ro3, rc3, k3, ks3, kc3, kc4, _⟩ := HR.out _ hab9
                unfold maxLen at kc4
                have HMx := hide (fun W h => HM.out W a2 b hlta hltb h)
                have HEx := hide (fun (x y : Value) W h k => HEQ.out x y W a2 b hlta hltb h k)
                generalize tm n zs a2 b = ab at *
                have habi : (ab : Int) < (n : Int) := by omega
                generalize Pm.mulL (cayR n zs a2) (cayR n zs b) = ml at *
                obtain ⟨am, cm, _, _, rfl, _⟩ := id hm
                generalize ml.length = lm at *
                have hS : ∀ W, Below wc.heap.size wc W → (Below wc.heap.size wc W ∧ W.cell? ⟨b11, 0, none⟩ = some (.int .i64 0) ∧ W.cell? ⟨w.heap.size, 0, none⟩ = some (.int .i64 n) ∧ W.cell? ⟨w.heap.size, 1, none⟩ = some (.slice au lu cu) ∧ W.cell? ⟨pb, po + ab, none⟩ = some (.slice (some ⟨rb3, ro3, none⟩) n rc3) ∧ W.cell? ⟨pb, po + a2, none⟩ = some (.slice (some ⟨rb, ro, none⟩) n rc) ∧ W.cell? ⟨pb, po + b, none⟩ = some (.slice (some ⟨rb', ro', none⟩) n rc')) := fun W h => ⟨h, below_cell h c11, below_cell (bcat2 hBc h) hgc.c0, below_cell (bcat2 hBc h) hgc.c1, below_cell (bcat2 hBc h) k3, below_cell (bcat2 hBc h) k0, below_cell (bcat2 hBc h) k0'⟩
                have hS0 := hS _ (bdrew (Below.refl _ wc))
                by_cases hab : a2 = b
                · subst hab
                  go_wp2_with fail
                  refine wp_region_held_drew (S := (fun W => Below wc.heap.size wc W ∧ W.cell? ⟨b11, 0, none⟩ = some (.int .i64 0) ∧ W.cell? ⟨w.heap.size, 0, none⟩ = some (.int .i64 n) ∧ W.cell? ⟨w.heap.size, 1, none⟩ = some (.slice au lu cu) ∧ W.cell? ⟨pb, po + ab, none⟩ = some (.slice (some ⟨rb3, ro3, none⟩) n rc3) ∧ W.cell? ⟨pb, po + a2, none⟩ = some (.slice (some ⟨rb, ro, none⟩) n rc) ∧ W.cell? ⟨pb, po + a2, none⟩ = some (.slice (some ⟨rb', ro', none⟩) n rc'))) (by kernel_rfl) hS0 (fun hHeld => ?_)
                  refine wpAnyH_take (i := 0) (oi := ({ dst := some 103, op := Op.fieldAddr 27 (Operand.tmp 11) 0, type := 0, pos := _, after := #[], guard := none } : Oper)) (v := ?_) rfl (by kernel_rfl) (by kernel_rfl) (by kernel_rfl) (fun _ _ _ h => h) (Or.inl ⟨by rfl, ?_⟩) (by assumption) ?_
                  rotate_left
                  · (intro w hSw; (try dsimp only at hSw); go_simp; try with_reducible rfl)
                  simp only [Act.put, List.setIfInBounds_toArray, List.set_cons_zero, List.set_cons_succ]
                  refine wpAnyH_take (i := 1) (oi := ({ dst := some 104, op := Op.load 3 (Operand.tmp 103), type := 3, pos := _, after := #[{ on := 0, ground := Ground.data }], guard := none } : Oper)) (v := ?_) rfl (by kernel_rfl) (by kernel_rfl) (by kernel_rfl) (fun _ _ _ h => h) (Or.inl ⟨by rfl, ?_⟩) (by assumption) ?_
                  rotate_left
                  · (intro w hSw; (try dsimp only at hSw); go_simp; try with_reducible rfl)
                  simp only [Act.put, List.setIfInBounds_toArray, List.set_cons_zero, List.set_cons_succ]
                  refine wpAnyH_take (i := 2) (oi := ({ dst := some 105, op := Op.binOp BinOp.neq 3 (Operand.tmp 104) (Operand.const (Value.int IntKind.i64 0)) 3, type := 4, pos := _, after := #[{ on := 1, ground := Ground.data }], guard := none } : Oper)) (v := ?_) rfl (by kernel_rfl) (by kernel_rfl) (by kernel_rfl) (fun _ _ _ h => h) (Or.inl ⟨by rfl, ?_⟩) (by assumption) ?_
                  rotate_left
                  · (intro w hSw; (try dsimp only at hSw); go_simp; try with_reducible rfl)
                  simp only [Act.put, List.setIfInBounds_toArray, List.set_cons_zero, List.set_cons_succ]
                  refine wpAnyH_take (i := 3) (oi := ({ dst := some 106, op := Op.move (Operand.tmp 105), type := 4, pos := _, after := #[{ on := 2, ground := Ground.data }], guard := none } : Oper)) (v := ?_) rfl (by kernel_rfl) (by kernel_rfl) (by kernel_rfl) (fun _ _ _ h => h) (Or.inl ⟨by rfl, ?_⟩) (by assumption) ?_
                  rotate_left
                  · (intro w hSw; (try dsimp only at hSw); go_simp; try with_reducible rfl)
                  simp only [Act.put, List.setIfInBounds_toArray, List.set_cons_zero, List.set_cons_succ]
                  refine wpAnyH_take (i := 4) (oi := ({ dst := some 107, op := Op.move (Operand.tmp 10), type := 22, pos := _, after := #[{ on := 3, ground := Ground.guard }], guard := some (3, false) } : Oper)) (v := ?_) rfl (by kernel_rfl) (by kernel_rfl) (by kernel_rfl) (fun _ _ _ h => h) (Or.inl ⟨by rfl, ?_⟩) (by assumption) ?_
                  rotate_left
                  · (intro w hSw; (try dsimp only at hSw); go_simp; try with_reducible rfl)
                  simp only [Act.put, List.setIfInBounds_toArray, List.set_cons_zero, List.set_cons_succ]
                  refine wpAnyH_take (i := 5) (oi := ({ dst := some 108, op := Op.move (Operand.tmp 3), type := 57, pos := _, after := #[{ on := 3, ground := Ground.guard }], guard := some (3, false) } : Oper)) (v := ?_) rfl (by kernel_rfl) (by kernel_rfl) (by kernel_rfl) (fun _ _ _ h => h) (Or.inl ⟨by rfl, ?_⟩) (by assumption) ?_
                  rotate_left
                  · (intro w hSw; (try dsimp only at hSw); go_simp; try with_reducible rfl)
                  simp only [Act.put, List.setIfInBounds_toArray, List.set_cons_zero, List.set_cons_succ]
                  refine wpAnyH_take (i := 6) (oi := ({ dst := some 109, op := Op.load 24 (Operand.tmp 1), type := 24, pos := _, after := #[{ on := 3, ground := Ground.guard }], guard := some (3, false) } : Oper)) (v := ?_) rfl (by kernel_rfl) (by kernel_rfl) (by kernel_rfl) (fun _ _ _ h => h) (Or.inl ⟨by rfl, ?_⟩) (by assumption) ?_
                  rotate_left
                  · (intro w hSw; (try dsimp only at hSw); go_simp; try with_reducible rfl)
                  simp only [Act.put, List.setIfInBounds_toArray, List.set_cons_zero, List.set_cons_succ]
                  refine wpAnyH_take (i := 7) (oi := ({ dst := some 110, op := Op.move (Operand.tmp 8), type := 3, pos := _, after := #[{ on := 3, ground := Ground.guard }], guard := some (3, false) } : Oper)) (v := ?_) rfl (by kernel_rfl) (by kernel_rfl) (by kernel_rfl) (fun _ _ _ h => h) (Or.inl ⟨by rfl, ?_⟩) (by assumption) ?_
                  rotate_left
                  · (intro w hSw; (try dsimp only at hSw); go_simp; try with_reducible rfl)
                  simp only [Act.put, List.setIfInBounds_toArray, List.set_cons_zero, List.set_cons_succ]
                  refine wpAnyH_take (i := 8) (oi := ({ dst := some 111, op := Op.move (Operand.tmp 9), type := 3, pos := _, after := #[{ on := 3, ground := Ground.guard }], guard := some (3, false) } : Oper)) (v := ?_) rfl (by kernel_rfl) (by kernel_rfl) (by kernel_rfl) (fun _ _ _ h => h) (Or.inl ⟨by rfl, ?_⟩) (by assumption) ?_
                  rotate_left
                  · (intro w hSw; (try dsimp only at hSw); go_simp; try with_reducible rfl)
                  simp only [Act.put, List.setIfInBounds_toArray, List.set_cons_zero, List.set_cons_succ]
                  refine wpAnyH_ready (rs := [9]) (by kernel_rfl) (by simp) (AllReadyH.cons (o := ({ dst := some 112, op := Op.call { callee := Callee.value (Operand.func 40), args := #[Operand.tmp 109, Operand.tmp 110, Operand.tmp 111], argTypes := #[24, 3, 3] }, type := 3, pos := _, after := #[{ on := 6, ground := Ground.data }, { on := 7, ground := Ground.data }, { on := 8, ground := Ground.data }, { on := 3, ground := Ground.chain }, { on := 3, ground := Ground.guard }], guard := some (3, false) } : Oper)) rfl (fun K hK => ?_) AllReadyH.nil)
                  go_simp
                  refine (HMx.out _ (huc.below (bcat2 hBc (And.left ‹_›)))).mono ?_; rintro r V1 ⟨rfl, hl1⟩
                  try go_wp2_with fail
                  refine hK.out _ _ (hS _ (bcat2 (And.left ‹_›) hl1)) (fun hHeld => ?_)
                  clear hK K
                  try simp only [Act.put, List.setIfInBounds_toArray, List.set_cons_zero, List.set_cons_succ]
                  refine wpAnyH_take (i := 10) (oi := ({ dst := some 113, op := Op.indexAddr 57 (Operand.tmp 108) (Operand.tmp 112), type := 0, pos := _, after := #[{ on := 5, ground := Ground.data }, { on := 9, ground := Ground.data }, { on := 3, ground := Ground.guard }], guard := some (3, false) } : Oper)) (v := ?_) rfl (by kernel_rfl) (by kernel_rfl) (by kernel_rfl) (fun _ _ _ h => h) (Or.inl ⟨by rfl, ?_⟩) (by assumption) ?_
                  rotate_left
                  · (intro w hSw; (try dsimp only at hSw); go_simp; try with_reducible rfl)
                  simp only [Act.put, List.setIfInBounds_toArray, List.set_cons_zero, List.set_cons_succ]
                  refine wpAnyH_take (i := 11) (oi := ({ dst := some 114, op := Op.load 22 (Operand.tmp 113), type := 22, pos := _, after := #[{ on := 10, ground := Ground.data }, { on := 3, ground := Ground.guard }], guard := some (3, false) } : Oper)) (v := ?_) rfl (by kernel_rfl) (by kernel_rfl) (by kernel_rfl) (fun _ _ _ h => h) (Or.inl ⟨by rfl, ?_⟩) (by assumption) ?_
                  rotate_left
                  · (intro w hSw; (try dsimp only at hSw); go_simp; try with_reducible rfl)
                  simp only [Act.put, List.setIfInBounds_toArray, List.set_cons_zero, List.set_cons_succ]
                  refine wpAnyH_ready (rs := [12]) (by kernel_rfl) (by simp) (AllReadyH.cons (o := ({ dst := some 115, op := Op.call { callee := Callee.value (Operand.func 41), args := #[Operand.tmp 107, Operand.tmp 114], argTypes := #[22, 22] }, type := 4, pos := _, after := #[{ on := 4, ground := Ground.data }, { on := 11, ground := Ground.data }, { on := 9, ground := Ground.chain }, { on := 3, ground := Ground.guard }], guard := some (3, false) } : Oper)) rfl (fun K hK => ?_) AllReadyH.nil)
                  go_simp
                  refine (HEx.out _ _ _ (hm.below (And.left ‹_›)) (ks3.below (bcat2 hBc (And.left ‹_›)))).mono ?_; rintro r V2 ⟨rfl, hl1⟩
                  try go_wp2_with fail
                  refine hK.out _ _ (hS _ (bcat2 (And.left ‹_›) hl1)) (fun hHeld => ?_)
                  clear hK K
                  try simp only [Act.put, List.setIfInBounds_toArray, List.set_cons_zero, List.set_cons_succ]
                  refine wpAnyH_take (i := 13) (oi := ({ dst := some 116, op := Op.unOp UnOp.not 4 (Operand.tmp 115), type := 4, pos := _, after := #[{ on := 12, ground := Ground.data }, { on := 3, ground := Ground.guard }], guard := some (3, false) } : Oper)) (v := ?_) rfl (by kernel_rfl) (by kernel_rfl) (by kernel_rfl) (fun _ _ _ h => h) (Or.inl ⟨by rfl, ?_⟩) (by assumption) ?_
                  rotate_left
                  · (intro w hSw; (try dsimp only at hSw); go_simp; try with_reducible rfl)
                  simp only [Act.put, List.setIfInBounds_toArray, List.set_cons_zero, List.set_cons_succ]
                  refine wpAnyH_take (i := 14) (oi := ({ dst := some 117, op := Op.pick (Operand.tmp 106) (Operand.const (Value.bool true)) (Operand.tmp 116), type := 4, pos := _, after := #[{ on := 3, ground := Ground.data }, { on := 13, ground := Ground.data }], guard := none } : Oper)) (v := ?_) rfl (by kernel_rfl) (by kernel_rfl) (by kernel_rfl) (fun _ _ _ h => h) (Or.inl ⟨by rfl, ?_⟩) (by assumption) ?_
                  rotate_left
                  · (intro w hSw; (try dsimp only at hSw); go_simp; try with_reducible rfl)
                  simp only [Act.put, List.setIfInBounds_toArray, List.set_cons_zero, List.set_cons_succ]
                  refine wpAnyH_take (i := 15) (oi := ({ dst := some 118, op := Op.move (Operand.tmp 117), type := 4, pos := _, after := #[{ on := 14, ground := Ground.data }, { on := 12, ground := Ground.chain }], guard := none } : Oper)) (v := ?_) rfl (by kernel_rfl) (by kernel_rfl) (by kernel_rfl) (fun _ _ _ h => h) (Or.inl ⟨by rfl, ?_⟩) (by assumption) ?_
                  rotate_left
                  · (intro w hSw; (try dsimp only at hSw); go_simp; try with_reducible rfl)
                  simp only [Act.put, List.setIfInBounds_toArray, List.set_cons_zero, List.set_cons_succ]
                  refine wpAnyH_take (i := 16) (oi := ({ dst := some 119, op := Op.move (Operand.tmp 8), type := 3, pos := _, after := #[{ on := 15, ground := Ground.guard }], guard := some (15, false) } : Oper)) (v := ?_) rfl (by kernel_rfl) (by kernel_rfl) (by kernel_rfl) (fun _ _ _ h => h) (Or.inl ⟨by rfl, ?_⟩) (by assumption) ?_
                  rotate_left
                  · (intro w hSw; (try dsimp only at hSw); go_simp; try with_reducible rfl)
                  simp only [Act.put, List.setIfInBounds_toArray, List.set_cons_zero, List.set_cons_succ]
                  refine wpAnyH_take (i := 17) (oi := ({ dst := some 120, op := Op.move (Operand.tmp 9), type := 3, pos := _, after := #[{ on := 15, ground := Ground.guard }], guard := some (15, false) } : Oper)) (v := ?_) rfl (by kernel_rfl) (by kernel_rfl) (by kernel_rfl) (fun _ _ _ h => h) (Or.inl ⟨by rfl, ?_⟩) (by assumption) ?_
                  rotate_left
                  · (intro w hSw; (try dsimp only at hSw); go_simp; try with_reducible rfl)
                  simp only [Act.put, List.setIfInBounds_toArray, List.set_cons_zero, List.set_cons_succ]
                  refine wpAnyH_take (i := 18) (oi := ({ dst := some 121, op := Op.binOp BinOp.neq 3 (Operand.tmp 119) (Operand.tmp 120) 3, type := 4, pos := _, after := #[{ on := 16, ground := Ground.data }, { on := 17, ground := Ground.data }, { on := 15, ground := Ground.guard }], guard := some (15, false) } : Oper)) (v := ?_) rfl (by kernel_rfl) (by kernel_rfl) (by kernel_rfl) (fun _ _ _ h => h) (Or.inl ⟨by rfl, ?_⟩) (by assumption) ?_
                  rotate_left
                  · (intro w hSw; (try dsimp only at hSw); go_simp; try with_reducible rfl)
                  simp only [Act.put, List.setIfInBounds_toArray, List.set_cons_zero, List.set_cons_succ]
                  refine wpAnyH_take (i := 19) (oi := ({ dst := some 122, op := Op.move (Operand.tmp 121), type := 4, pos := _, after := #[{ on := 18, ground := Ground.data }, { on := 15, ground := Ground.chain }, { on := 15, ground := Ground.guard }], guard := some (15, false) } : Oper)) (v := ?_) rfl (by kernel_rfl) (by kernel_rfl) (by kernel_rfl) (fun _ _ _ h => h) (Or.inl ⟨by rfl, ?_⟩) (by assumption) ?_
                  rotate_left
                  · (intro w hSw; (try dsimp only at hSw); go_simp; try with_reducible rfl)
                  simp only [Act.put, List.setIfInBounds_toArray, List.set_cons_zero, List.set_cons_succ]
                  refine wpAnyH_take (i := 20) (oi := ({ dst := some 123, op := Op.move (Operand.tmp 3), type := 57, pos := _, after := #[{ on := 19, ground := Ground.guard }], guard := some (19, true) } : Oper)) (v := undef) rfl (by kernel_rfl) (by kernel_rfl) (by kernel_rfl) (fun _ _ _ h => h) (Or.inr ⟨by rfl, rfl⟩) (by assumption) ?_
                  simp only [Act.put, List.setIfInBounds_toArray, List.set_cons_zero, List.set_cons_succ]
                  refine wpAnyH_take (i := 21) (oi := ({ dst := some 124, op := Op.move (Operand.tmp 8), type := 3, pos := _, after := #[{ on := 19, ground := Ground.guard }], guard := some (19, true) } : Oper)) (v := undef) rfl (by kernel_rfl) (by kernel_rfl) (by kernel_rfl) (fun _ _ _ h => h) (Or.inr ⟨by rfl, rfl⟩) (by assumption) ?_
                  simp only [Act.put, List.setIfInBounds_toArray, List.set_cons_zero, List.set_cons_succ]
                  refine wpAnyH_take (i := 22) (oi := ({ dst := some 125, op := Op.indexAddr 57 (Operand.tmp 123) (Operand.tmp 124), type := 0, pos := _, after := #[{ on := 20, ground := Ground.data }, { on := 21, ground := Ground.data }, { on := 19, ground := Ground.guard }], guard := some (19, true) } : Oper)) (v := undef) rfl (by kernel_rfl) (by kernel_rfl) (by kernel_rfl) (fun _ _ _ h => h) (Or.inr ⟨by rfl, rfl⟩) (by assumption) ?_
                  simp only [Act.put, List.setIfInBounds_toArray, List.set_cons_zero, List.set_cons_succ]
                  refine wpAnyH_take (i := 23) (oi := ({ dst := some 126, op := Op.load 22 (Operand.tmp 125), type := 22, pos := _, after := #[{ on := 22, ground := Ground.data }, { on := 19, ground := Ground.guard }], guard := some (19, true) } : Oper)) (v := undef) rfl (by kernel_rfl) (by kernel_rfl) (by kernel_rfl) (fun _ _ _ h => h) (Or.inr ⟨by rfl, rfl⟩) (by assumption) ?_
                  simp only [Act.put, List.setIfInBounds_toArray, List.set_cons_zero, List.set_cons_succ]
                  refine wpAnyH_take (i := 24) (oi := ({ dst := some 127, op := Op.move (Operand.tmp 3), type := 57, pos := _, after := #[{ on := 19, ground := Ground.guard }], guard := some (19, true) } : Oper)) (v := undef) rfl (by kernel_rfl) (by kernel_rfl) (by kernel_rfl) (fun _ _ _ h => h) (Or.inr ⟨by rfl, rfl⟩) (by assumption) ?_
                  simp only [Act.put, List.setIfInBounds_toArray, List.set_cons_zero, List.set_cons_succ]
                  refine wpAnyH_take (i := 25) (oi := ({ dst := some 128, op := Op.move (Operand.tmp 9), type := 3, pos := _, after := #[{ on := 19, ground := Ground.guard }], guard := some (19, true) } : Oper)) (v := undef) rfl (by kernel_rfl) (by kernel_rfl) (by kernel_rfl) (fun _ _ _ h => h) (Or.inr ⟨by rfl, rfl⟩) (by assumption) ?_
                  simp only [Act.put, List.setIfInBounds_toArray, List.set_cons_zero, List.set_cons_succ]
                  refine wpAnyH_take (i := 26) (oi := ({ dst := some 129, op := Op.indexAddr 57 (Operand.tmp 127) (Operand.tmp 128), type := 0, pos := _, after := #[{ on := 24, ground := Ground.data }, { on := 25, ground := Ground.data }, { on := 19, ground := Ground.guard }], guard := some (19, true) } : Oper)) (v := undef) rfl (by kernel_rfl) (by kernel_rfl) (by kernel_rfl) (fun _ _ _ h => h) (Or.inr ⟨by rfl, rfl⟩) (by assumption) ?_
                  simp only [Act.put, List.setIfInBounds_toArray, List.set_cons_zero, List.set_cons_succ]
                  refine wpAnyH_take (i := 27) (oi := ({ dst := some 130, op := Op.load 22 (Operand.tmp 129), type := 22, pos := _, after := #[{ on := 26, ground := Ground.data }, { on := 19, ground := Ground.guard }], guard := some (19, true) } : Oper)) (v := undef) rfl (by kernel_rfl) (by kernel_rfl) (by kernel_rfl) (fun _ _ _ h => h) (Or.inr ⟨by rfl, rfl⟩) (by assumption) ?_
                  simp only [Act.put, List.setIfInBounds_toArray, List.set_cons_zero, List.set_cons_succ]
                  refine wpAnyH_take (i := 28) (oi := ({ dst := some 131, op := Op.call { callee := Callee.value (Operand.func 41), args := #[Operand.tmp 126, Operand.tmp 130], argTypes := #[22, 22] }, type := 4, pos := _, after := #[{ on := 23, ground := Ground.data }, { on := 27, ground := Ground.data }, { on := 19, ground := Ground.chain }, { on := 19, ground := Ground.guard }], guard := some (19, true) } : Oper)) (v := undef) rfl (by kernel_rfl) (by kernel_rfl) (by kernel_rfl) (fun _ _ _ h => h) (Or.inr ⟨by rfl, rfl⟩) (by assumption) ?_
                  simp only [Act.put, List.setIfInBounds_toArray, List.set_cons_zero, List.set_cons_succ]
                  refine wpAnyH_take (i := 29) (oi := ({ dst := some 132, op := Op.pick (Operand.tmp 122) (Operand.tmp 131) (Operand.const (Value.bool false)), type := 4, pos := _, after := #[{ on := 19, ground := Ground.data }, { on := 28, ground := Ground.data }, { on := 15, ground := Ground.guard }], guard := some (15, false) } : Oper)) (v := ?_) rfl (by kernel_rfl) (by kernel_rfl) (by kernel_rfl) (fun _ _ _ h => h) (Or.inl ⟨by rfl, ?_⟩) (by assumption) ?_
                  rotate_left
                  · (intro w hSw; (try dsimp only at hSw); go_simp; try with_reducible rfl)
                  simp only [Act.put, List.setIfInBounds_toArray, List.set_cons_zero, List.set_cons_succ]
                  refine wpAnyH_take (i := 30) (oi := ({ dst := some 133, op := Op.pick (Operand.tmp 118) (Operand.const (Value.bool true)) (Operand.tmp 132), type := 4, pos := _, after := #[{ on := 15, ground := Ground.data }, { on := 29, ground := Ground.data }], guard := none } : Oper)) (v := ?_) rfl (by kernel_rfl) (by kernel_rfl) (by kernel_rfl) (fun _ _ _ h => h) (Or.inl ⟨by rfl, ?_⟩) (by assumption) ?_
                  rotate_left
                  · (intro w hSw; (try dsimp only at hSw); go_simp; try with_reducible rfl)
                  simp only [Act.put, List.setIfInBounds_toArray, List.set_cons_zero, List.set_cons_succ]
                  refine wpAnyH_done (by kernel_rfl) ?_ _
                  have hB9 := And.left ‹Below wc.heap.size wc V2 ∧ _›
                  go_wp2
                  go_roundw
                  case rel => exact ⟨a2 + 1, by omega, by go_num, bcat2 hBc hB9⟩
                  case measure => simp [intOf]; omega
                · have HNx := hide (fun (x y : Value) W h k => HNE.out x y W a2 b hlta hltb hab h k)
                  have hne : ((a2 : Int) != (b : Int)) = true := by simp; omega
                  go_wp2_with fail
                  go_region_held3 (fun W => Below wc.heap.size wc W ∧ W.cell? ⟨b11, 0, none⟩ = some (.int .i64 0) ∧ W.cell? ⟨w.heap.size, 0, none⟩ = some (.int .i64 n) ∧ W.cell? ⟨w.heap.size, 1, none⟩ = some (.slice au lu cu) ∧ W.cell? ⟨pb, po + ab, none⟩ = some (.slice (some ⟨rb3, ro3, none⟩) n rc3) ∧ W.cell? ⟨pb, po + a2, none⟩ = some (.slice (some ⟨rb, ro, none⟩) n rc) ∧ W.cell? ⟨pb, po + b, none⟩ = some (.slice (some ⟨rb', ro', none⟩) n rc'))
                    (first | exact hS0 | assumption | exact hS _ (bcat2 (And.left ‹_›) hl1))
                    (first
                      | (go_at_call 40; refine (HMx.out _ (huc.below (bcat2 hBc (And.left ‹_›)))).mono ?_; rintro r V1 ⟨rfl, hl1⟩)
                      | (go_at_call_of 41 (Value.slice am lm cm); refine (HEx.out _ _ _ (hm.below (And.left ‹_›)) (ks3.below (bcat2 hBc (And.left ‹_›)))).mono ?_; rintro r V2 ⟨rfl, hl1⟩)
                      | (go_at_call 41; refine (HNx.out _ _ _ (ks.below (bcat2 hBc (And.left ‹_›))) (ks'.below (bcat2 hBc (And.left ‹_›)))).mono ?_; rintro r V3 ⟨rfl, hl1⟩))
                  obtain ⟨hB9, _⟩ := ‹Below wc.heap.size wc V3 ∧ _›
                  go_wp2
                  go_roundw
                  case rel => exact ⟨b + 1, by omega, by go_num, bcat2 hBc hB9⟩
                  case measure => simp [intOf]; omega
            · go_wp2
              go_roundw
              case rel => exact ⟨a2 + 1, by omega, by go_num, hBb⟩
              case measure => simp [intOf]; omega
        · go_wp2
          go_ret
          exact ⟨rfl, bcat hBw hBa hBw.size⟩

set_option maxRecDepth 100000 in
set_option maxHeartbeats 8000000 in
theorem cayleyLaw_bad (N : Int) (zs : List Int) (u : Value) (w : World) (hu : SlA w u zs) (hbz : zs.length * 8 ≤ 140737488355328) (hf : (gfault N zs).1 ≠ 0) :
    Calls Try.prog 8 #[.agg #[.int .i64 N, u]] w fun r w' => r = .returned (.bool true) ∧ Below w.heap.size w w' := by
  obtain ⟨w0, hw0⟩ : ∃ w0, w0 = w.alloc (.cells #[.int .i64 N, u] 24) := ⟨_, rfl⟩
  have hB0 : Below w.heap.size w w0 := by rw [hw0]; exact balloc w _
  have hg0 : BoxG w0 w.heap.size N u := by rw [hw0]; exact blk0 _ _
  have hu0 := hu.up hB0 (by have := hg0.lt; omega)
  obtain ⟨au, cu, _, _, rfl, _⟩ := id hu0
  have HO := hide (fun W (h : Sl W (.slice au zs.length cu) zs) => ownGroup_any N (.slice au zs.length cu) zs W h hbz)
  have HC := hide (fun (x : Value) W (h : Sl W x zs) => cayley_bad N x zs W h hf)
  have HF := hide (fun W (h : Sl W (.slice au zs.length cu) zs) => groupFault_any N (.slice au zs.length cu) zs W h)
  obtain ⟨c, i, hci⟩ : ∃ c i, gfault N zs = (c, i) := ⟨_, _, rfl⟩
  rw [hci] at HC HF hf
  have hcb : (c != 0) = true := by simpa using hf
  generalize zs.length = lu at *
  clear hci hf
  go_enter Try.func8, Try.ntmps8
  have g0 := hg0.c0
  have g1 := hg0.c1
  rw [hw0] at g0 g1
  go_wp2_with fail
  rw [← hw0]
  clear hw0 g0 g1
  refine (HO.out _ hu0).mono ?_
  rintro r w1 ⟨x1, rfl, hx1, hb1⟩
  go_wp2_with fail
  refine (HC.out _ _ hx1).mono ?_
  rintro r w2 ⟨rfl, hb2⟩
  have al2 := bcat2 (bcat2 hb1 hb2) (balloc w2 (.cells #[.int .i64 c, .int .i64 i] 27))
  have N4 : Blk (w2.alloc (.cells #[.int .i64 c, .int .i64 i] 27)) w2.heap.size 27 [.int .i64 c, .int .i64 i] := blk0 _ _
  have g0 := below_cell al2 hg0.c0
  have g1 := below_cell al2 hg0.c1
  go_wp2_with fail
  refine (HF.out _ (hu0.below al2)).mono ?_
  rintro r w3 ⟨rfl, hb3⟩
  have al3 := bcat2 hb3 (balloc w3 (.cells #[.int .i64 c, .int .i64 i] 27))
  have N5 : Blk (w3.alloc (.cells #[.int .i64 c, .int .i64 i] 27)) w3.heap.size 27 [.int .i64 c, .int .i64 i] := blk0 _ _
  clear g0 g1
  go_wp2_with fail
  refine (begun_any _).mono ?_
  rintro r w4 ⟨rfl, hb4⟩
  have al4 := bcat2 al3 hb4
  have y0 := below_cell al4 N4.c0
  have y1 := below_cell al4 N4.c1
  have z0 := below_cell hb4 N5.c0
  have z1 := below_cell hb4 N5.c1
  have hBw := bcat hB0 (bcat2 al2 al4) hB0.size
  clear hb1 hb2 hb3 hb4 al2 al3 al4
  go_wp2
  go_ret
  exact ⟨rfl, hBw⟩
theorem cayleyLaw_any (N : Int) (zs : List Int) (u : Value) (w : World) (hu : SlA w u zs) (hbz : zs.length * 8 ≤ 140737488355328) :
    Calls Try.prog 8 #[.agg #[.int .i64 N, u]] w fun r w' => r = .returned (.bool true) ∧ Below w.heap.size w w' := by
  by_cases h1 : (gfault N zs).1 = 0
  · obtain ⟨n, e, rfl, hg, _⟩ := gfault_grp h1
    exact cayleyLaw_ok hg u w hu hbz
  · exact cayleyLaw_bad N zs u w hu hbz h1
end Go.Proofs.Ytpcgacelljbkdaa
