/- What the law QuotFirst answers: true, at every two tables and every list; its ways as premises. QuotFirst holds at every two tables and every list. The frame that all rows of this family share: how a table that came in reads. The frame that all rows of this family share: what the listed table gives a walk; how a list of ints that came in reads. -/
import Derived.Test.YtlhjeenijcokoaaGreatDoorZ13
import Derived.Test.YtlhjeenijcokoaaGreatDoorZ11
import Derived.Test.YtlhjeenijcokoaaGreatDoorRows
import Derived.Test.YtlhjeenijcokoaaGreatDoorZ1
import Derived.ProofKit
import Derived.OpenShut
import Derived.ChangeOld
import Derived.Below
import Derived.SizedLaws
import Derived.LaidMore
import Derived.Stop.Joined
import Derived.Stop.LaidErr
import Derived.Lib.LaidTab
namespace Go.Proofs.YtlhjeenijcokoaaGreatDoor
open Go Go.RowKit

set_option maxRecDepth 100000 in
set_option maxHeartbeats 4000000 in
theorem qfst_bad (N M c i : Int) (v1 : Option Addr) (v2 v3 : Nat) (y1 : Option Addr) (y2 y3 : Nat) (u1 : Option Addr) (u2 u3 : Nat) (w : World) (hT : Tab w) (hc : c ≠ 0)
    (HKE : Hid (∀ W, Below w.heap.size w W → Calls Tryz.prog 19 #[.agg #[.int .i64 N, .slice v1 v2 v3], .agg #[.int .i64 M, .slice y1 y2 y3], .slice u1 u2 u3] W fun x W' => x = .returned (.tuple #[.slice none 0 0, .agg #[.int .i64 c, .int .i64 i]]) ∧ Below W.heap.size W W'))
    (HIM : Hid (∀ W, Below w.heap.size w W → Calls Tryz.prog 20 #[.agg #[.int .i64 N, .slice v1 v2 v3], .agg #[.int .i64 M, .slice y1 y2 y3], .slice u1 u2 u3] W fun x W' => x = .returned (.tuple #[.slice none 0 0, .agg #[.int .i64 c, .int .i64 i]]) ∧ Below W.heap.size W W'))
    (HHF : Hid (∀ W, Below w.heap.size w W → Calls Tryz.prog 11 #[.agg #[.int .i64 N, .slice v1 v2 v3], .agg #[.int .i64 M, .slice y1 y2 y3], .slice u1 u2 u3] W fun x W' => x = .returned (.agg #[.int .i64 c, .int .i64 i]) ∧ Below W.heap.size W W')) :
    Calls Tryz.prog 4 #[.agg #[.int .i64 N, .slice v1 v2 v3], .agg #[.int .i64 M, .slice y1 y2 y3], .slice u1 u2 u3] w fun e w' => e = .returned (.bool true) ∧ Below w.heap.size w w' := by
  have hcb : (c != 0) = true := by simpa using hc
  obtain ⟨w0, hw0⟩ : ∃ w0, w0 = (w.alloc (.cells #[.int .i64 N, .slice v1 v2 v3] 24)).alloc (.cells #[.int .i64 M, .slice y1 y2 y3] 24) := ⟨_, rfl⟩
  have hB0 : Below w.heap.size w w0 := by rw [hw0]; exact (balloc w _).alloc (by simp) _
  have hX0 : BoxG w0 w.heap.size N (.slice v1 v2 v3) := by rw [hw0]; exact (blk0 (w := w) (T := 24) _ _).alloc _
  have hY0 : BoxG w0 (w.heap.size + 1) M (.slice y1 y2 y3) := by
    rw [hw0]
    have := blk0 (w := w.alloc (.cells #[.int .i64 N, .slice v1 v2 v3] 24)) (T := 24) (.int .i64 M) (.slice y1 y2 y3)
    rwa [World.size_alloc] at this
  have HQB := hide (fun W (h : Below w.heap.size w W) => quotBegun_any W (hT.below h))
  have hfld : ∀ W, Sem.run Tryz.prog (Instr.field 26 (.agg #[.int .i64 c, .int .i64 i]) 0) W = .ok (.int .i64 c) W := fun W => by kernel_rfl
  go_enter Tryz.func4, Tryz.ntmps4
  go_wp2_with fail
  rw [← hw0]
  clear hw0
  refine (HQB.out _ hB0).mono ?_
  rintro x w1 ⟨rfl, hb1⟩
  have hX1 := blk_below hX0 hb1
  have hY1 := blk_below hY0 hb1
  have hB1 := bcat2 hB0 hb1
  obtain ⟨c0, c1, _, _⟩ := hX1.two
  obtain ⟨d0, d1, _, _⟩ := hY1.two
  go_wp2_with fail
  clear c0 c1 d0 d1
  refine (HKE.out _ hB1).mono ?_
  rintro x w2 ⟨rfl, hb2⟩
  obtain ⟨w3, hw3⟩ : ∃ w3, w3 = w2.alloc (.cells #[.int .i64 c, .int .i64 i] 26) := ⟨_, rfl⟩
  have hb3 : Below w1.heap.size w1 w3 := by rw [hw3]; exact bcat2 hb2 (balloc w2 _)
  have hF3 : Blk w3 w2.heap.size 26 [.int .i64 c, .int .i64 i] := by rw [hw3]; exact blk0 _ _
  have hX3 := blk_below hX1 hb3
  have hY3 := blk_below hY1 hb3
  have hB3 := bcat2 hB1 hb3
  obtain ⟨c0, c1, _, _⟩ := hX3.two
  obtain ⟨d0, d1, _, _⟩ := hY3.two
  rw [hw3] at c0 c1 d0 d1
  go_wp2_with fail
  rw [← hw3]
  clear c0 c1 d0 d1 hw3
  refine (HIM.out _ hB3).mono ?_
  rintro x w4 ⟨rfl, hb4⟩
  obtain ⟨w5, hw5⟩ : ∃ w5, w5 = w4.alloc (.cells #[.int .i64 c, .int .i64 i] 26) := ⟨_, rfl⟩
  have hb5 : Below w3.heap.size w3 w5 := by rw [hw5]; exact bcat2 hb4 (balloc w4 _)
  have hB5 := bcat2 hB3 hb5
  have hF5 := blk_below hF3 hb5
  obtain ⟨c0, c1, _, _⟩ := (blk_below hX3 hb5).two
  obtain ⟨d0, d1, _, _⟩ := (blk_below hY3 hb5).two
  obtain ⟨e0, e1, _, _⟩ := hF5.two
  rw [hw5] at c0 c1 d0 d1 e0 e1
  go_wp2_with fail
  rw [← hw5]
  clear c0 c1 d0 d1 e0 e1 hw5
  refine (HHF.out _ hB5).mono ?_
  rintro x w6 ⟨rfl, hb6⟩
  go_wp2
  go_ret
  exact ⟨rfl, bcat2 hB5 hb6⟩
set_option maxRecDepth 100000 in
set_option maxHeartbeats 8000000 in
theorem qfst_good (n m K : Nat) (KL IL T1 T2 : List Int) (v1 : Option Addr) (v2 v3 : Nat) (y1 : Option Addr) (y2 y3 : Nat) (u1 : Option Addr) (u2 u3 : Nat) (w : World) (hT : Tab w)
    (HKE : Hid (∀ W, Below w.heap.size w W → Calls Tryz.prog 19 #[.agg #[.int .i64 n, .slice v1 v2 v3], .agg #[.int .i64 m, .slice y1 y2 y3], .slice u1 u2 u3] W fun x W' => ∃ r1 r2 r3, x = .returned (.tuple #[.slice r1 r2 r3, .agg #[.int .i64 0, .int .i64 0]]) ∧ Sl W' (.slice r1 r2 r3) KL ∧ Below W.heap.size W W'))
    (HIM : Hid (∀ W, Below w.heap.size w W → Calls Tryz.prog 20 #[.agg #[.int .i64 n, .slice v1 v2 v3], .agg #[.int .i64 m, .slice y1 y2 y3], .slice u1 u2 u3] W fun x W' => ∃ r1 r2 r3, x = .returned (.tuple #[.slice r1 r2 r3, .agg #[.int .i64 0, .int .i64 0]]) ∧ Sl W' (.slice r1 r2 r3) IL ∧ Below W.heap.size W W'))
    (HQU : Hid (∀ W k1 k2 k3, Below w.heap.size w W → Sl W (.slice k1 k2 k3) KL → Calls Tryz.prog 21 #[.agg #[.int .i64 n, .slice v1 v2 v3], .slice k1 k2 k3] W fun x W' => ∃ r1 r2 r3 s1 s2 s3, x = .returned (.tuple #[.agg #[.int .i64 K, .slice r1 r2 r3], .slice s1 s2 s3, .agg #[.int .i64 0, .int .i64 0]]) ∧ Sl W' (.slice r1 r2 r3) T1 ∧ Below W.heap.size W W'))
    (HPA : Hid (∀ W k1 k2 k3, Below w.heap.size w W → Sl W (.slice k1 k2 k3) IL → Calls Tryz.prog 22 #[.agg #[.int .i64 m, .slice y1 y2 y3], .slice k1 k2 k3] W fun x W' => ∃ r1 r2 r3, x = .returned (.tuple #[.agg #[.int .i64 K, .slice r1 r2 r3], .agg #[.int .i64 0, .int .i64 0]]) ∧ Sl W' (.slice r1 r2 r3) T2 ∧ Below W.heap.size W W'))
    (HIS : Hid (∀ W k1 k2 k3 l1 l2 l3, Below w.heap.size w W → Sl W (.slice k1 k2 k3) T1 → Sl W (.slice l1 l2 l3) T2 → Calls Tryz.prog 7 #[.agg #[.int .i64 K, .slice k1 k2 k3], .agg #[.int .i64 K, .slice l1 l2 l3]] W fun x W' => ∃ r1 r2 r3 L, x = .returned (.tuple #[.slice r1 r2 r3, .agg #[.int .i64 0, .int .i64 0]]) ∧ Sl W' (.slice r1 r2 r3) L ∧ hfault K T1 K T2 L = (0, 0) ∧ o1 K L = true ∧ L.length = K ∧ Below W.heap.size W W')) (hK : K ≤ 60) :
    Calls Tryz.prog 4 #[.agg #[.int .i64 n, .slice v1 v2 v3], .agg #[.int .i64 m, .slice y1 y2 y3], .slice u1 u2 u3] w fun e w' => e = .returned (.bool true) ∧ Below w.heap.size w w' := by
  obtain ⟨w0, hw0⟩ : ∃ w0, w0 = (w.alloc (.cells #[.int .i64 n, .slice v1 v2 v3] 24)).alloc (.cells #[.int .i64 m, .slice y1 y2 y3] 24) := ⟨_, rfl⟩
  have hB0 : Below w.heap.size w w0 := by rw [hw0]; exact (balloc w _).alloc (by simp) _
  have hX0 : BoxG w0 w.heap.size n (.slice v1 v2 v3) := by rw [hw0]; exact (blk0 (w := w) (T := 24) _ _).alloc _
  have hY0 : BoxG w0 (w.heap.size + 1) m (.slice y1 y2 y3) := by
    rw [hw0]
    have := blk0 (w := w.alloc (.cells #[.int .i64 n, .slice v1 v2 v3] 24)) (T := 24) (.int .i64 m) (.slice y1 y2 y3)
    rwa [World.size_alloc] at this
  have HQB := hide (fun W (h : Below w.heap.size w W) => quotBegun_any W (hT.below h))
  have hfld : ∀ W, Sem.run Tryz.prog (Instr.field 26 (.agg #[.int .i64 0, .int .i64 0]) 0) W = .ok (.int .i64 0) W := fun W => by kernel_rfl
  go_enter Tryz.func4, Tryz.ntmps4
  go_wp2_with fail
  rw [← hw0]
  clear hw0
  refine (HQB.out _ hB0).mono ?_
  rintro x w1 ⟨rfl, hb1⟩
  have hX1 := blk_below hX0 hb1
  have hY1 := blk_below hY0 hb1
  have hB1 := bcat2 hB0 hb1
  obtain ⟨c0, c1, _, _⟩ := hX1.two
  obtain ⟨d0, d1, _, _⟩ := hY1.two
  go_wp2_with fail
  clear c0 c1 d0 d1
  refine (HKE.out _ hB1).mono ?_
  rintro x w2 ⟨k1, k2, k3, rfl, hsK, hb2⟩
  obtain ⟨w3, hw3⟩ : ∃ w3, w3 = w2.alloc (.cells #[.int .i64 0, .int .i64 0] 26) := ⟨_, rfl⟩
  have hbw3 : Below w2.heap.size w2 w3 := by rw [hw3]; exact balloc w2 _
  have hb3 := bcat2 hb2 hbw3
  have hF3 : Blk w3 w2.heap.size 26 [.int .i64 0, .int .i64 0] := by rw [hw3]; exact blk0 _ _
  have hK3 := hsK.below hbw3
  have hX3 := blk_below hX1 hb3
  have hY3 := blk_below hY1 hb3
  have hB3 := bcat2 hB1 hb3
  obtain ⟨c0, c1, _, _⟩ := hX3.two
  obtain ⟨d0, d1, _, _⟩ := hY3.two
  rw [hw3] at c0 c1 d0 d1
  go_wp2_with fail
  rw [← hw3]
  clear c0 c1 d0 d1 hw3
  refine (HIM.out _ hB3).mono ?_
  rintro x w4 ⟨l1, l2, l3, rfl, hsI, hb4⟩
  obtain ⟨w5, hw5⟩ : ∃ w5, w5 = w4.alloc (.cells #[.int .i64 0, .int .i64 0] 26) := ⟨_, rfl⟩
  have hbw5 : Below w4.heap.size w4 w5 := by rw [hw5]; exact balloc w4 _
  have hb5 := bcat2 hb4 hbw5
  have hG5 : Blk w5 w4.heap.size 26 [.int .i64 0, .int .i64 0] := by rw [hw5]; exact blk0 _ _
  have hI5 := hsI.below hbw5
  have hK5 := hK3.below hb5
  have hB5 := bcat2 hB3 hb5
  have hF5 := blk_below hF3 hb5
  have hX5 := blk_below hX3 hb5
  have hY5 := blk_below hY3 hb5
  obtain ⟨c0, c1, _, _⟩ := hX5.two
  obtain ⟨e0, e1, _, _⟩ := hF5.two
  obtain ⟨f0, f1, _, _⟩ := hG5.two
  rw [hw5] at c0 c1 e0 e1 f0 f1
  go_wp2_with fail
  rw [← hw5]
  clear c0 c1 e0 e1 f0 f1 hw5
  refine (HQU.out _ _ _ _ hB5 hK5).mono ?_
  rintro x w6 ⟨q1, q2, q3, s1, s2, s3, rfl, hsQ, hb6⟩
  obtain ⟨w7, hw7⟩ : ∃ w7, w7 = w6.alloc (.cells #[.int .i64 K, .slice q1 q2 q3] 24) := ⟨_, rfl⟩
  have hbw7 : Below w6.heap.size w6 w7 := by rw [hw7]; exact balloc w6 _
  have hb7 := bcat2 hb6 hbw7
  have hQ7 : BoxG w7 w6.heap.size K (.slice q1 q2 q3) := by rw [hw7]; exact blk0 _ _
  have hsQ7 := hsQ.below hbw7
  have hI7 := hI5.below hb7
  have hB7 := bcat2 hB5 hb7
  have hF7 := blk_below hF5 hb7
  have hG7 := blk_below hG5 hb7
  have hY7 := blk_below hY5 hb7
  obtain ⟨d0, d1, _, _⟩ := hY7.two
  obtain ⟨e0, e1, fe0, fe1⟩ := hF7.two
  obtain ⟨z0, z1⟩ := hF7.self
  rw [hw7] at d0 d1 e0 e1 fe0 fe1 z0 z1
  go_wp2_with fail
  rw [← hw7]
  clear d0 d1 e0 e1 fe0 fe1 z0 z1 hw7
  refine (HPA.out _ _ _ _ hB7 hI7).mono ?_
  rintro x w8 ⟨p1, p2, p3, rfl, hsP, hb8⟩
  obtain ⟨w9, hw9⟩ : ∃ w9, w9 = w8.alloc (.cells #[.int .i64 K, .slice p1 p2 p3] 24) := ⟨_, rfl⟩
  have hbw9 : Below w8.heap.size w8 w9 := by rw [hw9]; exact balloc w8 _
  have hb9 := bcat2 hb8 hbw9
  have hP9 : BoxG w9 w8.heap.size K (.slice p1 p2 p3) := by rw [hw9]; exact blk0 _ _
  have hsP9 := hsP.below hbw9
  have hsQ9 := hsQ7.below hb9
  have hQ9 := blk_below hQ7 hb9
  have hB9 := bcat2 hB7 hb9
  have hF9 := blk_below hF7 hb9
  have hG9 := blk_below hG7 hb9
  obtain ⟨d0, d1, _, _⟩ := hQ9.two
  obtain ⟨a0, a1, _, _⟩ := hP9.two
  obtain ⟨e0, e1, _, _⟩ := hF9.two
  obtain ⟨f0, f1, ff0, ff1⟩ := hG9.two
  obtain ⟨z0, z1⟩ := hG9.self
  rw [hw9] at d0 d1 a0 a1 e0 e1 f0 f1 ff0 ff1 z0 z1
  go_wp2_with fail
  rw [← hw9]
  clear d0 d1 a0 a1 e0 e1 f0 f1 ff0 ff1 z0 z1 hw9
  refine (HIS.out _ _ _ _ _ _ _ hB9 hsQ9 hsP9).mono ?_
  rintro x wA ⟨i1, i2, i3, L, rfl, hsL, hfl, ho1, hll, hbA⟩
  obtain ⟨wB, hwB⟩ : ∃ wB, wB = wA.alloc (.cells #[.int .i64 0, .int .i64 0] 26) := ⟨_, rfl⟩
  have hbwB : Below wA.heap.size wA wB := by rw [hwB]; exact balloc wA _
  have hbB := bcat2 hbA hbwB
  have hJB : Blk wB wA.heap.size 26 [.int .i64 0, .int .i64 0] := by rw [hwB]; exact blk0 _ _
  have hLB := hsL.below hbwB
  have hQB := blk_below hQ9 hbB
  have hPB := blk_below hP9 hbB
  have hBB := bcat2 hB9 hbB
  have HHF := hide (rhom_any K K (.slice q1 q2 q3) (.slice p1 p2 p3) (.slice i1 i2 i3) T1 T2 L wB (hsQ9.below hbB) (hsP9.below hbB) hLB)
  rw [hfl] at HHF
  have HON := hide (fun W (h : Below wB.heap.size wB W) => one_ok K (.slice i1 i2 i3) L W (hLB.below h) hll (by omega))
  rw [ho1] at HON
  obtain ⟨d0, d1, _, _⟩ := hQB.two
  obtain ⟨a0, a1, _, _⟩ := hPB.two
  obtain ⟨e0, e1, _, _⟩ := hJB.two
  rw [hwB] at d0 d1 a0 a1 e0 e1
  go_wp2_with fail
  rw [← hwB]
  clear d0 d1 a0 a1 e0 e1 hwB
  refine HHF.out.mono ?_
  rintro x wC ⟨rfl, hbC⟩
  obtain ⟨a0, a1, _, _⟩ := (blk_below hPB hbC).two
  go_wp2_with fail
  clear a0 a1
  refine (HON.out _ hbC).mono ?_
  rintro x wD ⟨rfl, hbD⟩
  go_wp2
  go_ret
  exact ⟨rfl, bcat2 hBB (bcat2 hbC hbD)⟩
end Go.Proofs.YtlhjeenijcokoaaGreatDoor

namespace Go.Proofs.YtlhjeenijcokoaaGreatDoor
open Go Go.RowKit

section
variable {n e m d : Nat} {zs ys : List Int} {φ : Nat → Nat}
theorem ker_pset (H : ∀ a, a < n → kerq (li ((List.range n).map φ)) d a = decide ((φ a : Int) = (d : Int))) {a : Nat} (ha : a < n) : pset (li (lst n (kerq (li ((List.range n).map φ)) d))) a = true ↔ φ a = d := by
  rw [pset_lst ha, H a ha, decide_eq_true_eq]
  omega
theorem img_pset {y : Nat} (hy : y < m) : pset (li (lst m (fun a => decide (a ∈ (List.range n).map φ)))) y = true ↔ ∃ a, a < n ∧ φ a = y := by
  rw [pset_lst hy, decide_eq_true_eq, List.mem_map]
  exact ⟨fun ⟨a, h1, h2⟩ => ⟨a, List.mem_range.1 h1, h2⟩, fun ⟨a, h1, h2⟩ => ⟨a, List.mem_range.2 h1, h2⟩⟩
theorem sub_of {p : Nat → Bool} {P : Nat → Prop} (hp : ∀ a, a < n → (p a = true ↔ P a)) (g : IsGrp n zs e) (h : Fin.Sg (List.range n) (tm n zs) e P) : subT n zs e p = true :=
  subT_iff.2 ⟨(hp e g.elt).2 h.1, fun a b ha hb h1 h2 => (hp _ (tm_lt g.tab (List.mem_range.1 ha) (List.mem_range.1 hb))).2 (h.2 a b ha hb ((hp a (List.mem_range.1 ha)).1 h1) ((hp b (List.mem_range.1 hb)).1 h2))⟩
theorem nrm_of {p : Nat → Bool} {P : Nat → Prop} (hp : ∀ a, a < n → (p a = true ↔ P a)) (g : IsGrp n zs e) (h : Fin.Nm (List.range n) (tm n zs) (iv n zs e) P) : nrmq n zs e p = true :=
  (nrm_iff g).2 fun x a hx ha hk => by
    have hx' := List.mem_range.1 hx
    have ha' := List.mem_range.1 ha
    exact (hp _ (tm_lt g.tab (iv_spec g ha').1 (tm_lt g.tab hx' ha'))).2 (h x a hx ha ((hp x hx').1 hk))
end
theorem qfst_law (N M : Int) (v y u : Value) (zs ys ms : List Int) (w : World) (hv : Sl w v zs) (hy : Sl w y ys) (hu : Sl w u ms) (hT : Tab w) :
    Calls Tryz.prog 4 #[.agg #[.int .i64 N, v], .agg #[.int .i64 M, y], u] w fun e w' => e = .returned (.bool true) ∧ Below w.heap.size w w' := by
  obtain ⟨v1, v2, v3, rfl⟩ := hv.isSlice
  obtain ⟨y1, y2, y3, rfl⟩ := hy.isSlice
  obtain ⟨u1, u2, u3, rfl⟩ := hu.isSlice
  by_cases hc : (hfault N zs M ys ms).1 = 0
  · obtain ⟨n, e, m, d, rfl, rfl, hg, hh⟩ := hfault_grp hc
    obtain ⟨h0, hl, φ, H, rfl⟩ := hom_of hg hh hc
    have hn60 := hg.tab.le
    have hm60 := hh.tab.le
    have hker : ∀ a, a < n → kerq (li ((List.range n).map φ)) d a = decide ((φ a : Int) = (d : Int)) := fun a ha => by
      unfold kerq
      rw [li_map_get ha]
    have hp := fun a (ha : a < n) => ker_pset hker ha
    have hq := fun y (hy : y < m) => img_pset (n := n) (φ := φ) hy
    have hps := sub_of hp hg (ker_sg hg hh H)
    have hpN := nrm_of hp hg (ker_nm hg hh H)
    have hqs : subT m ys d (pset (li (lst m (fun a => decide (a ∈ (List.range n).map φ))))) = true := sub_of (P := fun y => y ∈ (List.range n).map φ) (fun y hy => by rw [pset_lst hy, decide_eq_true_eq]) hh (img_sg hg hh H)
    obtain ⟨hK, f, A⟩ := first_iso hg hh H hp hps hpN hq hqs
    have hgQ := quo_grp hg hps hpN
    have hgP := part_grp hh hqs
    have HIM := fun W (h : Below w.heap.size w W) => image_good n m (.slice v1 v2 v3) (.slice y1 y2 y3) (.slice u1 u2 u3) zs ys ((List.range n).map φ) W (hv.below h) (hy.below h) (hu.below h) (hT.below h) hm60 (fun x hx => by
      obtain ⟨a, ha, rfl⟩ := List.mem_map.1 hx
      exact H.lt a (List.mem_range.1 ha)) (by simpa using hn60) h0
    refine qfst_good n m (fsts n (rgtq n zs (lst n (pset (li (lst n (kerq (li ((List.range n).map φ)) d)))))) n).length (li (lst n (kerq (li ((List.range n).map φ)) d))) (li (lst m (fun a => decide (a ∈ (List.range n).map φ)))) (mkT (fsts n (rgtq n zs (lst n (pset (li (lst n (kerq (li ((List.range n).map φ)) d)))))) n).length (quoF n zs (rgtq n zs (lst n (pset (li (lst n (kerq (li ((List.range n).map φ)) d)))))))) (mkT (fsts n (rgtq n zs (lst n (pset (li (lst n (kerq (li ((List.range n).map φ)) d)))))) n).length (parF m ys (lst m (pset (li (lst m (fun a => decide (a ∈ (List.range n).map φ)))))))) v1 v2 v3 y1 y2 y3 u1 u2 u3 w hT
      (hide fun W h => kernel_good n e m d (.slice v1 v2 v3) (.slice y1 y2 y3) (.slice u1 u2 u3) zs ys _ W (hv.below h) hg (hy.below h) hh (hu.below h) (hT.below h) h0)
      (hide HIM)
      (hide fun W k1 k2 k3 h hk => ?_)
      (hide fun W k1 k2 k3 h hk => ?_)
      (hide fun W k1 k2 k3 l1 l2 l3 h h1 h2 => ?_) (Nat.le_trans (fsts_len _ _ _) hn60)
    · refine (quo_good n e (.slice v1 v2 v3) (.slice k1 k2 k3) zs _ W (hv.below h) hg hk (hT.below h) (lst_fault n _) hps hpN).mono ?_
      rintro x W' ⟨r1, r2, r3, s1, s2, s3, rfl, hr, _, hb⟩
      exact ⟨r1, r2, r3, s1, s2, s3, rfl, hr, hb⟩
    · refine (part_good m d (.slice y1 y2 y3) (.slice k1 k2 k3) ys _ W (hy.below h) hh hk (hT.below h) (lst_fault m _) hqs).mono ?_
      rintro x W' ⟨r1, r2, r3, rfl, hr, hb⟩
      rw [← hK] at hr ⊢
      exact ⟨r1, r2, r3, rfl, hr, hb⟩
    · rw [← hK] at hgP A
      refine (hiso_any _ _ _ _ (.slice k1 k2 k3) (.slice l1 l2 l3) _ _ W h1 hgQ h2 hgP (hT.below h)).mono ?_
      rintro x W' ⟨hb, ⟨ψ, g, hnm, B, rfl, hgs, hM⟩ | ⟨rfl, hno⟩⟩
      · have hll : (li ((List.range (fsts n (rgtq n zs (lst n (pset (li (lst n (kerq (li ((List.range n).map φ)) d)))))) n).length).map ψ)).length = (fsts n (rgtq n zs (lst n (pset (li (lst n (kerq (li ((List.range n).map φ)) d)))))) n).length := by rw [li_len]; simp
        exact ⟨_, _, _, _, rfl, Sl.of_blk hM hll.symm (by rw [hll]; exact Nat.le_trans (fsts_len _ _ _) (by omega)), of_hom hgQ hgP B.hom hll (fun a ha => li_map_get ha), B.o1 rfl, hll, hb⟩
      · exact absurd ⟨f, A⟩ (hno rfl)
  · exact qfst_bad N M _ _ v1 v2 v3 y1 y2 y3 u1 u2 u3 w hT hc
      (hide fun W h => kernel_bad N M (.slice v1 v2 v3) (.slice y1 y2 y3) (.slice u1 u2 u3) zs ys ms W (hv.below h) (hy.below h) (hu.below h) hc)
      (hide fun W h => image_bad N M (.slice v1 v2 v3) (.slice y1 y2 y3) (.slice u1 u2 u3) zs ys ms W (hv.below h) (hy.below h) (hu.below h) hc)
      (hide fun W h => rhom_any N M (.slice v1 v2 v3) (.slice y1 y2 y3) (.slice u1 u2 u3) zs ys ms W (hv.below h) (hy.below h) (hu.below h))
end Go.Proofs.YtlhjeenijcokoaaGreatDoor

namespace Go.Proofs.YtlhjeenijcokoaaGreatDoor
open Go.ChangeShapes Go.WideShapes Go.ChangeAt Go.RowKit

theorem own : ownKnob Tryz.prog.godebug = none := by kernel_rfl
theorem laidOut : laidOutB Tryz.prog = true := by kernel_rfl

/-- A slice of ints that reads as zs; where nothing is in it, nothing is told of the memory. -/
def SlA (w : World) (v : Value) (zs : List Int) : Prop := ∃ a cap pb po, v = .slice a zs.length cap ∧ Reads w a pb po zs ∧ (0 < zs.length → pb < w.heap.size) ∧ zs.length ≤ cap ∧ cap ≤ maxLen
theorem SlA.up {w w' : World} {v : Value} {zs : List Int} (h : SlA w v zs) (hb : Below w.heap.size w w') (h0 : 0 < w'.heap.size) : Sl w' v zs := by
  obtain ⟨a, cap, pb, po, hv, hr, hp, h1, h2⟩ := h
  rcases Nat.eq_zero_or_pos zs.length with hz | hz
  · exact ⟨a, cap, 0, 0, hv, ⟨fun h => by omega, fun j hj => by omega⟩, h0, h1, h2⟩
  · exact ⟨a, cap, pb, po, hv, hr.below hb (hp hz), Nat.lt_of_lt_of_le (hp hz) hb.size, h1, h2⟩
theorem SlA.of {w : World} {v : Value} {zs : List Int} (h : Sl w v zs) : SlA w v zs := by
  obtain ⟨a, cap, pb, po, hv, hr, hp, h1, h2⟩ := h
  exact ⟨a, cap, pb, po, hv, hr, fun _ => hp, h1, h2⟩

theorem und24 : ∃ f0 f1 : Field, Tryz.prog.underlying 24 = some (.struct #[f0, f1]) ∧ f0.type = 3 ∧ f1.type = 22 ∧ f0.offset = 0 ∧ f1.offset = 1 := ⟨_, _, Tryz.underlying24, rfl, rfl, rfl, rfl⟩
theorem und3 : Tryz.prog.underlying 3 = some (.int .i64) := by kernel_rfl
theorem und22 : Tryz.prog.underlying 22 = some (.slice 3) := by kernel_rfl
theorem und4 : Tryz.prog.underlying 4 = some .bool := by kernel_rfl

set_option maxRecDepth 100000 in
/-- What is told of a table that came in. -/
theorem open_group {H : Type} {enc : TypeId × Value → H} {W : World} {b0 : Nat} {v : Value} {d : DataW H} {ps : List MemPlace} (hval : Value.okWide Tryz.prog W .any b0 24 v)
    (hd : DataW.Trod enc Tryz.prog W 0 (fun _ => true) true 24 v d ps) :
    ∃ N u zs, v = .agg #[.int .i64 N, u] ∧ SlA W u zs ∧ (Lit.int .i64 N).wf = true ∧ ((d.weights Tryz.prog 24).all (· ≤ reachBytes) = true → zs.length * 8 ≤ 140737488355328) := by
  obtain ⟨f0, f1, hu, ht0, ht1, ho0, ho1⟩ := und24
  obtain ⟨cs, rfl, hsz⟩ := okWide_struct hu hval
  rw [show Tryz.prog.cellsOf 24 = 2 by kernel_rfl] at hsz
  obtain ⟨l⟩ := cs
  match l, hsz with
  | [c0, c1], _ =>
  obtain ⟨fuel, hf⟩ := hd
  obtain ⟨y0, y1, m, hx, _, hy0, hy1⟩ := trod_struct2 hu hf
  rw [ht0, ho0, show Tryz.prog.cellsOf 3 = 1 by kernel_rfl] at hy0
  rw [ht1, ho1, show Tryz.prog.cellsOf 22 = 1 by kernel_rfl] at hy1
  obtain ⟨N, e0, rfl, wN⟩ := DataW.trod_int und3 hy0
  simp [Value.cells] at e0
  subst e0
  simp [Value.cells] at hy1
  rcases open_ints und22 und3 (by kernel_rfl) hy1 with ⟨hcs, _⟩ | ⟨x, l, c, zs, hcs, _, hl, hm, hz, heq, hcell, hwz⟩
  · simp at hcs
    subst hcs
    exact ⟨N, _, [], rfl, ⟨none, 0, 0, 0, rfl, ⟨by simp, by simp⟩, by simp, by simp, by unfold maxLen; omega⟩, wN, fun _ => by simp⟩
  · simp at hcs
    subst hcs
    have hzc : zs.length = c := by simpa using hz
    have hlen : (zs.take l).length = l := by rw [List.length_take]; omega
    refine ⟨N, _, zs.take l, rfl, ?_, wN, fun hw => ?_⟩
    · by_cases hpos : 0 < c
      · obtain ⟨b, o, rfl, hc'⟩ := ints_at hcell (by omega)
        refine ⟨some ⟨b, o, none⟩, c, b, o, by rw [hlen], ⟨fun _ => rfl, fun j hj => ?_⟩, fun _ => World.block_lt_of_cell? W _ (hc' 0 (by omega)), by omega, hm⟩
        rw [hlen] at hj
        rw [hc' j (by omega), List.getElem?_take, if_pos hj, List.getD_eq_getElem?_getD]
      · have : l = 0 := by omega
        subst this
        exact ⟨some x, c, 0, 0, by simp, ⟨by simp, by simp⟩, by simp, by simp, hm⟩
    · have hd : d = .agg [.lit (.int .i64 N), .slice (lits .i64 (zs.take l)) (lits .i64 (zs.drop l))] := by
        have h1 := congrArg Prod.fst hx
        simp only [heq] at h1
        exact h1
      have hw2 := List.all_eq_true.1 hw (((lits (H := H) .i64 (zs.take l)).length + (lits (H := H) .i64 (zs.drop l)).length) * Tryz.prog.bytesOf 3) (by
        rw [hd]; simp [DataW.weights, DataW.weightsEach, hu, ht0, ht1])
      rw [show Tryz.prog.bytesOf 3 = 8 by kernel_rfl] at hw2
      simp only [lits, List.length_map, decide_eq_true_eq] at hw2
      unfold reachBytes at hw2
      omega
end Go.Proofs.YtlhjeenijcokoaaGreatDoor

namespace Go.Proofs.YtlhjeenijcokoaaGreatDoor
open Go.ChangeShapes Go.WideShapes Go.ChangeAt Go.RowKit

/-- What the rows list. -/
def laid1 : List (String × DataW Unit) := Rows.homIsoRow.laid
def tabZ : List Int := Lib.deBruijn64tab.map fun (x : Nat) => (x : Int)
theorem tab_data : (Rows.laid_math_bits_deBruijn64tab : DataW Unit) = Lib.tabData .u8 tabZ := by kernel_rfl
/-- The door's own heap meets the condition. -/
theorem door_met (os : Os) (args : Array Value) : laidMetH Tryz.prog laid1 ((World.doorLaid Tryz.prog 400 os).forCall (fun _ _ => 0) ⟨#[], args, []⟩).memory :=
  laidMetH_of_parts3 (fuel := 8) (laidMet_of_run' 8 (by kernel_rfl) (by kernel_rfl)) (by kernel_rfl) (by kernel_rfl)
theorem tab_of_laid {W : World} (h : laidMetH Tryz.prog laid1 W) : Tab W := by
  rw [MakeChecks.laidMetH_plain _ _ _ (by kernel_rfl)] at h
  have h2 : laidMet Tryz.prog [("math/bits.deBruijn64tab", (Rows.laid_math_bits_deBruijn64tab : DataW Unit))] W := h
  rw [tab_data] at h2
  have hg : Tryz.prog.globalNamed "math/bits.deBruijn64tab" = some 0 := by kernel_rfl
  have hT := Lib.tabIs_of_head hg (t := 131) (e := 5) (n := 64) (by kernel_rfl) (by kernel_rfl) (by kernel_rfl) (by kernel_rfl) (by kernel_rfl) h2
  intro j hj
  have hj' : j < tabZ.length := by simpa [tabZ] using hj
  have hc := hT.cell hg j hj'
  rw [hc]
  simp [tabZ, hj]
set_option maxRecDepth 100000 in
/-- A list of ints that came in: its value, what it reads as, and its size. -/
theorem open_list {H : Type} {enc : TypeId × Value → H} {W : World} {b0 : Nat} {v : Value} {d : DataW H} {ps : List MemPlace} (hval : Value.okWide Tryz.prog W .any b0 22 v)
    (hd : DataW.Trod enc Tryz.prog W 0 (fun _ => true) true 22 v d ps) (h0 : 0 < W.heap.size) :
    ∃ zs, Sl W v zs ∧ ((d.weights Tryz.prog 22).all (· ≤ reachBytes) = true → zs.length * 8 ≤ 140737488355328) := by
  obtain ⟨a, len, cap, rfl⟩ := okWide_slice und22 hval
  obtain ⟨fuel, hf⟩ := hd
  rcases open_ints und22 und3 (by kernel_rfl) hf with ⟨hcs, _⟩ | ⟨x, l, c, zs, hcs, _, hl, hm, hz, heq, hcell, hwz⟩
  · simp [Value.cells] at hcs
    obtain ⟨rfl, rfl, rfl⟩ := hcs
    exact ⟨[], Sl.nil h0, fun _ => by simp⟩
  · simp [Value.cells] at hcs
    obtain ⟨rfl, rfl, rfl⟩ := hcs
    have hzc : zs.length = cap := by simpa using hz
    have hlen : (zs.take len).length = len := by rw [List.length_take]; omega
    refine ⟨zs.take len, ?_, fun hw => ?_⟩
    · by_cases hpos : 0 < cap
      · obtain ⟨b, o, rfl, hc'⟩ := ints_at hcell (by omega)
        refine ⟨some ⟨b, o, none⟩, cap, b, o, by rw [hlen], ⟨fun _ => rfl, fun j hj => ?_⟩, World.block_lt_of_cell? W _ (hc' 0 (by omega)), by omega, hm⟩
        rw [hlen] at hj
        rw [hc' j (by omega), List.getElem?_take, if_pos hj, List.getD_eq_getElem?_getD]
      · have : len = 0 := by omega
        subst this
        exact ⟨some x, cap, 0, 0, by simp, ⟨by simp, by simp⟩, h0, by simp, hm⟩
    · simp only [Prod.mk.injEq] at heq
      have hw2 := List.all_eq_true.1 hw (((lits (H := H) .i64 (zs.take len)).length + (lits (H := H) .i64 (zs.drop len)).length) * Tryz.prog.bytesOf 3) (by
        rw [heq.1]; simp [DataW.weights])
      rw [show Tryz.prog.bytesOf 3 = 8 by kernel_rfl] at hw2
      simp only [lits, List.length_map, decide_eq_true_eq] at hw2
      unfold reachBytes at hw2
      omega
end Go.Proofs.YtlhjeenijcokoaaGreatDoor
