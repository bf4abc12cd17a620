/- What the law QuotFirst answers: true, at every two tables and every list; its ways as premises. QuotFirst holds at every two tables and every list. The second theorem of isomorphisms as mathematics. The closures of the law QuotSecond, and the document's Both. What the law QuotSecond answers: true, at every table and every two lists; its ways as premises. The law QuotSecond at a group. QuotSecond holds at every table and every two lists. The frame that all rows of this family share: how a table that came in reads. The frame that all rows of this family share: what the listed table gives a walk; how a list of ints that came in reads. -/
import Derived.Test.YtlhjeenijcokoaaGreatDoorZ13
import Derived.Test.YtlhjeenijcokoaaGreatDoorZ11
import Derived.Test.YtlhjeenijcokoaaGreatDoorRows
import Derived.Test.YtlhjeenijcokoaaGreatDoorZ1
import Derived.ProofKit
import Derived.OpenShut
import Derived.ChangeOld
import Derived.Below
import Derived.SizedLaws
import Derived.LaidMore
import Derived.Stop.Joined
import Derived.Stop.LaidErr
import Derived.Lib.LaidTab
namespace Go.Proofs.YtlhjeenijcokoaaGreatDoor
open Go Go.RowKit

set_option maxRecDepth 100000 in
set_option maxHeartbeats 4000000 in
theorem qfst_bad (N M c i : Int) (v1 : Option Addr) (v2 v3 : Nat) (y1 : Option Addr) (y2 y3 : Nat) (u1 : Option Addr) (u2 u3 : Nat) (w : World) (hT : Tab w) (hc : c ≠ 0)
    (HKE : Hid (∀ W, Below w.heap.size w W → Calls Tryz.prog 19 #[.agg #[.int .i64 N, .slice v1 v2 v3], .agg #[.int .i64 M, .slice y1 y2 y3], .slice u1 u2 u3] W fun x W' => x = .returned (.tuple #[.slice none 0 0, .agg #[.int .i64 c, .int .i64 i]]) ∧ Below W.heap.size W W'))
    (HIM : Hid (∀ W, Below w.heap.size w W → Calls Tryz.prog 20 #[.agg #[.int .i64 N, .slice v1 v2 v3], .agg #[.int .i64 M, .slice y1 y2 y3], .slice u1 u2 u3] W fun x W' => x = .returned (.tuple #[.slice none 0 0, .agg #[.int .i64 c, .int .i64 i]]) ∧ Below W.heap.size W W'))
    (HHF : Hid (∀ W, Below w.heap.size w W → Calls Tryz.prog 11 #[.agg #[.int .i64 N, .slice v1 v2 v3], .agg #[.int .i64 M, .slice y1 y2 y3], .slice u1 u2 u3] W fun x W' => x = .returned (.agg #[.int .i64 c, .int .i64 i]) ∧ Below W.heap.size W W')) :
    Calls Tryz.prog 4 #[.agg #[.int .i64 N, .slice v1 v2 v3], .agg #[.int .i64 M, .slice y1 y2 y3], .slice u1 u2 u3] w fun e w' => e = .returned (.bool true) ∧ Below w.heap.size w w' := by
  have hcb : (c != 0) = true := by simpa using hc
  obtain ⟨w0, hw0⟩ : ∃ w0, w0 = (w.alloc (.cells #[.int .i64 N, .slice v1 v2 v3] 24)).alloc (.cells #[.int .i64 M, .slice y1 y2 y3] 24) := ⟨_, rfl⟩
  have hB0 : Below w.heap.size w w0 := by rw [hw0]; exact (balloc w _).alloc (by simp) _
  have hX0 : BoxG w0 w.heap.size N (.slice v1 v2 v3) := by rw [hw0]; exact (blk0 (w := w) (T := 24) _ _).alloc _
  have hY0 : BoxG w0 (w.heap.size + 1) M (.slice y1 y2 y3) := by
    rw [hw0]
    have := blk0 (w := w.alloc (.cells #[.int .i64 N, .slice v1 v2 v3] 24)) (T := 24) (.int .i64 M) (.slice y1 y2 y3)
    rwa [World.size_alloc] at this
  have HQB := hide (fun W (h : Below w.heap.size w W) => quotBegun_any W (hT.below h))
  have hfld : ∀ W, Sem.run Tryz.prog (Instr.field 26 (.agg #[.int .i64 c, .int .i64 i]) 0) W = .ok (.int .i64 c) W := fun W => by kernel_rfl
  go_enter Tryz.func4, Tryz.ntmps4
  go_wp2_with fail
  rw [← hw0]
  clear hw0
  refine (HQB.out _ hB0).mono ?_
  rintro x w1 ⟨rfl, hb1⟩
  have hX1 := blk_below hX0 hb1
  have hY1 := blk_below hY0 hb1
  have hB1 := bcat2 hB0 hb1
  obtain ⟨c0, c1, _, _⟩ := hX1.two
  obtain ⟨d0, d1, _, _⟩ := hY1.two
  go_wp2_with fail
  clear c0 c1 d0 d1
  refine (HKE.out _ hB1).mono ?_
  rintro x w2 ⟨rfl, hb2⟩
  obtain ⟨w3, hw3⟩ : ∃ w3, w3 = w2.alloc (.cells #[.int .i64 c, .int .i64 i] 26) := ⟨_, rfl⟩
  have hb3 : Below w1.heap.size w1 w3 := by rw [hw3]; exact bcat2 hb2 (balloc w2 _)
  have hF3 : Blk w3 w2.heap.size 26 [.int .i64 c, .int .i64 i] := by rw [hw3]; exact blk0 _ _
  have hX3 := blk_below hX1 hb3
  have hY3 := blk_below hY1 hb3
  have hB3 := bcat2 hB1 hb3
  obtain ⟨c0, c1, _, _⟩ := hX3.two
  obtain ⟨d0, d1, _, _⟩ := hY3.two
  rw [hw3] at c0 c1 d0 d1
  go_wp2_with fail
  rw [← hw3]
  clear c0 c1 d0 d1 hw3
  refine (HIM.out _ hB3).mono ?_
  rintro x w4 ⟨rfl, hb4⟩
  obtain ⟨w5, hw5⟩ : ∃ w5, w5 = w4.alloc (.cells #[.int .i64 c, .int .i64 i] 26) := ⟨_, rfl⟩
  have hb5 : Below w3.heap.size w3 w5 := by rw [hw5]; exact bcat2 hb4 (balloc w4 _)
  have hB5 := bcat2 hB3 hb5
  have hF5 := blk_below hF3 hb5
  obtain ⟨c0, c1, _, _⟩ := (blk_below hX3 hb5).two
  obtain ⟨d0, d1, _, _⟩ := (blk_below hY3 hb5).two
  obtain ⟨e0, e1, _, _⟩ := hF5.two
  rw [hw5] at c0 c1 d0 d1 e0 e1
  go_wp2_with fail
  rw [← hw5]
  clear c0 c1 d0 d1 e0 e1 hw5
  refine (HHF.out _ hB5).mono ?_
  rintro x w6 ⟨rfl, hb6⟩
  go_wp2
  go_ret
  exact ⟨rfl, bcat2 hB5 hb6⟩
set_option maxRecDepth 100000 in
set_option maxHeartbeats 8000000 in
theorem qfst_good (n m K : Nat) (KL IL T1 T2 : List Int) (v1 : Option Addr) (v2 v3 : Nat) (y1 : Option Addr) (y2 y3 : Nat) (u1 : Option Addr) (u2 u3 : Nat) (w : World) (hT : Tab w)
    (HKE : Hid (∀ W, Below w.heap.size w W → Calls Tryz.prog 19 #[.agg #[.int .i64 n, .slice v1 v2 v3], .agg #[.int .i64 m, .slice y1 y2 y3], .slice u1 u2 u3] W fun x W' => ∃ r1 r2 r3, x = .returned (.tuple #[.slice r1 r2 r3, .agg #[.int .i64 0, .int .i64 0]]) ∧ Sl W' (.slice r1 r2 r3) KL ∧ Below W.heap.size W W'))
    (HIM : Hid (∀ W, Below w.heap.size w W → Calls Tryz.prog 20 #[.agg #[.int .i64 n, .slice v1 v2 v3], .agg #[.int .i64 m, .slice y1 y2 y3], .slice u1 u2 u3] W fun x W' => ∃ r1 r2 r3, x = .returned (.tuple #[.slice r1 r2 r3, .agg #[.int .i64 0, .int .i64 0]]) ∧ Sl W' (.slice r1 r2 r3) IL ∧ Below W.heap.size W W'))
    (HQU : Hid (∀ W k1 k2 k3, Below w.heap.size w W → Sl W (.slice k1 k2 k3) KL → Calls Tryz.prog 21 #[.agg #[.int .i64 n, .slice v1 v2 v3], .slice k1 k2 k3] W fun x W' => ∃ r1 r2 r3 s1 s2 s3, x = .returned (.tuple #[.agg #[.int .i64 K, .slice r1 r2 r3], .slice s1 s2 s3, .agg #[.int .i64 0, .int .i64 0]]) ∧ Sl W' (.slice r1 r2 r3) T1 ∧ Below W.heap.size W W'))
    (HPA : Hid (∀ W k1 k2 k3, Below w.heap.size w W → Sl W (.slice k1 k2 k3) IL → Calls Tryz.prog 22 #[.agg #[.int .i64 m, .slice y1 y2 y3], .slice k1 k2 k3] W fun x W' => ∃ r1 r2 r3, x = .returned (.tuple #[.agg #[.int .i64 K, .slice r1 r2 r3], .agg #[.int .i64 0, .int .i64 0]]) ∧ Sl W' (.slice r1 r2 r3) T2 ∧ Below W.heap.size W W'))
    (HIS : Hid (∀ W k1 k2 k3 l1 l2 l3, Below w.heap.size w W → Sl W (.slice k1 k2 k3) T1 → Sl W (.slice l1 l2 l3) T2 → Calls Tryz.prog 7 #[.agg #[.int .i64 K, .slice k1 k2 k3], .agg #[.int .i64 K, .slice l1 l2 l3]] W fun x W' => ∃ r1 r2 r3 L, x = .returned (.tuple #[.slice r1 r2 r3, .agg #[.int .i64 0, .int .i64 0]]) ∧ Sl W' (.slice r1 r2 r3) L ∧ hfault K T1 K T2 L = (0, 0) ∧ o1 K L = true ∧ L.length = K ∧ Below W.heap.size W W')) (hK : K ≤ 60) :
    Calls Tryz.prog 4 #[.agg #[.int .i64 n, .slice v1 v2 v3], .agg #[.int .i64 m, .slice y1 y2 y3], .slice u1 u2 u3] w fun e w' => e = .returned (.bool true) ∧ Below w.heap.size w w' := by
  obtain ⟨w0, hw0⟩ : ∃ w0, w0 = (w.alloc (.cells #[.int .i64 n, .slice v1 v2 v3] 24)).alloc (.cells #[.int .i64 m, .slice y1 y2 y3] 24) := ⟨_, rfl⟩
  have hB0 : Below w.heap.size w w0 := by rw [hw0]; exact (balloc w _).alloc (by simp) _
  have hX0 : BoxG w0 w.heap.size n (.slice v1 v2 v3) := by rw [hw0]; exact (blk0 (w := w) (T := 24) _ _).alloc _
  have hY0 : BoxG w0 (w.heap.size + 1) m (.slice y1 y2 y3) := by
    rw [hw0]
    have := blk0 (w := w.alloc (.cells #[.int .i64 n, .slice v1 v2 v3] 24)) (T := 24) (.int .i64 m) (.slice y1 y2 y3)
    rwa [World.size_alloc] at this
  have HQB := hide (fun W (h : Below w.heap.size w W) => quotBegun_any W (hT.below h))
  have hfld : ∀ W, Sem.run Tryz.prog (Instr.field 26 (.agg #[.int .i64 0, .int .i64 0]) 0) W = .ok (.int .i64 0) W := fun W => by kernel_rfl
  go_enter Tryz.func4, Tryz.ntmps4
  go_wp2_with fail
  rw [← hw0]
  clear hw0
  refine (HQB.out _ hB0).mono ?_
  rintro x w1 ⟨rfl, hb1⟩
  have hX1 := blk_below hX0 hb1
  have hY1 := blk_below hY0 hb1
  have hB1 := bcat2 hB0 hb1
  obtain ⟨c0, c1, _, _⟩ := hX1.two
  obtain ⟨d0, d1, _, _⟩ := hY1.two
  go_wp2_with fail
  clear c0 c1 d0 d1
  refine (HKE.out _ hB1).mono ?_
  rintro x w2 ⟨k1, k2, k3, rfl, hsK, hb2⟩
  obtain ⟨w3, hw3⟩ : ∃ w3, w3 = w2.alloc (.cells #[.int .i64 0, .int .i64 0] 26) := ⟨_, rfl⟩
  have hbw3 : Below w2.heap.size w2 w3 := by rw [hw3]; exact balloc w2 _
  have hb3 := bcat2 hb2 hbw3
  have hF3 : Blk w3 w2.heap.size 26 [.int .i64 0, .int .i64 0] := by rw [hw3]; exact blk0 _ _
  have hK3 := hsK.below hbw3
  have hX3 := blk_below hX1 hb3
  have hY3 := blk_below hY1 hb3
  have hB3 := bcat2 hB1 hb3
  obtain ⟨c0, c1, _, _⟩ := hX3.two
  obtain ⟨d0, d1, _, _⟩ := hY3.two
  rw [hw3] at c0 c1 d0 d1
  go_wp2_with fail
  rw [← hw3]
  clear c0 c1 d0 d1 hw3
  refine (HIM.out _ hB3).mono ?_
  rintro x w4 ⟨l1, l2, l3, rfl, hsI, hb4⟩
  obtain ⟨w5, hw5⟩ : ∃ w5, w5 = w4.alloc (.cells #[.int .i64 0, .int .i64 0] 26) := ⟨_, rfl⟩
  have hbw5 : Below w4.heap.size w4 w5 := by rw [hw5]; exact balloc w4 _
  have hb5 := bcat2 hb4 hbw5
  have hG5 : Blk w5 w4.heap.size 26 [.int .i64 0, .int .i64 0] := by rw [hw5]; exact blk0 _ _
  have hI5 := hsI.below hbw5
  have hK5 := hK3.below hb5
  have hB5 := bcat2 hB3 hb5
  have hF5 := blk_below hF3 hb5
  have hX5 := blk_below hX3 hb5
  have hY5 := blk_below hY3 hb5
  obtain ⟨c0, c1, _, _⟩ := hX5.two
  obtain ⟨e0, e1, _, _⟩ := hF5.two
  obtain ⟨f0, f1, _, _⟩ := hG5.two
  rw [hw5] at c0 c1 e0 e1 f0 f1
  go_wp2_with fail
  rw [← hw5]
  clear c0 c1 e0 e1 f0 f1 hw5
  refine (HQU.out _ _ _ _ hB5 hK5).mono ?_
  rintro x w6 ⟨q1, q2, q3, s1, s2, s3, rfl, hsQ, hb6⟩
  obtain ⟨w7, hw7⟩ : ∃ w7, w7 = w6.alloc (.cells #[.int .i64 K, .slice q1 q2 q3] 24) := ⟨_, rfl⟩
  have hbw7 : Below w6.heap.size w6 w7 := by rw [hw7]; exact balloc w6 _
  have hb7 := bcat2 hb6 hbw7
  have hQ7 : BoxG w7 w6.heap.size K (.slice q1 q2 q3) := by rw [hw7]; exact blk0 _ _
  have hsQ7 := hsQ.below hbw7
  have hI7 := hI5.below hb7
  have hB7 := bcat2 hB5 hb7
  have hF7 := blk_below hF5 hb7
  have hG7 := blk_below hG5 hb7
  have hY7 := blk_below hY5 hb7
  obtain ⟨d0, d1, _, _⟩ := hY7.two
  obtain ⟨e0, e1, fe0, fe1⟩ := hF7.two
  obtain ⟨z0, z1⟩ := hF7.self
  rw [hw7] at d0 d1 e0 e1 fe0 fe1 z0 z1
  go_wp2_with fail
  rw [← hw7]
  clear d0 d1 e0 e1 fe0 fe1 z0 z1 hw7
  refine (HPA.out _ _ _ _ hB7 hI7).mono ?_
  rintro x w8 ⟨p1, p2, p3, rfl, hsP, hb8⟩
  obtain ⟨w9, hw9⟩ : ∃ w9, w9 = w8.alloc (.cells #[.int .i64 K, .slice p1 p2 p3] 24) := ⟨_, rfl⟩
  have hbw9 : Below w8.heap.size w8 w9 := by rw [hw9]; exact balloc w8 _
  have hb9 := bcat2 hb8 hbw9
  have hP9 : BoxG w9 w8.heap.size K (.slice p1 p2 p3) := by rw [hw9]; exact blk0 _ _
  have hsP9 := hsP.below hbw9
  have hsQ9 := hsQ7.below hb9
  have hQ9 := blk_below hQ7 hb9
  have hB9 := bcat2 hB7 hb9
  have hF9 := blk_below hF7 hb9
  have hG9 := blk_below hG7 hb9
  obtain ⟨d0, d1, _, _⟩ := hQ9.two
  obtain ⟨a0, a1, _, _⟩ := hP9.two
  obtain ⟨e0, e1, _, _⟩ := hF9.two
  obtain ⟨f0, f1, ff0, ff1⟩ := hG9.two
  obtain ⟨z0, z1⟩ := hG9.self
  rw [hw9] at d0 d1 a0 a1 e0 e1 f0 f1 ff0 ff1 z0 z1
  go_wp2_with fail
  rw [← hw9]
  clear d0 d1 a0 a1 e0 e1 f0 f1 ff0 ff1 z0 z1 hw9
  refine (HIS.out _ _ _ _ _ _ _ hB9 hsQ9 hsP9).mono ?_
  rintro x wA ⟨i1, i2, i3, L, rfl, hsL, hfl, ho1, hll, hbA⟩
  obtain ⟨wB, hwB⟩ : ∃ wB, wB = wA.alloc (.cells #[.int .i64 0, .int .i64 0] 26) := ⟨_, rfl⟩
  have hbwB : Below wA.heap.size wA wB := by rw [hwB]; exact balloc wA _
  have hbB := bcat2 hbA hbwB
  have hJB : Blk wB wA.heap.size 26 [.int .i64 0, .int .i64 0] := by rw [hwB]; exact blk0 _ _
  have hLB := hsL.below hbwB
  have hQB := blk_below hQ9 hbB
  have hPB := blk_below hP9 hbB
  have hBB := bcat2 hB9 hbB
  have HHF := hide (rhom_any K K (.slice q1 q2 q3) (.slice p1 p2 p3) (.slice i1 i2 i3) T1 T2 L wB (hsQ9.below hbB) (hsP9.below hbB) hLB)
  rw [hfl] at HHF
  have HON := hide (fun W (h : Below wB.heap.size wB W) => one_ok K (.slice i1 i2 i3) L W (hLB.below h) hll (by omega))
  rw [ho1] at HON
  obtain ⟨d0, d1, _, _⟩ := hQB.two
  obtain ⟨a0, a1, _, _⟩ := hPB.two
  obtain ⟨e0, e1, _, _⟩ := hJB.two
  rw [hwB] at d0 d1 a0 a1 e0 e1
  go_wp2_with fail
  rw [← hwB]
  clear d0 d1 a0 a1 e0 e1 hwB
  refine HHF.out.mono ?_
  rintro x wC ⟨rfl, hbC⟩
  obtain ⟨a0, a1, _, _⟩ := (blk_below hPB hbC).two
  go_wp2_with fail
  clear a0 a1
  refine (HON.out _ hbC).mono ?_
  rintro x wD ⟨rfl, hbD⟩
  go_wp2
  go_ret
  exact ⟨rfl, bcat2 hBB (bcat2 hbC hbD)⟩
end Go.Proofs.YtlhjeenijcokoaaGreatDoor

namespace Go.Proofs.YtlhjeenijcokoaaGreatDoor
open Go Go.RowKit

section
variable {n e m d : Nat} {zs ys : List Int} {φ : Nat → Nat}
theorem ker_pset (H : ∀ a, a < n → kerq (li ((List.range n).map φ)) d a = decide ((φ a : Int) = (d : Int))) {a : Nat} (ha : a < n) : pset (li (lst n (kerq (li ((List.range n).map φ)) d))) a = true ↔ φ a = d := by
  rw [pset_lst ha, H a ha, decide_eq_true_eq]
  omega
theorem img_pset {y : Nat} (hy : y < m) : pset (li (lst m (fun a => decide (a ∈ (List.range n).map φ)))) y = true ↔ ∃ a, a < n ∧ φ a = y := by
  rw [pset_lst hy, decide_eq_true_eq, List.mem_map]
  exact ⟨fun ⟨a, h1, h2⟩ => ⟨a, List.mem_range.1 h1, h2⟩, fun ⟨a, h1, h2⟩ => ⟨a, List.mem_range.2 h1, h2⟩⟩
theorem sub_of {p : Nat → Bool} {P : Nat → Prop} (hp : ∀ a, a < n → (p a = true ↔ P a)) (g : IsGrp n zs e) (h : Fin.Sg (List.range n) (tm n zs) e P) : subT n zs e p = true :=
  subT_iff.2 ⟨(hp e g.elt).2 h.1, fun a b ha hb h1 h2 => (hp _ (tm_lt g.tab (List.mem_range.1 ha) (List.mem_range.1 hb))).2 (h.2 a b ha hb ((hp a (List.mem_range.1 ha)).1 h1) ((hp b (List.mem_range.1 hb)).1 h2))⟩
theorem nrm_of {p : Nat → Bool} {P : Nat → Prop} (hp : ∀ a, a < n → (p a = true ↔ P a)) (g : IsGrp n zs e) (h : Fin.Nm (List.range n) (tm n zs) (iv n zs e) P) : nrmq n zs e p = true :=
  (nrm_iff g).2 fun x a hx ha hk => by
    have hx' := List.mem_range.1 hx
    have ha' := List.mem_range.1 ha
    exact (hp _ (tm_lt g.tab (iv_spec g ha').1 (tm_lt g.tab hx' ha'))).2 (h x a hx ha ((hp x hx').1 hk))
end
theorem qfst_law (N M : Int) (v y u : Value) (zs ys ms : List Int) (w : World) (hv : Sl w v zs) (hy : Sl w y ys) (hu : Sl w u ms) (hT : Tab w) :
    Calls Tryz.prog 4 #[.agg #[.int .i64 N, v], .agg #[.int .i64 M, y], u] w fun e w' => e = .returned (.bool true) ∧ Below w.heap.size w w' := by
  obtain ⟨v1, v2, v3, rfl⟩ := hv.isSlice
  obtain ⟨y1, y2, y3, rfl⟩ := hy.isSlice
  obtain ⟨u1, u2, u3, rfl⟩ := hu.isSlice
  by_cases hc : (hfault N zs M ys ms).1 = 0
  · obtain ⟨n, e, m, d, rfl, rfl, hg, hh⟩ := hfault_grp hc
    obtain ⟨h0, hl, φ, H, rfl⟩ := hom_of hg hh hc
    have hn60 := hg.tab.le
    have hm60 := hh.tab.le
    have hker : ∀ a, a < n → kerq (li ((List.range n).map φ)) d a = decide ((φ a : Int) = (d : Int)) := fun a ha => by
      unfold kerq
      rw [li_map_get ha]
    have hp := fun a (ha : a < n) => ker_pset hker ha
    have hq := fun y (hy : y < m) => img_pset (n := n) (φ := φ) hy
    have hps := sub_of hp hg (ker_sg hg hh H)
    have hpN := nrm_of hp hg (ker_nm hg hh H)
    have hqs : subT m ys d (pset (li (lst m (fun a => decide (a ∈ (List.range n).map φ))))) = true := sub_of (P := fun y => y ∈ (List.range n).map φ) (fun y hy => by rw [pset_lst hy, decide_eq_true_eq]) hh (img_sg hg hh H)
    obtain ⟨hK, f, A⟩ := first_iso hg hh H hp hps hpN hq hqs
    have hgQ := quo_grp hg hps hpN
    have hgP := part_grp hh hqs
    have HIM := fun W (h : Below w.heap.size w W) => image_good n m (.slice v1 v2 v3) (.slice y1 y2 y3) (.slice u1 u2 u3) zs ys ((List.range n).map φ) W (hv.below h) (hy.below h) (hu.below h) (hT.below h) hm60 (fun x hx => by
      obtain ⟨a, ha, rfl⟩ := List.mem_map.1 hx
      exact H.lt a (List.mem_range.1 ha)) (by simpa using hn60) h0
    refine qfst_good n m (fsts n (rgtq n zs (lst n (pset (li (lst n (kerq (li ((List.range n).map φ)) d)))))) n).length (li (lst n (kerq (li ((List.range n).map φ)) d))) (li (lst m (fun a => decide (a ∈ (List.range n).map φ)))) (mkT (fsts n (rgtq n zs (lst n (pset (li (lst n (kerq (li ((List.range n).map φ)) d)))))) n).length (quoF n zs (rgtq n zs (lst n (pset (li (lst n (kerq (li ((List.range n).map φ)) d)))))))) (mkT (fsts n (rgtq n zs (lst n (pset (li (lst n (kerq (li ((List.range n).map φ)) d)))))) n).length (parF m ys (lst m (pset (li (lst m (fun a => decide (a ∈ (List.range n).map φ)))))))) v1 v2 v3 y1 y2 y3 u1 u2 u3 w hT
      (hide fun W h => kernel_good n e m d (.slice v1 v2 v3) (.slice y1 y2 y3) (.slice u1 u2 u3) zs ys _ W (hv.below h) hg (hy.below h) hh (hu.below h) (hT.below h) h0)
      (hide HIM)
      (hide fun W k1 k2 k3 h hk => ?_)
      (hide fun W k1 k2 k3 h hk => ?_)
      (hide fun W k1 k2 k3 l1 l2 l3 h h1 h2 => ?_) (Nat.le_trans (fsts_len _ _ _) hn60)
    · refine (quo_good n e (.slice v1 v2 v3) (.slice k1 k2 k3) zs _ W (hv.below h) hg hk (hT.below h) (lst_fault n _) hps hpN).mono ?_
      rintro x W' ⟨r1, r2, r3, s1, s2, s3, rfl, hr, _, hb⟩
      exact ⟨r1, r2, r3, s1, s2, s3, rfl, hr, hb⟩
    · refine (part_good m d (.slice y1 y2 y3) (.slice k1 k2 k3) ys _ W (hy.below h) hh hk (hT.below h) (lst_fault m _) hqs).mono ?_
      rintro x W' ⟨r1, r2, r3, rfl, hr, hb⟩
      rw [← hK] at hr ⊢
      exact ⟨r1, r2, r3, rfl, hr, hb⟩
    · rw [← hK] at hgP A
      refine (hiso_any _ _ _ _ (.slice k1 k2 k3) (.slice l1 l2 l3) _ _ W h1 hgQ h2 hgP (hT.below h)).mono ?_
      rintro x W' ⟨hb, ⟨ψ, g, hnm, B, rfl, hgs, hM⟩ | ⟨rfl, hno⟩⟩
      · have hll : (li ((List.range (fsts n (rgtq n zs (lst n (pset (li (lst n (kerq (li ((List.range n).map φ)) d)))))) n).length).map ψ)).length = (fsts n (rgtq n zs (lst n (pset (li (lst n (kerq (li ((List.range n).map φ)) d)))))) n).length := by rw [li_len]; simp
        exact ⟨_, _, _, _, rfl, Sl.of_blk hM hll.symm (by rw [hll]; exact Nat.le_trans (fsts_len _ _ _) (by omega)), of_hom hgQ hgP B.hom hll (fun a ha => li_map_get ha), B.o1 rfl, hll, hb⟩
      · exact absurd ⟨f, A⟩ (hno rfl)
  · exact qfst_bad N M _ _ v1 v2 v3 y1 y2 y3 u1 u2 u3 w hT hc
      (hide fun W h => kernel_bad N M (.slice v1 v2 v3) (.slice y1 y2 y3) (.slice u1 u2 u3) zs ys ms W (hv.below h) (hy.below h) (hu.below h) hc)
      (hide fun W h => image_bad N M (.slice v1 v2 v3) (.slice y1 y2 y3) (.slice u1 u2 u3) zs ys ms W (hv.below h) (hy.below h) (hu.below h) hc)
      (hide fun W h => rhom_any N M (.slice v1 v2 v3) (.slice y1 y2 y3) (.slice u1 u2 u3) zs ys ms W (hv.below h) (hy.below h) (hu.below h))
end Go.Proofs.YtlhjeenijcokoaaGreatDoor

namespace Go.Proofs.YtlhjeenijcokoaaGreatDoor
open Go Go.RowKit

section
variable {n e : Nat} {zs : List Int}
/-- What a subgroup and a normal one make are products of a thing of the one and a thing of the other. -/
theorem hn_prod {hq nq : Nat → Bool} (g : IsGrp n zs e) (hs : subT n zs e hq = true) (ns : subT n zs e nq = true) (nN : nrmq n zs e nq = true) {a : Nat} (h : Mkd n zs e (fun x => hq x || nq x) a) :
    ∃ x y, x < n ∧ y < n ∧ hq x = true ∧ nq y = true ∧ a = tm n zs x y := by
  have Sh := subT_iff.1 hs
  have Sn := subT_iff.1 ns
  have Nn := (nrm_iff g).1 nN
  refine Fin.Gen.least (P := fun a => ∃ x y, x < n ∧ y < n ∧ hq x = true ∧ nq y = true ∧ a = tm n zs x y) ⟨⟨e, e, g.elt, g.elt, Sh.1, Sn.1, (g.left e g.elt).symm⟩, ?_⟩ ?_ h
  · rintro _ _ _ _ ⟨x, y, hx, hy, h1, h2, rfl⟩ ⟨x', y', hx', hy', h3, h4, rfl⟩
    obtain ⟨i1, i2, _, _⟩ := iv_spec g hx'
    have hyx := tm_lt g.tab hy hx'
    have hc := tm_lt g.tab i1 hyx
    have hxy := tm_lt g.tab hx' hy'
    refine ⟨tm n zs x x', tm n zs (tm n zs (iv n zs e x') (tm n zs y x')) y', tm_lt g.tab hx hx', tm_lt g.tab hc hy', sub_mul hs hx hx' h1 h3, sub_mul ns hc hy' (Nn y x' (List.mem_range.2 hy) (List.mem_range.2 hx') h2) h4, ?_⟩
    have e1 : tm n zs x' (tm n zs (iv n zs e x') (tm n zs y x')) = tm n zs y x' := by rw [← g.ass _ _ _ hx' i1 hyx, i2, g.left _ hyx]
    rw [← g.ass _ _ _ (tm_lt g.tab hx hx') hc hy', g.ass _ _ _ hx hx' hc, e1, g.ass _ _ _ hx hy hxy, ← g.ass _ _ _ hy hx' hy', ← g.ass _ _ _ hx hyx hy']
  · intro x hx hX
    have hx := List.mem_range.1 hx
    rcases Bool.or_eq_true_iff.1 hX with h1 | h1
    · exact ⟨x, e, hx, g.elt, h1, Sn.1, (g.right x hx).symm⟩
    · exact ⟨e, x, g.elt, hx, Sh.1, h1, (g.left x hx).symm⟩
/-- Things of a part, as things of the group. -/
theorem part_in {q : Nat → Bool} (g : IsGrp n zs e) (hs : subT n zs e q = true) : IsHom (lst n q).length (mkT (lst n q).length (parF n zs (lst n q))) n zs (thing (lst n q)) :=
  ⟨fun _ hi => (mem_lst.1 (thing_mem hi)).1, fun _ _ hi hj => part_mul g hs hi hj⟩
theorem IsHom.comp {m k : Nat} {ys xs : List Int} {φ ψ : Nat → Nat} (A : IsHom n zs m ys φ) (B : IsHom m ys k xs ψ) : IsHom n zs k xs (fun a => ψ (φ a)) :=
  ⟨fun a ha => B.lt _ (A.lt a ha), fun a b ha hb => by
    show ψ (φ (tm n zs a b)) = _
    rw [A.mul a b ha hb, B.mul _ _ (A.lt a ha) (A.lt b hb)]⟩
/-- What a part has of a normal subgroup is normal in it. -/
theorem part_normal {q nq p : Nat → Bool} (g : IsGrp n zs e) (hs : subT n zs e q = true) (ns : subT n zs e nq = true) (nN : nrmq n zs e nq = true) (hp : ∀ i, i < (lst n q).length → (p i = true ↔ nq (thing (lst n q) i) = true)) :
    subT (lst n q).length (mkT (lst n q).length (parF n zs (lst n q))) (place (lst n q) e) p = true ∧ nrmq (lst n q).length (mkT (lst n q).length (parF n zs (lst n q))) (place (lst n q) e) p = true := by
  have gP := part_grp g hs
  have gQ := quo_grp g ns nN
  have H := (part_in g hs).comp (quo_onto g ns nN).hom
  have hk : ∀ i, i < (lst n q).length → (p i = true ↔ num n (rgtq n zs (lst n nq)) (thing (lst n q) i) = num n (rgtq n zs (lst n nq)) e) := fun i hi => by
    rw [hp i hi, quo_ker g ns (mem_lst.1 (thing_mem hi)).1]
  exact ⟨sub_of hk gP (ker_sg gP gQ H), nrm_of hk gP (ker_nm gP gQ H)⟩
/-- The second theorem of isomorphisms. -/
theorem second_iso {hq nq aq p q : Nat → Bool} (g : IsGrp n zs e) (hs : subT n zs e hq = true) (ns : subT n zs e nq = true) (nN : nrmq n zs e nq = true)
    (ha : ∀ a, a < n → (aq a = true ↔ Mkd n zs e (fun x => hq x || nq x) a)) (aS : subT n zs e aq = true)
    (hp : ∀ i, i < (lst n aq).length → (p i = true ↔ nq (thing (lst n aq) i) = true)) (hq' : ∀ i, i < (lst n hq).length → (q i = true ↔ nq (thing (lst n hq) i) = true))
    {KA KH KP KQ : Nat} {TA TH TP TQ : List Int} (eKA : KA = (lst n aq).length) (eTA : TA = mkT KA (parF n zs (lst n aq))) (eKH : KH = (lst n hq).length) (eTH : TH = mkT KH (parF n zs (lst n hq)))
    (eKP : KP = (fsts KA (rgtq KA TA (lst KA p)) KA).length) (eTP : TP = mkT KP (quoF KA TA (rgtq KA TA (lst KA p)))) (eKQ : KQ = (fsts KH (rgtq KH TH (lst KH q)) KH).length) (eTQ : TQ = mkT KQ (quoF KH TH (rgtq KH TH (lst KH q)))) :
    KP = KQ ∧ ∃ f, IsIso KP TP KQ TQ f := by
  obtain ⟨ps, pN⟩ := part_normal g aS ns nN hp
  obtain ⟨qs, qN⟩ := part_normal g hs ns nN hq'
  have gA := part_grp g aS
  have gH := part_grp g hs
  rw [← eKA, ← eTA] at ps pN gA
  rw [← eKH, ← eTH] at qs qN gH
  have gP := quo_grp gA ps pN
  have gQ := quo_grp gH qs qN
  have OP := quo_onto gA ps pN
  have OQ := quo_onto gH qs qN
  rw [← eKP, ← eTP] at gP OP
  rw [← eKQ, ← eTQ] at gQ OQ
  have hin : ∀ x, x ∈ lst n hq → x ∈ lst n aq := fun x hx => by
    obtain ⟨h1, h2⟩ := mem_lst.1 hx
    exact mem_lst.2 ⟨h1, (ha x h1).2 (Fin.Gen.base (List.mem_range.2 h1) (by simp [h2]))⟩
  have hnin : ∀ x, x < n → nq x = true → x ∈ lst n aq := fun x h1 h2 => mem_lst.2 ⟨h1, (ha x h1).2 (Fin.Gen.base (List.mem_range.2 h1) (by simp [h2]))⟩
  have HA : IsHom KH TH KA TA (fun i => place (lst n aq) (thing (lst n hq) i)) := by
    refine ⟨fun i hi => ?_, fun i j hi hj => ?_⟩
    · rw [eKH] at hi
      rw [eKA]
      exact (place_at (hin _ (thing_mem hi))).1
    · rw [eKH] at hi hj
      have m1 := hin _ (thing_mem hi)
      have m2 := hin _ (thing_mem hj)
      show place (lst n aq) (thing (lst n hq) (tm KH TH i j)) = tm KA TA (place (lst n aq) (thing (lst n hq) i)) (place (lst n aq) (thing (lst n hq) j))
      rw [eTH, eKH, part_mul g hs hi hj, eTA, eKA, tm_mk (place_at m1).1 (place_at m2).1, par_eq, thing_place m1, thing_place m2]
  have HP := HA.comp OP.hom
  refine iso_glue gH gP gQ (⟨HP, fun y hy => ?_⟩ : IsOnto KH TH KP TP _) OQ (fun i hi => ?_)
  · obtain ⟨j, hj, h1⟩ := OP.hits y hy
    rw [eKA] at hj
    obtain ⟨m1, m2⟩ := mem_lst.1 (thing_mem hj)
    obtain ⟨x, z, hx, hz, h3, h4, h5⟩ := hn_prod g hs ns nN ((ha _ m1).1 m2)
    have hxm : x ∈ lst n hq := mem_lst.2 ⟨hx, h3⟩
    have hzm := hnin z hz h4
    have lx : place (lst n aq) x < KA := by rw [eKA]; exact (place_at (hin x hxm)).1
    have lz : place (lst n aq) z < KA := by rw [eKA]; exact (place_at hzm).1
    have ej : tm KA TA (place (lst n aq) x) (place (lst n aq) z) = j := by
      rw [eTA, eKA, tm_mk (place_at (hin x hxm)).1 (place_at hzm).1, par_eq, thing_place (hin x hxm), thing_place hzm, ← h5, place_thing (lst_nodup n aq) hj]
    have hpz : p (place (lst n aq) z) = true := (hp _ (place_at hzm).1).2 (by rw [thing_place hzm]; exact h4)
    have e1 := OP.hom.mul _ _ lx lz
    rw [ej, (quo_ker gA ps lz).2 hpz, gP.right _ (OP.hom.lt _ lx), h1] at e1
    refine ⟨place (lst n hq) x, by rw [eKH]; exact (place_at hxm).1, ?_⟩
    show num KA (rgtq KA TA (lst KA p)) (place (lst n aq) (thing (lst n hq) (place (lst n hq) x))) = y
    rw [thing_place hxm, ← e1]
  · have lA := HA.lt i hi
    rw [quo_ker gH qs hi]
    show num KA (rgtq KA TA (lst KA p)) (place (lst n aq) (thing (lst n hq) i)) = _ ↔ _
    rw [quo_ker gA ps lA]
    rw [eKH] at hi
    rw [hq' i hi, hp _ (place_at (hin _ (thing_mem hi))).1, thing_place (hin _ (thing_mem hi))]
end
end Go.Proofs.YtlhjeenijcokoaaGreatDoor

namespace Go.Proofs.YtlhjeenijcokoaaGreatDoor
open Go Go.RowKit

set_option maxRecDepth 100000 in
set_option maxHeartbeats 2000000 in
theorem both_ok (v1 v2 : Value) (zs ys : List Int) (w : World) (h1 : Sl w v1 zs) (h2 : Sl w v2 ys) (hsm : zs.length ≤ 60) :
    Calls Tryz.prog 26 #[v1, v2] w fun x w' => ∃ r, x = .returned r ∧ Row w' w.heap.size r (zs.filter fun a => decide (a ∈ ys)) ∧ Below w.heap.size w w' := by
  obtain ⟨i0, hi, hz0, hz1, hz2⟩ := info_parts info3b
  obtain ⟨x, cap, pb, po, rfl, hr, hp, hq3, hq4⟩ := h1
  have HR := hide hr
  have HH := hide (fun a W (h : Below w.heap.size w W) => rhas_ok v2 ys a W (h2.below h))
  clear hr
  go_enter Tryz.func26, Tryz.ntmps26
  go_wp2
  go_loopw [5, 6] (fun r i wr => ∃ k : Nat, k ≤ zs.length ∧ i = .int .i64 k ∧ Row wr w.heap.size r ((zs.take k).filter fun a => decide (a ∈ ys)) ∧ Below w.heap.size w wr) (fun _ i _ => zs.length - (intOf i).toNat)
  case atStart => exact ⟨0, Nat.zero_le _, rfl, nil_row _ _, Below.refl _ _⟩
  case round =>
    obtain ⟨k, hk, rfl, hrow, hB⟩ := hrel
    obtain ⟨r, rfl⟩ : ∃ r, r = u5 := ⟨_, rfl⟩
    have hBs := hB.size
    by_cases hlt : k < zs.length
    · obtain rfl := HR.out.at_ (by omega)
      have hc := (HR.out.below hB hp).cell k hlt
      have hsn := take_snoc' hlt
      obtain ⟨c, hce⟩ : ∃ c, zs[k]?.getD 0 = c := ⟨_, rfl⟩
      rw [hce] at hc hsn
      clear hce
      have HSN := hide hsn
      clear hsn
      have HC := hide (HH.out c wr hB)
      by_cases hca : c ∈ ys
      · rw [decide_eq_true hca] at HC
        have HE := hide (show (zs.take (k + 1)).filter (fun a => decide (a ∈ ys)) = (zs.take k).filter (fun a => decide (a ∈ ys)) ++ [c] by rw [HSN.out, List.filter_append]; simp [hca])
        have HLL := hide (show ((zs.take k).filter fun a => decide (a ∈ ys)).length ≤ 60 by
          refine Nat.le_trans (List.length_filter_le _ _) ?_
          rw [List.length_take]; omega)
        have hown : wr.ownsRow w.heap.size 3 1 r ((zs.take k).filter fun a => decide (a ∈ ys)).length (((zs.take k).filter fun a => decide (a ∈ ys)).map (Value.int .i64)) := hrow
        clear hrow
        generalize (zs.take k).filter (fun a => decide (a ∈ ys)) = xs at *
        go_wp2_with fail
        refine HC.out.mono ?_
        rintro e1 w1 ⟨rfl, rfl⟩
        go_wp2_with (first
          | (at_builtin; refine wpList_append_own _ rfl _ _ 22 rfl w.heap.size 3 i0 (.int .i64 0) 1 8 under22b hi hz0 hz1 hz2 rfl (by decide) _ _ _ rfl (World.ownsRow.alloc hown _) ⟨w1.heap.size, 0, none⟩ 1 1 [.int .i64 c] rfl rfl ?c1 ?c2 ?c3 ?c4 ?c5 ?_))
        case c1 => exact cell_one_new _ _ _
        case c2 => simp [Value.oneCell']
        case c3 => unfold maxLen; have := HLL.out; omega
        case c4 => have := HLL.out; omega
        case c5 => simp; omega
        intro v' w2 hown' hgrow _
        obtain ⟨g', cap', rfl⟩ := ownsRow_succ hown'
        have hB2 : Below w.heap.size w w2 := (hB.alloc hBs _).grown hgrow (by simp; omega) (fun t e => owns_ge hown t e)
        have hrow2 : Row w2 w.heap.size (.slice (some ⟨g', 0, none⟩) (xs.length + 1) cap') ((zs.take (k + 1)).filter fun a => decide (a ∈ ys)) := by
          unfold Row
          rw [HE.out]
          simpa using hown'
        clear hown' hgrow hown
        go_wp2
        go_roundw
        case rel => exact ⟨k + 1, by omega, by go_num, hrow2, hB2⟩
        case measure => simp [intOf]; omega
      · rw [decide_eq_false hca] at HC
        have HE := hide (show (zs.take (k + 1)).filter (fun a => decide (a ∈ ys)) = (zs.take k).filter (fun a => decide (a ∈ ys)) by rw [HSN.out, List.filter_append]; simp [hca])
        go_wp2_with fail
        refine HC.out.mono ?_
        rintro e1 w1 ⟨rfl, rfl⟩
        go_wp2
        go_roundw
        case rel => exact ⟨k + 1, by omega, by go_num, by rw [HE.out]; exact hrow, hB⟩
        case measure => simp [intOf]; omega
    · have hkk : k = zs.length := by omega
      subst hkk
      rw [List.take_length] at hrow
      go_wp2
      go_ret
      exact ⟨_, rfl, hrow, hB⟩
set_option maxRecDepth 100000 in
set_option maxHeartbeats 2000000 in
theorem number_ok (v1 v2 : Value) (zs ys : List Int) (w : World) (h1 : Sl w v1 zs) (h2 : Sl w v2 ys) (hsm : zs.length ≤ 60) :
    Calls Tryz.prog 30 #[v1, v2] w fun x w' => ∃ r, x = .returned r ∧ Row w' w.heap.size r (li (lst zs.length fun i => decide (zs[i]?.getD 0 ∈ ys))) ∧ Below w.heap.size w w' := by
  obtain ⟨i0, hi, hz0, hz1, hz2⟩ := info_parts info3b
  obtain ⟨x, cap, pb, po, rfl, hr, hp, hq3, hq4⟩ := h1
  have HR := hide hr
  have HH := hide (fun a W (h : Below w.heap.size w W) => rhas_ok v2 ys a W (h2.below h))
  clear hr
  go_enter Tryz.func30, Tryz.ntmps30
  go_wp2
  go_loopw [5, 6] (fun r i wr => ∃ k : Nat, k ≤ zs.length ∧ i = .int .i64 k ∧ Row wr w.heap.size r (li (lst k fun i => decide (zs[i]?.getD 0 ∈ ys))) ∧ Below w.heap.size w wr) (fun _ i _ => zs.length - (intOf i).toNat)
  case atStart => exact ⟨0, Nat.zero_le _, rfl, nil_row _ _, Below.refl _ _⟩
  case round =>
    obtain ⟨k, hk, rfl, hrow, hB⟩ := hrel
    obtain ⟨r, rfl⟩ : ∃ r, r = u5 := ⟨_, rfl⟩
    have hBs := hB.size
    by_cases hlt : k < zs.length
    · obtain rfl := HR.out.at_ (by omega)
      have hc := (HR.out.below hB hp).cell k hlt
      have hsn := lst_snoc (p := fun i => decide (zs[i]?.getD 0 ∈ ys)) k
      obtain ⟨c, hce⟩ : ∃ c, zs[k]?.getD 0 = c := ⟨_, rfl⟩
      rw [hce] at hc hsn
      clear hce
      have HSN := hide hsn
      clear hsn
      generalize hpp : (fun i : Nat => decide (zs[i]?.getD 0 ∈ ys)) = p at *
      have hln := lst_len k p
      have HC := hide (HH.out c wr hB)
      by_cases hca : c ∈ ys
      · rw [decide_eq_true hca] at HC
        have HE := hide (show lst (k + 1) p = lst k p ++ [k] by rw [HSN.out, decide_eq_true hca]; rfl)
        have HLL := hide (show (lst k p).length ≤ 60 by omega)
        have hown : wr.ownsRow w.heap.size 3 1 r (lst k p).length ((li (lst k p)).map (Value.int .i64)) := by have h9 := hrow; unfold Row at h9; rw [li_len] at h9; exact h9
        clear hrow
        clear hln
        generalize lst k p = xs at *
        go_wp2_with fail
        refine HC.out.mono ?_
        rintro e1 w1 ⟨rfl, rfl⟩
        go_wp2_with (first
          | (at_builtin; refine wpList_append_own _ rfl _ _ 22 rfl w.heap.size 3 i0 (.int .i64 0) 1 8 under22b hi hz0 hz1 hz2 rfl (by decide) _ _ _ rfl (World.ownsRow.alloc hown _) ⟨w1.heap.size, 0, none⟩ 1 1 [.int .i64 (k : Int)] rfl rfl ?c1 ?c2 ?c3 ?c4 ?c5 ?_))
        case c1 => exact cell_one_new _ _ _
        case c2 => simp [Value.oneCell']
        case c3 => unfold maxLen; have := HLL.out; omega
        case c4 => have := HLL.out; omega
        case c5 => simp; omega
        intro v' w2 hown' hgrow _
        obtain ⟨g', cap', rfl⟩ := ownsRow_succ hown'
        have hB2 : Below w.heap.size w w2 := (hB.alloc hBs _).grown hgrow (by simp; omega) (fun t e => owns_ge hown t e)
        have hrow2 : Row w2 w.heap.size (.slice (some ⟨g', 0, none⟩) (xs.length + 1) cap') (li (lst (k + 1) p)) := by
          unfold Row
          rw [HE.out, li_len]
          simpa [li] using hown'
        clear hown' hgrow hown
        go_wp2
        go_roundw
        case rel => exact ⟨k + 1, by omega, by go_num, hrow2, hB2⟩
        case measure => simp [intOf]; omega
      · rw [decide_eq_false hca] at HC
        have HE := hide (show lst (k + 1) p = lst k p by rw [HSN.out, decide_eq_false hca]; rfl)
        go_wp2_with fail
        refine HC.out.mono ?_
        rintro e1 w1 ⟨rfl, rfl⟩
        go_wp2
        go_roundw
        case rel => exact ⟨k + 1, by omega, by go_num, by rw [HE.out]; exact hrow, hB⟩
        case measure => simp [intOf]; omega
    · have hkk : k = zs.length := by omega
      subst hkk
      go_wp2
      go_ret
      exact ⟨_, rfl, hrow, hB⟩
theorem call28 (a x y : Value) (W : World) : Sem.run Tryz.prog (callFunc 28 (#[a] ++ #[x, y])) W = .ok (.enter 28 (#[a] ++ #[x, y])) W := by kernel_rfl
set_option maxRecDepth 100000 in
set_option maxHeartbeats 2000000 in
theorem sec1_ok (hb nb : Nat) (h1 : Option Addr) (h2 h3 : Nat) (n1 : Option Addr) (n2 n3 : Nat) (hl nl : List Int) (a : Int) (w : World) (hH : Boxed w hb 22 (.slice h1 h2 h3)) (hN : Boxed w nb 22 (.slice n1 n2 n3)) (hs : Sl w (.slice h1 h2 h3) hl) (ns : Sl w (.slice n1 n2 n3) nl) :
    Calls Tryz.prog 28 #[.int .i64 a, .pointer (some ⟨hb, 0, none⟩), .pointer (some ⟨nb, 0, none⟩)] w fun x w' => x = .returned (.bool (decide (a ∈ hl) || decide (a ∈ nl))) ∧ w' = w := by
  have c0 := hH.cell
  have c1 := hN.cell
  have HA := hide (rhas_ok (.slice h1 h2 h3) hl a w hs)
  have HB := hide (rhas_ok (.slice n1 n2 n3) nl a w ns)
  cases hh : decide (a ∈ hl) with
  | true =>
    rw [hh] at HA
    go_enter Tryz.func28, Tryz.ntmps28
    go_wp2_with fail
    refine HA.out.mono ?_
    rintro x w1 ⟨rfl, rfl⟩
    go_wp2
    go_ret
    exact ⟨rfl, rfl⟩
  | false =>
    rw [hh] at HA
    cases hn : decide (a ∈ nl) with
    | true =>
      rw [hn] at HB
      go_enter Tryz.func28, Tryz.ntmps28
      go_wp2_with fail
      refine HA.out.mono ?_
      rintro x w1 ⟨rfl, rfl⟩
      go_wp2_with fail
      refine HB.out.mono ?_
      rintro x w2 ⟨rfl, rfl⟩
      go_wp2
      go_ret
      exact ⟨rfl, rfl⟩
    | false =>
      rw [hn] at HB
      go_enter Tryz.func28, Tryz.ntmps28
      go_wp2_with fail
      refine HA.out.mono ?_
      rintro x w1 ⟨rfl, rfl⟩
      go_wp2_with fail
      refine HB.out.mono ?_
      rintro x w2 ⟨rfl, rfl⟩
      go_wp2
      go_ret
      exact ⟨rfl, rfl⟩
end Go.Proofs.YtlhjeenijcokoaaGreatDoor

namespace Go.Proofs.YtlhjeenijcokoaaGreatDoor
open Go Go.RowKit

theorem mkG {X U : World} {x y : Value} (k : Below (X.alloc (.cells #[x, y] 24)).heap.size (X.alloc (.cells #[x, y] 24)) U) : Blk U X.heap.size 24 [x, y] := blk_below (blk0 x y) k
theorem call30 (x y : Value) (W : World) : Sem.run Tryz.prog (callFunc 30 #[x, y]) W = .ok (.enter 30 #[x, y]) W := by kernel_rfl
/-- A list and a box for a fault behind a region. -/
def SRel (w0 : World) (L : List Int) (s12 s13 : Value) (wx : World) : Prop := ∃ (b : Nat) (a : Option Addr) (k cp : Nat), s12 = .slice a k cp ∧ s13 = .pointer (some ⟨b, 0, none⟩) ∧ w0.heap.size ≤ b ∧ Blk wx b 26 [.int .i64 0, .int .i64 0] ∧ Sl wx (.slice a k cp) L ∧ Below w0.heap.size w0 wx
theorem srel_new {w0 U : World} {L : List Int} {a : Option Addr} {k cp : Nat} (hB : Below w0.heap.size w0 U) (hs : Sl U (.slice a k cp) L) : SRel w0 L (.slice a k cp) (.pointer (some ⟨U.heap.size, 0, none⟩)) (U.alloc (.cells #[.int .i64 0, .int .i64 0] 26)) :=
  ⟨U.heap.size, a, k, cp, rfl, rfl, hB.size, blk0 _ _, hs.below (balloc _ _), bcat2 hB (balloc _ _)⟩
theorem srel_same {w0 U : World} {L : List Int} {a : Option Addr} {k cp b : Nat} (hb : w0.heap.size ≤ b) (hB : Below w0.heap.size w0 U) (hp : Blk U b 26 [.int .i64 0, .int .i64 0]) (hs : Sl U (.slice a k cp) L) : SRel w0 L (.slice a k cp) (.pointer (some ⟨b, 0, none⟩)) U :=
  ⟨b, a, k, cp, rfl, rfl, hb, hp, hs, hB⟩
/-- A table in a box of its own behind a region. -/
def GRel (w0 : World) (K : Nat) (T : List Int) (s17 : Value) (wx : World) : Prop := ∃ (b : Nat) (r1 : Option Addr) (r2 r3 : Nat), s17 = .pointer (some ⟨b, 0, none⟩) ∧ w0.heap.size ≤ b ∧ BoxG wx b K (.slice r1 r2 r3) ∧ Sl wx (.slice r1 r2 r3) T ∧ Below w0.heap.size w0 wx
theorem grel_new {w0 U : World} {K : Nat} {T : List Int} {r1 : Option Addr} {r2 r3 S : Nat} (hB : Below w0.heap.size w0 U) (hr : SlF S U (.slice r1 r2 r3) T) : GRel w0 K T (.pointer (some ⟨U.heap.size, 0, none⟩)) (U.alloc (.cells #[.int .i64 K, .slice r1 r2 r3] 24)) :=
  ⟨U.heap.size, r1, r2, r3, rfl, hB.size, blk0 _ _, hr.sl.below (balloc _ _), bcat2 hB (balloc _ _)⟩
theorem grel_put {w0 U : World} {K : Nat} {T : List Int} {r1 : Option Addr} {r2 r3 S b : Nat} {x y : Value} (hb : w0.heap.size ≤ b) (hB : Below w0.heap.size w0 U) (hp : Blk U b 24 [x, y]) (hlt : b < S) (hr : SlF S U (.slice r1 r2 r3) T) : GRel w0 K T (.pointer (some ⟨b, 0, none⟩)) ((U.setCell ⟨b, 0, none⟩ (.int .i64 K)).setCell ⟨b, 1, none⟩ (.slice r1 r2 r3)) :=
  ⟨b, r1, r2, r3, rfl, hb, (hp.set 0 _).set 1 _, (hr.keep (fun c h1 _ => (Below.heap_setCell _ _ _ _ (by simp; omega)).trans (Below.heap_setCell _ _ _ _ (by simp; omega))) (by rw [size_set, size_set]; exact Nat.le_refl _)).sl, bSet (bSet hB hb) hb⟩
/-- What lies there behind the first two calls. -/
structure QS (w : World) (N : Int) (v hv nv : Value) (b7 b9 : Nat) (HL NL : List Int) (W : World) : Prop where
  bel : Below w.heap.size w W
  x : BoxG W w.heap.size N v
  h : Boxed W b7 22 hv
  f8 : Blk W (b7 + 1) 26 [.int .i64 0, .int .i64 0]
  m : Boxed W b9 22 nv
  f10 : Blk W (b9 + 1) 26 [.int .i64 0, .int .i64 0]
  sh : Sl W hv HL
  sn : Sl W nv NL
theorem QS.below {w W W' : World} {N : Int} {v hv nv : Value} {b7 b9 : Nat} {HL NL : List Int} (h : QS w N v hv nv b7 b9 HL NL W) (k : Below W.heap.size W W') : QS w N v hv nv b7 b9 HL NL W' :=
  ⟨bcat2 h.bel k, blk_below h.x k, Boxed.below h.h k, blk_below h.f8 k, Boxed.below h.m k, blk_below h.f10 k, h.sh.below k, h.sn.below k⟩
set_option maxRecDepth 100000 in
set_option maxHeartbeats 8000000 in
theorem qsec_bad1 (N c i : Int) (v1 : Option Addr) (v2 v3 : Nat) (l1 : Option Addr) (l2 l3 : Nat) (m1 : Option Addr) (m2 m3 : Nat) (w : World) (hT : Tab w) (hc : c ≠ 0)
    (HMD : Hid (∀ W, Below w.heap.size w W → Calls Tryz.prog 23 #[.agg #[.int .i64 N, .slice v1 v2 v3], .slice l1 l2 l3] W fun x W' => ∃ a1 a2 a3, x = .returned (.tuple #[.slice a1 a2 a3, .agg #[.int .i64 c, .int .i64 i]]) ∧ Below W.heap.size W W'))
    (HCL : Hid (∀ W, Below w.heap.size w W → Calls Tryz.prog 24 #[.agg #[.int .i64 N, .slice v1 v2 v3], .slice m1 m2 m3] W fun x W' => ∃ a1 a2 a3 c2 i2, x = .returned (.tuple #[.slice a1 a2 a3, .agg #[.int .i64 c2, .int .i64 i2]]) ∧ Below W.heap.size W W')) :
    Calls Tryz.prog 5 #[.agg #[.int .i64 N, .slice v1 v2 v3], .slice l1 l2 l3, .slice m1 m2 m3] w fun e w' => e = .returned (.bool true) ∧ Below w.heap.size w w' := by
  have hcb : (c != 0) = true := by simpa using hc
  have hB0 : Below w.heap.size w (w.alloc (.cells #[.int .i64 N, .slice v1 v2 v3] 24)) := balloc w _
  have hX0 : BoxG (w.alloc (.cells #[.int .i64 N, .slice v1 v2 v3] 24)) w.heap.size N (.slice v1 v2 v3) := blk0 _ _
  have HQB := hide (fun W (h : Below w.heap.size w W) => quotBegun_any W (hT.below h))
  go_enter Tryz.func5, Tryz.ntmps5
  go_wp2_with fail
  generalize w.alloc (.cells #[.int .i64 N, .slice v1 v2 v3] 24) = w0 at *
  refine (HQB.out _ hB0).mono ?_
  rintro x w1 ⟨rfl, hb1⟩
  have hX1 := blk_below hX0 hb1
  have hB1 := bcat2 hB0 hb1
  clear hX0 hB0 hb1
  obtain ⟨c0, c1, _, _⟩ := hX1.two
  go_wp2_with fail
  clear c0 c1
  refine (HMD.out _ hB1).mono ?_
  rintro x w2 ⟨h1, h2, h3, rfl, hb2⟩
  obtain ⟨w3, hw3⟩ : ∃ w3, w3 = (w2.alloc (.cells #[.slice h1 h2 h3] 22)).alloc (.cells #[.int .i64 c, .int .i64 i] 26) := ⟨_, rfl⟩
  have hbw3 : Below w2.heap.size w2 w3 := by rw [hw3]; exact (balloc w2 _).alloc (by simp) _
  have hb3 := bcat2 hb2 hbw3
  have hH3 : Boxed w3 w2.heap.size 22 (.slice h1 h2 h3) := by rw [hw3]; exact (Boxed.new w2 22 _).alloc _
  have hF3 : Blk w3 (w2.heap.size + 1) 26 [.int .i64 c, .int .i64 i] := by
    rw [hw3]
    have := blk0 (w := w2.alloc (.cells #[.slice h1 h2 h3] 22)) (T := 26) (.int .i64 c) (.int .i64 i)
    rwa [World.size_alloc] at this
  have hX3 := blk_below hX1 hb3
  have hB3 := bcat2 hB1 hb3
  obtain ⟨c0, c1, _, _⟩ := hX3.two
  rw [hw3] at c0 c1
  go_wp2_with fail
  rw [← hw3]
  clear c0 c1 hw3
  refine (HCL.out _ hB3).mono ?_
  rintro x w4 ⟨n1, n2, n3, cc, ii, rfl, hb4⟩
  obtain ⟨w5, hw5⟩ : ∃ w5, w5 = (w4.alloc (.cells #[.slice n1 n2 n3] 22)).alloc (.cells #[.int .i64 cc, .int .i64 ii] 26) := ⟨_, rfl⟩
  have hbw5 : Below w4.heap.size w4 w5 := by rw [hw5]; exact (balloc w4 _).alloc (by simp) _
  have hb5 := bcat2 hb4 hbw5
  have hN5 : Boxed w5 w4.heap.size 22 (.slice n1 n2 n3) := by rw [hw5]; exact (Boxed.new w4 22 _).alloc _
  have hG5 : Blk w5 (w4.heap.size + 1) 26 [.int .i64 cc, .int .i64 ii] := by
    rw [hw5]
    have := blk0 (w := w4.alloc (.cells #[.slice n1 n2 n3] 22)) (T := 26) (.int .i64 cc) (.int .i64 ii)
    rwa [World.size_alloc] at this
  have hX5 := blk_below hX3 hb5
  have hH5 := Boxed.below hH3 hb5
  have hF5 := blk_below hF3 hb5
  have hB5 := bcat2 hB3 hb5
  obtain ⟨e0, e1, _, _⟩ := hF5.two
  rw [hw5] at e0 e1
  go_wp2
  rw [← hw5]
  go_ret
  exact ⟨rfl, hB5⟩
set_option maxRecDepth 100000 in
set_option maxHeartbeats 8000000 in
theorem qsec_bad2 (N c i : Int) (v1 : Option Addr) (v2 v3 : Nat) (l1 : Option Addr) (l2 l3 : Nat) (m1 : Option Addr) (m2 m3 : Nat) (w : World) (hT : Tab w) (hc : c ≠ 0)
    (HMD : Hid (∀ W, Below w.heap.size w W → Calls Tryz.prog 23 #[.agg #[.int .i64 N, .slice v1 v2 v3], .slice l1 l2 l3] W fun x W' => ∃ a1 a2 a3, x = .returned (.tuple #[.slice a1 a2 a3, .agg #[.int .i64 0, .int .i64 0]]) ∧ Below W.heap.size W W'))
    (HCL : Hid (∀ W, Below w.heap.size w W → Calls Tryz.prog 24 #[.agg #[.int .i64 N, .slice v1 v2 v3], .slice m1 m2 m3] W fun x W' => ∃ a1 a2 a3, x = .returned (.tuple #[.slice a1 a2 a3, .agg #[.int .i64 c, .int .i64 i]]) ∧ Below W.heap.size W W')) :
    Calls Tryz.prog 5 #[.agg #[.int .i64 N, .slice v1 v2 v3], .slice l1 l2 l3, .slice m1 m2 m3] w fun e w' => e = .returned (.bool true) ∧ Below w.heap.size w w' := by
  have hcb : (c != 0) = true := by simpa using hc
  have hB0 : Below w.heap.size w (w.alloc (.cells #[.int .i64 N, .slice v1 v2 v3] 24)) := balloc w _
  have hX0 : BoxG (w.alloc (.cells #[.int .i64 N, .slice v1 v2 v3] 24)) w.heap.size N (.slice v1 v2 v3) := blk0 _ _
  have HQB := hide (fun W (h : Below w.heap.size w W) => quotBegun_any W (hT.below h))
  go_enter Tryz.func5, Tryz.ntmps5
  go_wp2_with fail
  generalize w.alloc (.cells #[.int .i64 N, .slice v1 v2 v3] 24) = w0 at *
  refine (HQB.out _ hB0).mono ?_
  rintro x w1 ⟨rfl, hb1⟩
  have hX1 := blk_below hX0 hb1
  have hB1 := bcat2 hB0 hb1
  clear hX0 hB0 hb1
  obtain ⟨c0, c1, _, _⟩ := hX1.two
  go_wp2_with fail
  clear c0 c1
  refine (HMD.out _ hB1).mono ?_
  rintro x w2 ⟨h1, h2, h3, rfl, hb2⟩
  obtain ⟨w3, hw3⟩ : ∃ w3, w3 = (w2.alloc (.cells #[.slice h1 h2 h3] 22)).alloc (.cells #[.int .i64 0, .int .i64 0] 26) := ⟨_, rfl⟩
  have hbw3 : Below w2.heap.size w2 w3 := by rw [hw3]; exact (balloc w2 _).alloc (by simp) _
  have hb3 := bcat2 hb2 hbw3
  have hH3 : Boxed w3 w2.heap.size 22 (.slice h1 h2 h3) := by rw [hw3]; exact (Boxed.new w2 22 _).alloc _
  have hF3 : Blk w3 (w2.heap.size + 1) 26 [.int .i64 0, .int .i64 0] := by
    rw [hw3]
    have := blk0 (w := w2.alloc (.cells #[.slice h1 h2 h3] 22)) (T := 26) (.int .i64 0) (.int .i64 0)
    rwa [World.size_alloc] at this
  have hX3 := blk_below hX1 hb3
  have hB3 := bcat2 hB1 hb3
  obtain ⟨c0, c1, _, _⟩ := hX3.two
  rw [hw3] at c0 c1
  go_wp2_with fail
  rw [← hw3]
  clear c0 c1 hw3
  refine (HCL.out _ hB3).mono ?_
  rintro x w4 ⟨n1, n2, n3, rfl, hb4⟩
  obtain ⟨w5, hw5⟩ : ∃ w5, w5 = (w4.alloc (.cells #[.slice n1 n2 n3] 22)).alloc (.cells #[.int .i64 c, .int .i64 i] 26) := ⟨_, rfl⟩
  have hbw5 : Below w4.heap.size w4 w5 := by rw [hw5]; exact (balloc w4 _).alloc (by simp) _
  have hb5 := bcat2 hb4 hbw5
  have hN5 : Boxed w5 w4.heap.size 22 (.slice n1 n2 n3) := by rw [hw5]; exact (Boxed.new w4 22 _).alloc _
  have hG5 : Blk w5 (w4.heap.size + 1) 26 [.int .i64 c, .int .i64 i] := by
    rw [hw5]
    have := blk0 (w := w4.alloc (.cells #[.slice n1 n2 n3] 22)) (T := 26) (.int .i64 c) (.int .i64 i)
    rwa [World.size_alloc] at this
  have hX5 := blk_below hX3 hb5
  have hH5 := Boxed.below hH3 hb5
  have hF5 := blk_below hF3 hb5
  have hB5 := bcat2 hB3 hb5
  obtain ⟨e0, e1, _, _⟩ := hF5.two
  obtain ⟨f0, f1, _, _⟩ := hG5.two
  rw [hw5] at e0 e1 f0 f1
  go_wp2
  rw [← hw5]
  go_ret
  exact ⟨rfl, hB5⟩
end Go.Proofs.YtlhjeenijcokoaaGreatDoor

namespace Go.Proofs.YtlhjeenijcokoaaGreatDoor
open Go Go.RowKit

set_option maxRecDepth 100000 in
set_option maxHeartbeats 8000000 in
theorem qsec_good (n K KA KH : Nat) (HL NL BL UL AL PL QL TA TH TP TQ : List Int) (v1 : Option Addr) (v2 v3 : Nat) (l1 : Option Addr) (l2 l3 : Nat) (m1 : Option Addr) (m2 m3 : Nat) (w : World) (hT : Tab w)
    (HMD : Hid (∀ W, Below w.heap.size w W → Calls Tryz.prog 23 #[.agg #[.int .i64 n, .slice v1 v2 v3], .slice l1 l2 l3] W fun x W' => ∃ r1 r2 r3, x = .returned (.tuple #[.slice r1 r2 r3, .agg #[.int .i64 0, .int .i64 0]]) ∧ Sl W' (.slice r1 r2 r3) HL ∧ Below W.heap.size W W'))
    (HCL : Hid (∀ W, Below w.heap.size w W → Calls Tryz.prog 24 #[.agg #[.int .i64 n, .slice v1 v2 v3], .slice m1 m2 m3] W fun x W' => ∃ r1 r2 r3, x = .returned (.tuple #[.slice r1 r2 r3, .agg #[.int .i64 0, .int .i64 0]]) ∧ Sl W' (.slice r1 r2 r3) NL ∧ Below W.heap.size W W'))
    (HLF : Hid (∀ W a1 a2 a3 L, Below w.heap.size w W → (L = HL ∨ L = NL ∨ L = AL) → Sl W (.slice a1 a2 a3) L → Calls Tryz.prog 25 #[.agg #[.int .i64 n, .slice v1 v2 v3], .slice a1 a2 a3] W fun x W' => x = .returned (.agg #[.int .i64 0, .int .i64 0]) ∧ Below W.heap.size W W'))
    (HBO : Hid (∀ W a1 a2 a3 b1 b2 b3, Below w.heap.size w W → Sl W (.slice a1 a2 a3) HL → Sl W (.slice b1 b2 b3) NL → Calls Tryz.prog 26 #[.slice a1 a2 a3, .slice b1 b2 b3] W fun x W' => ∃ r1 r2 r3, x = .returned (.slice r1 r2 r3) ∧ Sl W' (.slice r1 r2 r3) BL ∧ Below W.heap.size W W'))
    (HTH : Hid (∀ W a1 a2 a3 b1 b2 b3 b7 b9, Below w.heap.size w W → QS w n (.slice v1 v2 v3) (.slice a1 a2 a3) (.slice b1 b2 b3) b7 b9 HL NL W → Calls Tryz.prog 27 #[.agg #[.int .i64 n, .slice v1 v2 v3], .func (.func 28) #[] #[.pointer (some ⟨b7, 0, none⟩), .pointer (some ⟨b9, 0, none⟩)]] W fun x W' => ∃ r1 r2 r3, x = .returned (.slice r1 r2 r3) ∧ Sl W' (.slice r1 r2 r3) UL ∧ Below W.heap.size W W'))
    (HMA : Hid (∀ W a1 a2 a3, Below w.heap.size w W → Sl W (.slice a1 a2 a3) UL → Calls Tryz.prog 23 #[.agg #[.int .i64 n, .slice v1 v2 v3], .slice a1 a2 a3] W fun x W' => ∃ r1 r2 r3, x = .returned (.tuple #[.slice r1 r2 r3, .agg #[.int .i64 0, .int .i64 0]]) ∧ Sl W' (.slice r1 r2 r3) AL ∧ Below W.heap.size W W'))
    (HP1 : Hid (∀ W a1 a2 a3, Below w.heap.size w W → Sl W (.slice a1 a2 a3) AL → Calls Tryz.prog 22 #[.agg #[.int .i64 n, .slice v1 v2 v3], .slice a1 a2 a3] W fun x W' => ∃ r1 r2 r3, x = .returned (.tuple #[.agg #[.int .i64 KA, .slice r1 r2 r3], .agg #[.int .i64 0, .int .i64 0]]) ∧ Sl W' (.slice r1 r2 r3) TA ∧ Below W.heap.size W W'))
    (HP2 : Hid (∀ W a1 a2 a3, Below w.heap.size w W → Sl W (.slice a1 a2 a3) HL → Calls Tryz.prog 22 #[.agg #[.int .i64 n, .slice v1 v2 v3], .slice a1 a2 a3] W fun x W' => ∃ r1 r2 r3, x = .returned (.tuple #[.agg #[.int .i64 KH, .slice r1 r2 r3], .agg #[.int .i64 0, .int .i64 0]]) ∧ Sl W' (.slice r1 r2 r3) TH ∧ Below W.heap.size W W'))
    (HN1 : Hid (∀ W a1 a2 a3 b1 b2 b3, Below w.heap.size w W → Sl W (.slice a1 a2 a3) AL → Sl W (.slice b1 b2 b3) NL → Calls Tryz.prog 30 #[.slice a1 a2 a3, .slice b1 b2 b3] W fun x W' => ∃ r1 r2 r3, x = .returned (.slice r1 r2 r3) ∧ Sl W' (.slice r1 r2 r3) PL ∧ Below W.heap.size W W'))
    (HN2 : Hid (∀ W a1 a2 a3 b1 b2 b3, Below w.heap.size w W → Sl W (.slice a1 a2 a3) HL → Sl W (.slice b1 b2 b3) BL → Calls Tryz.prog 30 #[.slice a1 a2 a3, .slice b1 b2 b3] W fun x W' => ∃ r1 r2 r3, x = .returned (.slice r1 r2 r3) ∧ Sl W' (.slice r1 r2 r3) QL ∧ Below W.heap.size W W'))
    (HQ1 : Hid (∀ W a1 a2 a3 b1 b2 b3, Below w.heap.size w W → Sl W (.slice a1 a2 a3) TA → Sl W (.slice b1 b2 b3) PL → Calls Tryz.prog 21 #[.agg #[.int .i64 KA, .slice a1 a2 a3], .slice b1 b2 b3] W fun x W' => ∃ r1 r2 r3 s1 s2 s3, x = .returned (.tuple #[.agg #[.int .i64 K, .slice r1 r2 r3], .slice s1 s2 s3, .agg #[.int .i64 0, .int .i64 0]]) ∧ SlF W.heap.size W' (.slice r1 r2 r3) TP ∧ Below W.heap.size W W'))
    (HQ2 : Hid (∀ W a1 a2 a3 b1 b2 b3, Below w.heap.size w W → Sl W (.slice a1 a2 a3) TH → Sl W (.slice b1 b2 b3) QL → Calls Tryz.prog 21 #[.agg #[.int .i64 KH, .slice a1 a2 a3], .slice b1 b2 b3] W fun x W' => ∃ r1 r2 r3 s1 s2 s3, x = .returned (.tuple #[.agg #[.int .i64 K, .slice r1 r2 r3], .slice s1 s2 s3, .agg #[.int .i64 0, .int .i64 0]]) ∧ SlF W.heap.size W' (.slice r1 r2 r3) TQ ∧ Below W.heap.size W W'))
    (HIS : Hid (∀ W a1 a2 a3 b1 b2 b3, Below w.heap.size w W → Sl W (.slice a1 a2 a3) TP → Sl W (.slice b1 b2 b3) TQ → Calls Tryz.prog 7 #[.agg #[.int .i64 K, .slice a1 a2 a3], .agg #[.int .i64 K, .slice b1 b2 b3]] W fun x W' => ∃ r1 r2 r3, x = .returned (.tuple #[.slice r1 r2 r3, .agg #[.int .i64 0, .int .i64 0]]) ∧ Below W.heap.size W W')) :
    Calls Tryz.prog 5 #[.agg #[.int .i64 n, .slice v1 v2 v3], .slice l1 l2 l3, .slice m1 m2 m3] w fun e w' => e = .returned (.bool true) ∧ Below w.heap.size w w' := by
  have hfld : ∀ W, Sem.run Tryz.prog (Instr.field 26 (.agg #[.int .i64 0, .int .i64 0]) 0) W = .ok (.int .i64 0) W := fun W => by kernel_rfl
  have hB0 : Below w.heap.size w (w.alloc (.cells #[.int .i64 n, .slice v1 v2 v3] 24)) := balloc w _
  have hX0 : BoxG (w.alloc (.cells #[.int .i64 n, .slice v1 v2 v3] 24)) w.heap.size n (.slice v1 v2 v3) := blk0 _ _
  have HQB := hide (fun W (h : Below w.heap.size w W) => quotBegun_any W (hT.below h))
  go_enter Tryz.func5, Tryz.ntmps5
  go_wp2_with fail
  generalize w.alloc (.cells #[.int .i64 n, .slice v1 v2 v3] 24) = w0 at *
  refine (HQB.out _ hB0).mono ?_
  rintro x w1 ⟨rfl, hb1⟩
  have hX1 := blk_below hX0 hb1
  have hB1 := bcat2 hB0 hb1
  clear hX0 hB0 hb1
  obtain ⟨c0, c1, _, _⟩ := hX1.two
  go_wp2_with fail
  clear c0 c1
  refine (HMD.out _ hB1).mono ?_
  rintro x w2 ⟨h1, h2, h3, rfl, hsH, hb2⟩
  obtain ⟨w3, hw3⟩ : ∃ w3, w3 = (w2.alloc (.cells #[.slice h1 h2 h3] 22)).alloc (.cells #[.int .i64 0, .int .i64 0] 26) := ⟨_, rfl⟩
  have hbw3 : Below w2.heap.size w2 w3 := by rw [hw3]; exact (balloc w2 _).alloc (by simp) _
  have hb3 := bcat2 hb2 hbw3
  have hH3 : Boxed w3 w2.heap.size 22 (.slice h1 h2 h3) := by rw [hw3]; exact (Boxed.new w2 22 _).alloc _
  have hF3 : Blk w3 (w2.heap.size + 1) 26 [.int .i64 0, .int .i64 0] := by
    rw [hw3]
    have := blk0 (w := w2.alloc (.cells #[.slice h1 h2 h3] 22)) (T := 26) (.int .i64 0) (.int .i64 0)
    rwa [World.size_alloc] at this
  have hX3 := blk_below hX1 hb3
  have hB3 := bcat2 hB1 hb3
  obtain ⟨c0, c1, _, _⟩ := hX3.two
  rw [hw3] at c0 c1
  go_wp2_with fail
  rw [← hw3]
  clear c0 c1 hw3
  refine (HCL.out _ hB3).mono ?_
  rintro x w4 ⟨n1, n2, n3, rfl, hsN, hb4⟩
  obtain ⟨w5, hw5⟩ : ∃ w5, w5 = (w4.alloc (.cells #[.slice n1 n2 n3] 22)).alloc (.cells #[.int .i64 0, .int .i64 0] 26) := ⟨_, rfl⟩
  have hbw5 : Below w4.heap.size w4 w5 := by rw [hw5]; exact (balloc w4 _).alloc (by simp) _
  have hb5 := bcat2 hb4 hbw5
  have hN5 : Boxed w5 w4.heap.size 22 (.slice n1 n2 n3) := by rw [hw5]; exact (Boxed.new w4 22 _).alloc _
  have hG5 : Blk w5 (w4.heap.size + 1) 26 [.int .i64 0, .int .i64 0] := by
    rw [hw5]
    have := blk0 (w := w4.alloc (.cells #[.slice n1 n2 n3] 22)) (T := 26) (.int .i64 0) (.int .i64 0)
    rwa [World.size_alloc] at this
  have hX5 := blk_below hX3 hb5
  have hH5 := Boxed.below hH3 hb5
  have hF5 := blk_below hF3 hb5
  have hB5 := bcat2 hB3 hb5
  have qs5 : QS w n (.slice v1 v2 v3) (.slice h1 h2 h3) (.slice n1 n2 n3) w2.heap.size w4.heap.size HL NL w5 := ⟨hB5, hX5, hH5, hF5, hN5, hG5, (hsH.below hbw3).below hb5, hsN.below hbw5⟩
  have hs24 : w3.heap.size ≤ w4.heap.size := hb4.size
  have hs23 : w2.heap.size + 1 < w3.heap.size := hF3.lt
  clear hB5 hX5 hH5 hF5 hN5 hG5 hsH hsN hH3 hF3 hX3 hB3 hb5 hb3 hbw3 hX1 hB1 hb2
  obtain ⟨c0, c1, _, _⟩ := qs5.x.two
  obtain ⟨e0, e1, _, _⟩ := qs5.f8.two
  obtain ⟨f0, f1, _, _⟩ := qs5.f10.two
  have g0 := qs5.h.cell
  rw [hw5] at c0 c1 e0 e1 f0 f1 g0
  go_wp2_with fail
  rw [← hw5]
  clear c0 c1 e0 e1 f0 f1 g0 hw5 hb4 hbw5
  refine (HLF.out _ _ _ _ _ qs5.bel (.inl rfl) qs5.sh).mono ?_
  rintro x w6 ⟨rfl, hb6⟩
  have qs6 := qs5.below hb6
  clear qs5 hb6
  obtain ⟨c0, c1, _, _⟩ := qs6.x.two
  have g0 := qs6.m.cell
  go_wp2_with fail
  clear c0 c1 g0
  refine (HLF.out _ _ _ _ _ qs6.bel (.inr (.inl rfl)) qs6.sn).mono ?_
  rintro x w7 ⟨rfl, hb7⟩
  have qs7 := qs6.below hb7
  clear qs6 hb7
  have g0 := qs7.h.cell
  have g1 := qs7.m.cell
  go_wp2_with fail
  clear g0 g1
  refine (HBO.out _ _ _ _ _ _ _ qs7.bel qs7.sh qs7.sn).mono ?_
  rintro x w8 ⟨o1, o2, o3, rfl, hsB, hb8⟩
  have qs8 := qs7.below hb8
  clear qs7 hb8
  obtain ⟨c0, c1, _, _⟩ := qs8.x.two
  have hS : ∀ W9, Below w8.heap.size w8 W9 → (Below w8.heap.size w8 W9 ∧ W9.cell? ⟨w.heap.size, 0, none⟩ = some (.int .i64 n) ∧ W9.cell? ⟨w.heap.size, 1, none⟩ = some (.slice v1 v2 v3)) := fun W9 h => ⟨h, below_cell h c0, below_cell h c1⟩
  have hS0 := hS _ (bdrew (Below.refl _ w8))
  clear c0 c1
  go_wp2_with fail
  go_cut [12, 13] (fun s12 s13 wx => SRel w8 AL s12 s13 wx)
  case first =>
    clear HIS HQ1 HQ2 HN1 HN2 HP1 HP2 HBO HLF HCL HMD HQB
    go_region_held3 (fun W9 => Below w8.heap.size w8 W9 ∧ W9.cell? ⟨w.heap.size, 0, none⟩ = some (.int .i64 n) ∧ W9.cell? ⟨w.heap.size, 1, none⟩ = some (.slice v1 v2 v3))
      (first | exact hS0 | assumption | exact hS _ (bcat2 (And.left ‹_›) hl6) | exact hS _ (bcat2 (And.left ‹_›) hl5) | exact hS _ (bcat2 (And.left ‹_›) (balloc _ _)) | exact hS _ (bcat2 hU6 (balloc _ _)))
      (first
        | (go_at_call 27; refine (HTH.out _ _ _ _ _ _ _ _ _ (bcat2 qs8.bel (And.left ‹_›)) (qs8.below (And.left ‹_›))).mono ?_; rintro e5 U5 ⟨a1, a2, a3, rfl, ha5, hl5⟩; have hU5 := bcat2 (And.left ‹_›) hl5; (first | (with_reducible have pA := mkA hl5) | (with_reducible have pA := mkA (undA hl5)) | skip))
        | (go_at_call 23; refine (HMA.out _ _ _ _ (bcat2 qs8.bel (And.left ‹_›)) (by first | exact ha5 | exact ha5.below (balloc _ _))).mono ?_; rintro e6 U6 ⟨q1, q2, q3, rfl, hs6, hl6⟩; have hU6 := bcat2 (And.left ‹_›) hl6; (first | (with_reducible have pB := mkA hl6) | skip); (first | (with_reducible have pA := blk_below pA hl6) | skip); (try (obtain ⟨_, _, _, _⟩ := pA.two; obtain ⟨_, _⟩ := pA.self)); (try (obtain ⟨_, _, _, _⟩ := pB.two; obtain ⟨_, _⟩ := pB.self))))
    all_goals (go_wp2; go_meet)
    all_goals (first
      | exact srel_new hU6 hs6
      | exact srel_same hU5.size hU6 pB hs6
      | exact srel_same (Nat.le_refl _) hU6 pA hs6)
  case rest =>
    obtain ⟨b13, q1, q2, q3, rfl, rfl, hb13, hF13, hsA, hbx⟩ := hcut
    have qsc := qs8.below hbx
    have hsBc := hsB.below hbx
    have hs8 := qs8.f10.lt
    clear hS hS0 HTH HMA qs8 hsB hbx HBO HMD HCL HQB
    obtain ⟨c0, c1, _, _⟩ := qsc.x.two
    obtain ⟨e0, e1, _, _⟩ := hF13.two
    go_wp2_with fail
    clear c0 c1 e0 e1
    refine (HLF.out _ _ _ _ _ qsc.bel (.inr (.inr rfl)) hsA).mono ?_
    rintro x w10 ⟨rfl, hb10⟩
    have qsd := qsc.below hb10
    have hF10 := blk_below hF13 hb10
    have hsA10 := hsA.below hb10
    have hsB10 := hsBc.below hb10
    clear qsc hF13 hsA hsBc hb10 HLF
    obtain ⟨c0, c1, _, _⟩ := qsd.x.two
    go_wp2_with fail
    clear c0 c1
    refine (HP1.out _ _ _ _ qsd.bel hsA10).mono ?_
    rintro x w11 ⟨t1, t2, t3, rfl, hsT, hb11⟩
    obtain ⟨w12, hw12⟩ : ∃ w12, w12 = w11.alloc (.cells #[.int .i64 KA, .slice t1 t2 t3] 24) := ⟨_, rfl⟩
    have hbw : Below w11.heap.size w11 w12 := by rw [hw12]; exact balloc w11 _
    have hT12 : BoxG w12 w11.heap.size KA (.slice t1 t2 t3) := by rw [hw12]; exact blk0 _ _
    have hb12 := bcat2 hb11 hbw
    have qse := qsd.below hb12
    have hF12 := blk_below hF10 hb12
    have hsA12 := hsA10.below hb12
    have hsB12 := hsB10.below hb12
    have hsT12 := hsT.below hbw
    clear qsd hF10 hsA10 hsB10 hsT hb12 hb11 hbw HP1
    obtain ⟨c0, c1, _, _⟩ := qse.x.two
    obtain ⟨e0, e1, fe0, fe1⟩ := qse.f8.two
    obtain ⟨z0, z1⟩ := qse.f8.self
    have g0 := qse.h.cell
    rw [hw12] at c0 c1 e0 e1 fe0 fe1 z0 z1 g0
    go_wp2_with fail
    rw [← hw12]
    clear c0 c1 e0 e1 fe0 fe1 z0 z1 g0 hw12
    refine (HP2.out _ _ _ _ qse.bel qse.sh).mono ?_
    rintro x w13 ⟨y1, y2, y3, rfl, hsY, hb13'⟩
    obtain ⟨w14, hw14⟩ : ∃ w14, w14 = w13.alloc (.cells #[.int .i64 KH, .slice y1 y2 y3] 24) := ⟨_, rfl⟩
    have hbw : Below w13.heap.size w13 w14 := by rw [hw14]; exact balloc w13 _
    have hY14 : BoxG w14 w13.heap.size KH (.slice y1 y2 y3) := by rw [hw14]; exact blk0 _ _
    have hb14 := bcat2 hb13' hbw
    have qsf := qse.below hb14
    have hF14 := blk_below hF12 hb14
    have hT14 := blk_below hT12 hb14
    have hsA14 := hsA12.below hb14
    have hsB14 := hsB12.below hb14
    have hsT14 := hsT12.below hb14
    have hsY14 := hsY.below hbw
    clear qse hF12 hT12 hsA12 hsB12 hsT12 hsY hb14 hb13' hbw HP2
    obtain ⟨e0, e1, _, _⟩ := qsf.f8.two
    obtain ⟨f0, f1, ff0, ff1⟩ := qsf.f10.two
    obtain ⟨z0, z1⟩ := qsf.f10.self
    have hcall := call30
    rw [hw14] at e0 e1 f0 f1 ff0 ff1 z0 z1
    go_wp2_with fail
    rw [← hw14]
    clear e0 e1 f0 f1 ff0 ff1 z0 z1 hw14
    have hS : ∀ W9, Below w14.heap.size w14 W9 → (Below w14.heap.size w14 W9 ∧ W9.cell? ⟨w11.heap.size, 0, none⟩ = some (.int .i64 KA) ∧ W9.cell? ⟨w11.heap.size, 1, none⟩ = some (.slice t1 t2 t3) ∧ W9.cell? ⟨w4.heap.size, 0, none⟩ = some (.slice n1 n2 n3) ∧ W9.cell? ⟨w2.heap.size + 1, 0, none⟩ = some (.int .i64 0) ∧ W9.cell? ⟨w2.heap.size + 1, 1, none⟩ = some (.int .i64 0) ∧ W9.frozen? ⟨w2.heap.size + 1, 0, none⟩ = false ∧ W9.frozen? ⟨w2.heap.size + 1, 1, none⟩ = false ∧ W9.setCell ⟨w2.heap.size + 1, 0, none⟩ (.int .i64 0) = W9 ∧ W9.setCell ⟨w2.heap.size + 1, 1, none⟩ (.int .i64 0) = W9) := fun W9 h => by
      obtain ⟨p0, p1, _, _⟩ := hT14.two
      obtain ⟨e0, e1, fe0, fe1⟩ := (blk_below qsf.f8 h).two
      obtain ⟨z0, z1⟩ := (blk_below qsf.f8 h).self
      exact ⟨h, below_cell h p0, below_cell h p1, below_cell h qsf.m.cell, e0, e1, fe0, fe1, z0, z1⟩
    have hS0 := hS _ (bdrew (Below.refl _ w14))
    go_cut [17, 18] (fun s17 _ wx => GRel w14 K TP s17 wx)
    case first =>
      go_region_held3 (fun W9 => Below w14.heap.size w14 W9 ∧ W9.cell? ⟨w11.heap.size, 0, none⟩ = some (.int .i64 KA) ∧ W9.cell? ⟨w11.heap.size, 1, none⟩ = some (.slice t1 t2 t3) ∧ W9.cell? ⟨w4.heap.size, 0, none⟩ = some (.slice n1 n2 n3) ∧ W9.cell? ⟨w2.heap.size + 1, 0, none⟩ = some (.int .i64 0) ∧ W9.cell? ⟨w2.heap.size + 1, 1, none⟩ = some (.int .i64 0) ∧ W9.frozen? ⟨w2.heap.size + 1, 0, none⟩ = false ∧ W9.frozen? ⟨w2.heap.size + 1, 1, none⟩ = false ∧ W9.setCell ⟨w2.heap.size + 1, 0, none⟩ (.int .i64 0) = W9 ∧ W9.setCell ⟨w2.heap.size + 1, 1, none⟩ (.int .i64 0) = W9)
        (first | exact hS0 | assumption | exact hS _ (bcat2 (And.left ‹_›) hl6) | exact hS _ (bcat2 (And.left ‹_›) hl5) | exact hS _ (bcat2 (And.left ‹_›) (balloc _ _)) | exact hS _ (bcat2 hU6 (balloc _ _)) | exact hS _ (bSet (bSet hU6 hU5.size) hU5.size) | exact hS _ (bSet (bSet hU6 (Nat.le_refl _)) (Nat.le_refl _)))
        (first
          | (go_at_call 30; refine (HN1.out _ _ _ _ _ _ _ (bcat2 qsf.bel (And.left ‹_›)) (hsA14.below (And.left ‹_›)) (qsf.sn.below (And.left ‹_›))).mono ?_; rintro e5 U5 ⟨a1, a2, a3, rfl, ha5, hl5⟩; have hU5 := bcat2 (And.left ‹_›) hl5; (first | (with_reducible have pA := mkG hl5; have ltA := pA.lt) | (with_reducible have pA := mkG (undA hl5); have ltA := pA.lt) | skip))
          | (go_at_call 21; refine (HQ1.out _ _ _ _ _ _ _ (bcat2 qsf.bel (And.left ‹_›)) (hsT14.below (And.left ‹_›)) (by first | exact ha5 | exact ha5.below (balloc _ _))).mono ?_; rintro e6 U6 ⟨r1, r2, r3, s1, s2, s3, rfl, hr6, hl6⟩; have hU6 := bcat2 (And.left ‹_›) hl6; (first | (with_reducible have pB := mkG hl6) | skip); (first | (with_reducible have pA := blk_below pA hl6) | skip); (try (obtain ⟨_, _, _, _⟩ := pA.two)); (try (obtain ⟨_, _, _, _⟩ := pB.two))))
      all_goals (go_wp2; go_meet)
      all_goals (first
        | exact grel_new hU6 hr6
        | exact grel_put hU5.size hU6 pB (by simp) hr6
        | exact grel_put (Nat.le_refl _) hU6 pA ltA hr6)
    case rest =>
      obtain ⟨b17, r1, r2, r3, rfl, hb17, hP, hsP, hbx⟩ := hcut
      have qsg := qsf.below hbx
      have hFx := blk_below hF14 hbx
      have hYx := blk_below hY14 hbx
      have hsBx := hsB14.below hbx
      have hsYx := hsY14.below hbx
      clear qsf hF14 hT14 hY14 hsA14 hsB14 hsT14 hsY14 hbx hS hS0 HN1 HQ1
      go_wp2_with fail
      have hS : ∀ W9, Below wc.heap.size wc W9 → (Below wc.heap.size wc W9 ∧ W9.cell? ⟨w13.heap.size, 0, none⟩ = some (.int .i64 KH) ∧ W9.cell? ⟨w13.heap.size, 1, none⟩ = some (.slice y1 y2 y3) ∧ W9.cell? ⟨w2.heap.size, 0, none⟩ = some (.slice h1 h2 h3) ∧ W9.cell? ⟨w4.heap.size + 1, 0, none⟩ = some (.int .i64 0) ∧ W9.cell? ⟨w4.heap.size + 1, 1, none⟩ = some (.int .i64 0) ∧ W9.frozen? ⟨w4.heap.size + 1, 0, none⟩ = false ∧ W9.frozen? ⟨w4.heap.size + 1, 1, none⟩ = false ∧ W9.setCell ⟨w4.heap.size + 1, 0, none⟩ (.int .i64 0) = W9 ∧ W9.setCell ⟨w4.heap.size + 1, 1, none⟩ (.int .i64 0) = W9) := fun W9 h => by
        obtain ⟨p0, p1, _, _⟩ := hYx.two
        obtain ⟨e0, e1, fe0, fe1⟩ := (blk_below qsg.f10 h).two
        obtain ⟨z0, z1⟩ := (blk_below qsg.f10 h).self
        exact ⟨h, below_cell h p0, below_cell h p1, below_cell h qsg.h.cell, e0, e1, fe0, fe1, z0, z1⟩
      have hS0 := hS _ (bdrew (Below.refl _ wc))
      go_cut [19, 20] (fun s17 _ wx => GRel wc K TQ s17 wx)
      case first =>
        go_region_held3 (fun W9 => Below wc.heap.size wc W9 ∧ W9.cell? ⟨w13.heap.size, 0, none⟩ = some (.int .i64 KH) ∧ W9.cell? ⟨w13.heap.size, 1, none⟩ = some (.slice y1 y2 y3) ∧ W9.cell? ⟨w2.heap.size, 0, none⟩ = some (.slice h1 h2 h3) ∧ W9.cell? ⟨w4.heap.size + 1, 0, none⟩ = some (.int .i64 0) ∧ W9.cell? ⟨w4.heap.size + 1, 1, none⟩ = some (.int .i64 0) ∧ W9.frozen? ⟨w4.heap.size + 1, 0, none⟩ = false ∧ W9.frozen? ⟨w4.heap.size + 1, 1, none⟩ = false ∧ W9.setCell ⟨w4.heap.size + 1, 0, none⟩ (.int .i64 0) = W9 ∧ W9.setCell ⟨w4.heap.size + 1, 1, none⟩ (.int .i64 0) = W9)
          (first | exact hS0 | assumption | exact hS _ (bcat2 (And.left ‹_›) hl6) | exact hS _ (bcat2 (And.left ‹_›) hl5) | exact hS _ (bcat2 (And.left ‹_›) (balloc _ _)) | exact hS _ (bcat2 hU6 (balloc _ _)) | exact hS _ (bSet (bSet hU6 hU5.size) hU5.size) | exact hS _ (bSet (bSet hU6 (Nat.le_refl _)) (Nat.le_refl _)))
          (first
            | (go_at_call 30; refine (HN2.out _ _ _ _ _ _ _ (bcat2 qsg.bel (And.left ‹_›)) (qsg.sh.below (And.left ‹_›)) (hsBx.below (And.left ‹_›))).mono ?_; rintro e5 U5 ⟨a1, a2, a3, rfl, ha5, hl5⟩; have hU5 := bcat2 (And.left ‹_›) hl5; (first | (with_reducible have pA := mkG hl5; have ltA := pA.lt) | (with_reducible have pA := mkG (undA hl5); have ltA := pA.lt) | skip))
            | (go_at_call 21; refine (HQ2.out _ _ _ _ _ _ _ (bcat2 qsg.bel (And.left ‹_›)) (hsYx.below (And.left ‹_›)) (by first | exact ha5 | exact ha5.below (balloc _ _))).mono ?_; rintro e6 U6 ⟨r1, r2, r3, s1, s2, s3, rfl, hr6, hl6⟩; have hU6 := bcat2 (And.left ‹_›) hl6; (first | (with_reducible have pB := mkG hl6) | skip); (first | (with_reducible have pA := blk_below pA hl6) | skip); (try (obtain ⟨_, _, _, _⟩ := pA.two)); (try (obtain ⟨_, _, _, _⟩ := pB.two))))
        all_goals (go_wp2; go_meet)
        all_goals (first
          | exact grel_new hU6 hr6
          | exact grel_put hU5.size hU6 pB (by simp) hr6
          | exact grel_put (Nat.le_refl _) hU6 pA ltA hr6)
      case rest =>
        obtain ⟨b19, u1, u2, u3, rfl, hb19, hQ, hsQ, hby⟩ := hcut
        have qsh := qsg.below hby
        have hFy := blk_below hFx hby
        have hPy := blk_below hP hby
        have hsPy := hsP.below hby
        clear qsg hFx hP hsP hby hS hS0 HN2 HQ2 hYx hsBx hsYx
        obtain ⟨e0, e1, _, _⟩ := qsh.f8.two
        obtain ⟨f0, f1, _, _⟩ := qsh.f10.two
        obtain ⟨p0, p1, _, _⟩ := hPy.two
        obtain ⟨o0, o1', _, _⟩ := hQ.two
        go_wp2_with fail
        clear e0 e1 f0 f1 p0 p1 o0 o1'
        refine (HIS.out _ _ _ _ _ _ _ qsh.bel hsPy hsQ).mono ?_
        rintro x wz ⟨i1, i2, i3, rfl, hbz⟩
        obtain ⟨e0, e1, fe0, fe1⟩ := (blk_below hFy hbz).two
        obtain ⟨z0, z1⟩ := (blk_below hFy hbz).self
        go_wp2
        go_ret
        exact ⟨rfl, bcat2 qsh.bel hbz⟩
end Go.Proofs.YtlhjeenijcokoaaGreatDoor

namespace Go.Proofs.YtlhjeenijcokoaaGreatDoor
open Go Go.RowKit

section
variable {n : Nat} {q nq : Nat → Bool}
theorem li_thing {xs : List Nat} {i : Nat} (hi : i < xs.length) : (li xs)[i]?.getD 0 = (thing xs i : Int) := by
  rw [thing_eq hi]
  unfold li
  simp [hi]
theorem mem_li' {xs : List Nat} {a : Nat} : (a : Int) ∈ li xs ↔ a ∈ xs := by
  unfold li
  rw [List.mem_map]
  constructor
  · rintro ⟨b, h1, h2⟩
    have h3 : b = a := by omega
    rwa [h3] at h1
  · intro h
    exact ⟨a, h, rfl⟩
/-- The numbers of a part's things that are in a set. -/
theorem number_pset {i : Nat} (hi : i < (lst n q).length) : pset (li (lst (li (lst n q)).length fun j => decide ((li (lst n q))[j]?.getD 0 ∈ li (lst n nq)))) i = true ↔ nq (thing (lst n q) i) = true := by
  have hi' : i < (li (lst n q)).length := by rw [li_len]; exact hi
  rw [pset_lst hi', decide_eq_true_eq, li_thing hi, mem_li', mem_lst]
  exact ⟨fun h => h.2, fun h => ⟨(mem_lst.1 (thing_mem hi)).1, h⟩⟩
theorem both_lst : (li (lst n q)).filter (fun a => decide (a ∈ li (lst n nq))) = li (lst n fun a => q a && nq a) := by
  unfold li lst
  rw [List.filter_map, List.filter_filter]
  refine congrArg _ (List.filter_congr fun a ha => ?_)
  have ha := List.mem_range.1 ha
  have h9 : ((a : Int) ∈ ((List.range n).filter nq).map (fun k : Nat => (k : Int))) ↔ nq a = true := by
    have := mem_li' (xs := lst n nq) (a := a)
    unfold li at this
    rw [show lst n nq = (List.range n).filter nq from rfl] at this
    rw [this, List.mem_filter, List.mem_range]
    exact ⟨fun h => h.2, fun h => ⟨ha, h⟩⟩
  show (decide ((a : Int) ∈ _) && q a) = _
  rw [Bool.and_comm]
  congr 1
  rw [Bool.eq_iff_iff, decide_eq_true_eq]
  exact h9
end
theorem mde_shape {N : Int} {v u : Value} {zs ls : List Int} {w : World} (hv : Sl w v zs) (hu : Sl w u ls) (hT : Tab w) :
    Calls Tryz.prog 23 #[.agg #[.int .i64 N, v], u] w fun x w' => ∃ a1 a2 a3, x = .returned (.tuple #[.slice a1 a2 a3, .agg #[.int .i64 (sfault N zs ls).1, .int .i64 (sfault N zs ls).2]]) ∧ Below w.heap.size w w' := mde_any N v u zs ls w hv hu hT
theorem clo_shape {N : Int} {v u : Value} {zs ls : List Int} {w : World} (hv : Sl w v zs) (hu : Sl w u ls) (hT : Tab w) :
    Calls Tryz.prog 24 #[.agg #[.int .i64 N, v], u] w fun x w' => ∃ a1 a2 a3, x = .returned (.tuple #[.slice a1 a2 a3, .agg #[.int .i64 (sfault N zs ls).1, .int .i64 (sfault N zs ls).2]]) ∧ Below w.heap.size w w' := by
  by_cases hc : (sfault N zs ls).1 = 0
  · obtain ⟨n, e, rfl, hg, hl, h0⟩ := sfault_zero hc
    obtain ⟨p, hp⟩ := mkd_test n zs e (cloq n zs e (pset ls) n)
    rw [h0]
    refine (clo_good n e v u zs ls p w hv hg hu hT hl hp).mono ?_
    rintro x w' ⟨r, rfl, hr, hb⟩
    obtain ⟨a1, a2, a3, rfl⟩ := hr.sl.isSlice
    exact ⟨a1, a2, a3, rfl, hb⟩
  · refine (clo_bad N v u zs ls w hv hu hc).mono ?_
    rintro x w' ⟨rfl, hb⟩
    exact ⟨none, 0, 0, rfl, hb⟩
theorem qsec_law (N : Int) (v l m : Value) (zs ls ms : List Int) (w : World) (hv : Sl w v zs) (hl : Sl w l ls) (hm : Sl w m ms) (hT : Tab w) :
    Calls Tryz.prog 5 #[.agg #[.int .i64 N, v], l, m] w fun e w' => e = .returned (.bool true) ∧ Below w.heap.size w w' := by
  obtain ⟨v1, v2, v3, rfl⟩ := hv.isSlice
  obtain ⟨l1, l2, l3, rfl⟩ := hl.isSlice
  obtain ⟨m1, m2, m3, rfl⟩ := hm.isSlice
  by_cases hc1 : (sfault N zs ls).1 = 0
  · by_cases hc2 : (sfault N zs ms).1 = 0
    · obtain ⟨n, e, rfl, hg, hll, _⟩ := sfault_zero hc1
      obtain ⟨n', e', hn', hg', hlm, _⟩ := sfault_zero hc2
      obtain rfl : n = n' := by omega
      have hn60 := hg.tab.le
      obtain ⟨hq, hhq⟩ := mkd_test n zs e (pset ls)
      obtain ⟨nq, hnq⟩ := mkd_test n zs e (cloq n zs e (pset ms) n)
      obtain ⟨aq, haq⟩ := mkd_test n zs e (fun x => hq x || nq x)
      have hs : subT n zs e hq = true := sub_of hhq hg (Fin.Gen.sg _)
      have ns : subT n zs e nq = true := sub_of hnq hg (Fin.Gen.sg _)
      have nN : nrmq n zs e nq = true := nrm_of hnq hg (fun x a hx ha h9 => (mkd_clo _).2 (Fin.clos_nm (grp_fg hg) (grp_iv hg) x a hx ha ((mkd_clo _).1 h9)))
      have aS : subT n zs e aq = true := sub_of haq hg (Fin.Gen.sg _)
      have hp := fun i (hi : i < (lst n aq).length) => number_pset (n := n) (q := aq) (nq := nq) hi
      have hp' : ∀ i, i < (lst n hq).length → (pset (li (lst (li (lst n hq)).length fun j => decide ((li (lst n hq))[j]?.getD 0 ∈ li (lst n fun a => hq a && nq a)))) i = true ↔ nq (thing (lst n hq) i) = true) := fun i hi => by
        rw [number_pset hi, Bool.and_eq_true]
        exact ⟨fun h => h.2, fun h => ⟨(mem_lst.1 (thing_mem hi)).2, h⟩⟩
      obtain ⟨PL, ePL⟩ : ∃ PL, PL = li (lst (li (lst n aq)).length fun j => decide ((li (lst n aq))[j]?.getD 0 ∈ li (lst n nq))) := ⟨_, rfl⟩
      obtain ⟨QL, eQL⟩ : ∃ QL, QL = li (lst (li (lst n hq)).length fun j => decide ((li (lst n hq))[j]?.getD 0 ∈ li (lst n fun a => hq a && nq a))) := ⟨_, rfl⟩
      rw [← ePL] at hp
      rw [← eQL] at hp'
      obtain ⟨ps, pN⟩ := part_normal hg aS ns nN hp
      obtain ⟨qs, qN⟩ := part_normal hg hs ns nN hp'
      have gA := part_grp hg aS
      have gH := part_grp hg hs
      obtain ⟨KA, eKA⟩ : ∃ K, K = (lst n aq).length := ⟨_, rfl⟩
      obtain ⟨KH, eKH⟩ : ∃ K, K = (lst n hq).length := ⟨_, rfl⟩
      have lA := lst_len n aq
      have lH := lst_len n hq
      have hpl : lfault KA PL = (0, 0) := by rw [ePL, li_len, eKA]; exact lst_fault _ _
      have hql : lfault KH QL = (0, 0) := by rw [eQL, li_len, eKH]; exact lst_fault _ _
      rw [← eKA] at ps pN gA
      rw [← eKH] at qs qN gH
      obtain ⟨TA, eTA⟩ : ∃ T, T = mkT KA (parF n zs (lst n aq)) := ⟨_, rfl⟩
      obtain ⟨TH, eTH⟩ : ∃ T, T = mkT KH (parF n zs (lst n hq)) := ⟨_, rfl⟩
      rw [← eTA] at ps pN gA
      rw [← eTH] at qs qN gH
      have gP := quo_grp gA ps pN
      have gQ := quo_grp gH qs qN
      obtain ⟨KP, eKP⟩ : ∃ K, K = (fsts KA (rgtq KA TA (lst KA (pset PL))) KA).length := ⟨_, rfl⟩
      obtain ⟨KQ, eKQ⟩ : ∃ K, K = (fsts KH (rgtq KH TH (lst KH (pset QL))) KH).length := ⟨_, rfl⟩
      rw [← eKP] at gP
      rw [← eKQ] at gQ
      obtain ⟨TP, eTP⟩ : ∃ T, T = mkT KP (quoF KA TA (rgtq KA TA (lst KA (pset PL)))) := ⟨_, rfl⟩
      obtain ⟨TQ, eTQ⟩ : ∃ T, T = mkT KQ (quoF KH TH (rgtq KH TH (lst KH (pset QL)))) := ⟨_, rfl⟩
      rw [← eTP] at gP
      rw [← eTQ] at gQ
      obtain ⟨hK, f, A⟩ := second_iso hg hs ns nN haq aS hp hp' eKA eTA eKH eTH eKP eTP eKQ eTQ
      have h0 : 0 < w.heap.size := hT.lt
      have hul : ∀ a, a < n → (pset (li (lst n fun a : Nat => decide ((a : Int) ∈ li (lst n hq)) || decide ((a : Int) ∈ li (lst n nq)))) a = true ↔ (hq a || nq a) = true) := fun a ha => by
        rw [pset_lst ha, Bool.or_eq_true, Bool.or_eq_true, decide_eq_true_eq, decide_eq_true_eq, mem_li', mem_li', mem_lst, mem_lst]
        exact ⟨fun h => h.imp (·.2) (·.2), fun h => h.imp (⟨ha, ·⟩) (⟨ha, ·⟩)⟩
      have haq' : ∀ a, a < n → (aq a = true ↔ Mkd n zs e (pset (li (lst n fun a : Nat => decide ((a : Int) ∈ li (lst n hq)) || decide ((a : Int) ∈ li (lst n nq))))) a) := fun a ha => (haq a ha).trans
        ⟨fun h => Fin.Gen.mono (fun x hx h9 => (hul x (List.mem_range.1 hx)).2 h9) h, fun h => Fin.Gen.mono (fun x hx h9 => (hul x (List.mem_range.1 hx)).1 h9) h⟩
      refine qsec_good n KP KA KH (li (lst n hq)) (li (lst n nq)) (li (lst n fun a => hq a && nq a)) (li (lst n fun a : Nat => decide ((a : Int) ∈ li (lst n hq)) || decide ((a : Int) ∈ li (lst n nq)))) (li (lst n aq)) PL QL TA TH TP TQ v1 v2 v3 l1 l2 l3 m1 m2 m3 w hT
        (hide fun W h => (mde_good n e (.slice v1 v2 v3) (.slice l1 l2 l3) zs ls hq W (hv.below h) hg (hl.below h) (hT.below h) hll hhq).mono fun x W' ⟨r, h1, hr, hb⟩ => ?_)
        (hide fun W h => (clo_good n e (.slice v1 v2 v3) (.slice m1 m2 m3) zs ms nq W (hv.below h) hg (hm.below h) (hT.below h) hlm hnq).mono fun x W' ⟨r, h1, hr, hb⟩ => ?_)
        (hide fun W a1 a2 a3 L h hL h1 => (rlist_any n (.slice v1 v2 v3) (.slice a1 a2 a3) L W hn60 h1).mono fun x W' h9 => ?_)
        (hide fun W a1 a2 a3 b1 b2 b3 h h1 h2 => (both_ok (.slice a1 a2 a3) (.slice b1 b2 b3) _ _ W h1 h2 (by rw [li_len]; omega)).mono fun x W' ⟨r, h3, hr, hb⟩ => ?_)
        (hide fun W a1 a2 a3 b1 b2 b3 b7 b9 h Q => (rthose_ok n 28 (.slice v1 v2 v3) #[.pointer (some ⟨b7, 0, none⟩), .pointer (some ⟨b9, 0, none⟩)] (fun a : Nat => decide ((a : Int) ∈ li (lst n hq)) || decide ((a : Int) ∈ li (lst n nq))) W hn60 (fun a W => call28 _ _ _ W) (fun W' a h9 _ => (sec1_ok b7 b9 a1 a2 a3 b1 b2 b3 _ _ a W' (Boxed.below Q.h h9) (Boxed.below Q.m h9) (Q.sh.below h9) (Q.sn.below h9)).mono fun x W'' h8 => ⟨h8.1, by rw [h8.2]; exact Below.refl _ _⟩)).mono fun x W' ⟨r, h3, hr, hb⟩ => ?_)
        (hide fun W a1 a2 a3 h h1 => (mde_good n e (.slice v1 v2 v3) (.slice a1 a2 a3) zs _ aq W (hv.below h) hg h1 (hT.below h) (lst_fault n _) haq').mono fun x W' ⟨r, h2, hr, hb⟩ => ?_)
        (hide fun W a1 a2 a3 h h1 => (part_good n e (.slice v1 v2 v3) (.slice a1 a2 a3) zs _ W (hv.below h) hg h1 (hT.below h) (lst_fault n _) ((subT_congr hg fun a ha => pset_lst ha).trans aS)).mono fun x W' ⟨r1, r2, r3, h2, hr, hb⟩ => ?_)
        (hide fun W a1 a2 a3 h h1 => (part_good n e (.slice v1 v2 v3) (.slice a1 a2 a3) zs _ W (hv.below h) hg h1 (hT.below h) (lst_fault n _) ((subT_congr hg fun a ha => pset_lst ha).trans hs)).mono fun x W' ⟨r1, r2, r3, h2, hr, hb⟩ => ?_)
        (hide fun W a1 a2 a3 b1 b2 b3 h h1 h2 => (number_ok (.slice a1 a2 a3) (.slice b1 b2 b3) _ _ W h1 h2 (by rw [li_len]; omega)).mono fun x W' ⟨r, h3, hr, hb⟩ => ?_)
        (hide fun W a1 a2 a3 b1 b2 b3 h h1 h2 => (number_ok (.slice a1 a2 a3) (.slice b1 b2 b3) _ _ W h1 h2 (by rw [li_len]; omega)).mono fun x W' ⟨r, h3, hr, hb⟩ => ?_)
        (hide fun W a1 a2 a3 b1 b2 b3 h h1 h2 => (quo_goodF _ _ (.slice a1 a2 a3) (.slice b1 b2 b3) _ _ W h1 gA h2 (hT.below h) hpl ps pN).mono fun x W' ⟨r1, r2, r3, s1, s2, s3, h3, hr, _, hb⟩ => ?_)
        (hide fun W a1 a2 a3 b1 b2 b3 h h1 h2 => (quo_goodF _ _ (.slice a1 a2 a3) (.slice b1 b2 b3) _ _ W h1 gH h2 (hT.below h) hql qs qN).mono fun x W' ⟨r1, r2, r3, s1, s2, s3, h3, hr, _, hb⟩ => ?_)
        (hide fun W a1 a2 a3 b1 b2 b3 h h1 h2 => ?_)
      · obtain ⟨a1, a2, a3, rfl⟩ := hr.sl.isSlice
        exact ⟨a1, a2, a3, h1, hr.sl, hb⟩
      · obtain ⟨a1, a2, a3, rfl⟩ := hr.sl.isSlice
        exact ⟨a1, a2, a3, h1, hr.sl, hb⟩
      · rcases hL with rfl | rfl | rfl <;> (rw [lst_fault] at h9; exact h9)
      · have hsl := row_sl hr (Nat.lt_of_lt_of_le (Nat.lt_of_lt_of_le h0 h.size) hb.size)
        rw [both_lst] at hsl
        obtain ⟨a1, a2, a3, rfl⟩ := hsl.isSlice
        exact ⟨a1, a2, a3, h3, hsl, hb⟩
      · have hsl := row_sl hr (Nat.lt_of_lt_of_le (Nat.lt_of_lt_of_le h0 h.size) hb.size)
        obtain ⟨a1, a2, a3, rfl⟩ := hsl.isSlice
        exact ⟨a1, a2, a3, h3, hsl, hb⟩
      · obtain ⟨a1, a2, a3, rfl⟩ := hr.sl.isSlice
        exact ⟨a1, a2, a3, h2, hr.sl, hb⟩
      · rw [lst_congr (q := aq) fun a ha => pset_lst ha, ← eKA] at h2 hr
        rw [← eTA] at hr
        exact ⟨r1, r2, r3, h2, hr, hb⟩
      · rw [lst_congr (q := hq) fun a ha => pset_lst ha, ← eKH] at h2 hr
        rw [← eTH] at hr
        exact ⟨r1, r2, r3, h2, hr, hb⟩
      · have hsl := row_sl hr (Nat.lt_of_lt_of_le (Nat.lt_of_lt_of_le h0 h.size) hb.size)
        rw [← ePL] at hsl
        obtain ⟨a1, a2, a3, rfl⟩ := hsl.isSlice
        exact ⟨a1, a2, a3, h3, hsl, hb⟩
      · have hsl := row_sl hr (Nat.lt_of_lt_of_le (Nat.lt_of_lt_of_le h0 h.size) hb.size)
        rw [← eQL] at hsl
        obtain ⟨a1, a2, a3, rfl⟩ := hsl.isSlice
        exact ⟨a1, a2, a3, h3, hsl, hb⟩
      · rw [← eKP] at h3 hr
        rw [← eTP] at hr
        exact ⟨r1, r2, r3, s1, s2, s3, h3, hr, hb⟩
      · rw [← eKQ] at h3 hr
        rw [← eTQ] at hr
        rw [← hK] at h3
        exact ⟨r1, r2, r3, s1, s2, s3, h3, hr, hb⟩
      · rw [← hK] at gQ A
        refine (hiso_any _ _ _ _ (.slice a1 a2 a3) (.slice b1 b2 b3) _ _ W h1 gP h2 gQ (hT.below h)).mono ?_
        rintro x W' ⟨hb, ⟨ψ, g, hnm, B, rfl, hgs, hM⟩ | ⟨rfl, hno⟩⟩
        · exact ⟨_, _, _, rfl, hb⟩
        · exact absurd ⟨f, A⟩ (hno rfl)
    · exact qsec_bad2 N _ _ v1 v2 v3 l1 l2 l3 m1 m2 m3 w hT hc2 (hide fun W h => (mde_shape (hv.below h) (hl.below h) (hT.below h)).mono fun x W' ⟨a1, a2, a3, h1, h2⟩ => ⟨a1, a2, a3, by
        obtain ⟨_, _, _, _, _, h0⟩ := sfault_zero hc1
        rw [h0] at h1
        exact h1, h2⟩) (hide fun W h => clo_shape (hv.below h) (hm.below h) (hT.below h))
  · exact qsec_bad1 N _ _ v1 v2 v3 l1 l2 l3 m1 m2 m3 w hT hc1 (hide fun W h => mde_shape (hv.below h) (hl.below h) (hT.below h)) (hide fun W h => (clo_shape (hv.below h) (hm.below h) (hT.below h)).mono fun x W' ⟨a1, a2, a3, h1, h2⟩ => ⟨a1, a2, a3, _, _, h1, h2⟩)
end Go.Proofs.YtlhjeenijcokoaaGreatDoor

namespace Go.Proofs.YtlhjeenijcokoaaGreatDoor
open Go.ChangeShapes Go.WideShapes Go.ChangeAt Go.RowKit

theorem own : ownKnob Tryz.prog.godebug = none := by kernel_rfl
theorem laidOut : laidOutB Tryz.prog = true := by kernel_rfl

/-- A slice of ints that reads as zs; where nothing is in it, nothing is told of the memory. -/
def SlA (w : World) (v : Value) (zs : List Int) : Prop := ∃ a cap pb po, v = .slice a zs.length cap ∧ Reads w a pb po zs ∧ (0 < zs.length → pb < w.heap.size) ∧ zs.length ≤ cap ∧ cap ≤ maxLen
theorem SlA.up {w w' : World} {v : Value} {zs : List Int} (h : SlA w v zs) (hb : Below w.heap.size w w') (h0 : 0 < w'.heap.size) : Sl w' v zs := by
  obtain ⟨a, cap, pb, po, hv, hr, hp, h1, h2⟩ := h
  rcases Nat.eq_zero_or_pos zs.length with hz | hz
  · exact ⟨a, cap, 0, 0, hv, ⟨fun h => by omega, fun j hj => by omega⟩, h0, h1, h2⟩
  · exact ⟨a, cap, pb, po, hv, hr.below hb (hp hz), Nat.lt_of_lt_of_le (hp hz) hb.size, h1, h2⟩
theorem SlA.of {w : World} {v : Value} {zs : List Int} (h : Sl w v zs) : SlA w v zs := by
  obtain ⟨a, cap, pb, po, hv, hr, hp, h1, h2⟩ := h
  exact ⟨a, cap, pb, po, hv, hr, fun _ => hp, h1, h2⟩

theorem und24 : ∃ f0 f1 : Field, Tryz.prog.underlying 24 = some (.struct #[f0, f1]) ∧ f0.type = 3 ∧ f1.type = 22 ∧ f0.offset = 0 ∧ f1.offset = 1 := ⟨_, _, Tryz.underlying24, rfl, rfl, rfl, rfl⟩
theorem und3 : Tryz.prog.underlying 3 = some (.int .i64) := by kernel_rfl
theorem und22 : Tryz.prog.underlying 22 = some (.slice 3) := by kernel_rfl
theorem und4 : Tryz.prog.underlying 4 = some .bool := by kernel_rfl

set_option maxRecDepth 100000 in
/-- What is told of a table that came in. -/
theorem open_group {H : Type} {enc : TypeId × Value → H} {W : World} {b0 : Nat} {v : Value} {d : DataW H} {ps : List MemPlace} (hval : Value.okWide Tryz.prog W .any b0 24 v)
    (hd : DataW.Trod enc Tryz.prog W 0 (fun _ => true) true 24 v d ps) :
    ∃ N u zs, v = .agg #[.int .i64 N, u] ∧ SlA W u zs ∧ (Lit.int .i64 N).wf = true ∧ ((d.weights Tryz.prog 24).all (· ≤ reachBytes) = true → zs.length * 8 ≤ 140737488355328) := by
  obtain ⟨f0, f1, hu, ht0, ht1, ho0, ho1⟩ := und24
  obtain ⟨cs, rfl, hsz⟩ := okWide_struct hu hval
  rw [show Tryz.prog.cellsOf 24 = 2 by kernel_rfl] at hsz
  obtain ⟨l⟩ := cs
  match l, hsz with
  | [c0, c1], _ =>
  obtain ⟨fuel, hf⟩ := hd
  obtain ⟨y0, y1, m, hx, _, hy0, hy1⟩ := trod_struct2 hu hf
  rw [ht0, ho0, show Tryz.prog.cellsOf 3 = 1 by kernel_rfl] at hy0
  rw [ht1, ho1, show Tryz.prog.cellsOf 22 = 1 by kernel_rfl] at hy1
  obtain ⟨N, e0, rfl, wN⟩ := DataW.trod_int und3 hy0
  simp [Value.cells] at e0
  subst e0
  simp [Value.cells] at hy1
  rcases open_ints und22 und3 (by kernel_rfl) hy1 with ⟨hcs, _⟩ | ⟨x, l, c, zs, hcs, _, hl, hm, hz, heq, hcell, hwz⟩
  · simp at hcs
    subst hcs
    exact ⟨N, _, [], rfl, ⟨none, 0, 0, 0, rfl, ⟨by simp, by simp⟩, by simp, by simp, by unfold maxLen; omega⟩, wN, fun _ => by simp⟩
  · simp at hcs
    subst hcs
    have hzc : zs.length = c := by simpa using hz
    have hlen : (zs.take l).length = l := by rw [List.length_take]; omega
    refine ⟨N, _, zs.take l, rfl, ?_, wN, fun hw => ?_⟩
    · by_cases hpos : 0 < c
      · obtain ⟨b, o, rfl, hc'⟩ := ints_at hcell (by omega)
        refine ⟨some ⟨b, o, none⟩, c, b, o, by rw [hlen], ⟨fun _ => rfl, fun j hj => ?_⟩, fun _ => World.block_lt_of_cell? W _ (hc' 0 (by omega)), by omega, hm⟩
        rw [hlen] at hj
        rw [hc' j (by omega), List.getElem?_take, if_pos hj, List.getD_eq_getElem?_getD]
      · have : l = 0 := by omega
        subst this
        exact ⟨some x, c, 0, 0, by simp, ⟨by simp, by simp⟩, by simp, by simp, hm⟩
    · have hd : d = .agg [.lit (.int .i64 N), .slice (lits .i64 (zs.take l)) (lits .i64 (zs.drop l))] := by
        have h1 := congrArg Prod.fst hx
        simp only [heq] at h1
        exact h1
      have hw2 := List.all_eq_true.1 hw (((lits (H := H) .i64 (zs.take l)).length + (lits (H := H) .i64 (zs.drop l)).length) * Tryz.prog.bytesOf 3) (by
        rw [hd]; simp [DataW.weights, DataW.weightsEach, hu, ht0, ht1])
      rw [show Tryz.prog.bytesOf 3 = 8 by kernel_rfl] at hw2
      simp only [lits, List.length_map, decide_eq_true_eq] at hw2
      unfold reachBytes at hw2
      omega
end Go.Proofs.YtlhjeenijcokoaaGreatDoor

namespace Go.Proofs.YtlhjeenijcokoaaGreatDoor
open Go.ChangeShapes Go.WideShapes Go.ChangeAt Go.RowKit

/-- What the rows list. -/
def laid1 : List (String × DataW Unit) := Rows.homIsoRow.laid
def tabZ : List Int := Lib.deBruijn64tab.map fun (x : Nat) => (x : Int)
theorem tab_data : (Rows.laid_math_bits_deBruijn64tab : DataW Unit) = Lib.tabData .u8 tabZ := by kernel_rfl
/-- The door's own heap meets the condition. -/
theorem door_met (os : Os) (args : Array Value) : laidMetH Tryz.prog laid1 ((World.doorLaid Tryz.prog 400 os).forCall (fun _ _ => 0) ⟨#[], args, []⟩).memory :=
  laidMetH_of_parts3 (fuel := 8) (laidMet_of_run' 8 (by kernel_rfl) (by kernel_rfl)) (by kernel_rfl) (by kernel_rfl)
theorem tab_of_laid {W : World} (h : laidMetH Tryz.prog laid1 W) : Tab W := by
  rw [MakeChecks.laidMetH_plain _ _ _ (by kernel_rfl)] at h
  have h2 : laidMet Tryz.prog [("math/bits.deBruijn64tab", (Rows.laid_math_bits_deBruijn64tab : DataW Unit))] W := h
  rw [tab_data] at h2
  have hg : Tryz.prog.globalNamed "math/bits.deBruijn64tab" = some 0 := by kernel_rfl
  have hT := Lib.tabIs_of_head hg (t := 131) (e := 5) (n := 64) (by kernel_rfl) (by kernel_rfl) (by kernel_rfl) (by kernel_rfl) (by kernel_rfl) h2
  intro j hj
  have hj' : j < tabZ.length := by simpa [tabZ] using hj
  have hc := hT.cell hg j hj'
  rw [hc]
  simp [tabZ, hj]
set_option maxRecDepth 100000 in
/-- A list of ints that came in: its value, what it reads as, and its size. -/
theorem open_list {H : Type} {enc : TypeId × Value → H} {W : World} {b0 : Nat} {v : Value} {d : DataW H} {ps : List MemPlace} (hval : Value.okWide Tryz.prog W .any b0 22 v)
    (hd : DataW.Trod enc Tryz.prog W 0 (fun _ => true) true 22 v d ps) (h0 : 0 < W.heap.size) :
    ∃ zs, Sl W v zs ∧ ((d.weights Tryz.prog 22).all (· ≤ reachBytes) = true → zs.length * 8 ≤ 140737488355328) := by
  obtain ⟨a, len, cap, rfl⟩ := okWide_slice und22 hval
  obtain ⟨fuel, hf⟩ := hd
  rcases open_ints und22 und3 (by kernel_rfl) hf with ⟨hcs, _⟩ | ⟨x, l, c, zs, hcs, _, hl, hm, hz, heq, hcell, hwz⟩
  · simp [Value.cells] at hcs
    obtain ⟨rfl, rfl, rfl⟩ := hcs
    exact ⟨[], Sl.nil h0, fun _ => by simp⟩
  · simp [Value.cells] at hcs
    obtain ⟨rfl, rfl, rfl⟩ := hcs
    have hzc : zs.length = cap := by simpa using hz
    have hlen : (zs.take len).length = len := by rw [List.length_take]; omega
    refine ⟨zs.take len, ?_, fun hw => ?_⟩
    · by_cases hpos : 0 < cap
      · obtain ⟨b, o, rfl, hc'⟩ := ints_at hcell (by omega)
        refine ⟨some ⟨b, o, none⟩, cap, b, o, by rw [hlen], ⟨fun _ => rfl, fun j hj => ?_⟩, World.block_lt_of_cell? W _ (hc' 0 (by omega)), by omega, hm⟩
        rw [hlen] at hj
        rw [hc' j (by omega), List.getElem?_take, if_pos hj, List.getD_eq_getElem?_getD]
      · have : len = 0 := by omega
        subst this
        exact ⟨some x, cap, 0, 0, by simp, ⟨by simp, by simp⟩, h0, by simp, hm⟩
    · simp only [Prod.mk.injEq] at heq
      have hw2 := List.all_eq_true.1 hw (((lits (H := H) .i64 (zs.take len)).length + (lits (H := H) .i64 (zs.drop len)).length) * Tryz.prog.bytesOf 3) (by
        rw [heq.1]; simp [DataW.weights])
      rw [show Tryz.prog.bytesOf 3 = 8 by kernel_rfl] at hw2
      simp only [lits, List.length_map, decide_eq_true_eq] at hw2
      unfold reachBytes at hw2
      omega
end Go.Proofs.YtlhjeenijcokoaaGreatDoor
