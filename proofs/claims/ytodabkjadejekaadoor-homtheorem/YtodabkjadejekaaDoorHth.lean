/- What the law HomTheorem answers: true, at every two tables and every list; homomorphisms as mathematics. -/
import Derived.Test.YtodabkjadejekaaDoorHoa
import Derived.Test.YtodabkjadejekaaDoorHy
namespace Go.Proofs.YtodabkjadejekaaDoor
open Go Go.RowKit

section
variable {n e m d : Nat} {zs ys : List Int} {φ : Nat → Nat}
theorem ker_sg (g : IsGrp n zs e) (h : IsGrp m ys d) (H : IsHom n zs m ys φ) : Fin.Sg (List.range n) (tm n zs) e (fun a => φ a = d) :=
  ⟨IsHom.one g h H, fun a b ha hb h1 h2 => by rw [H.mul a b (List.mem_range.1 ha) (List.mem_range.1 hb), h1, h2, h.left d h.elt]⟩
theorem hom_iv (g : IsGrp n zs e) (h : IsGrp m ys d) (H : IsHom n zs m ys φ) {a : Nat} (ha : a < n) : tm m ys (φ (iv n zs e a)) (φ a) = d := by
  obtain ⟨h1, _, h3, _⟩ := iv_spec g ha
  rw [← H.mul _ a h1 ha, h3, IsHom.one g h H]
theorem hom_iv' (g : IsGrp n zs e) (h : IsGrp m ys d) (H : IsHom n zs m ys φ) {a : Nat} (ha : a < n) : tm m ys (φ a) (φ (iv n zs e a)) = d := by
  obtain ⟨h1, h2, _, _⟩ := iv_spec g ha
  rw [← H.mul a _ ha h1, h2, IsHom.one g h H]
theorem ker_nm (g : IsGrp n zs e) (h : IsGrp m ys d) (H : IsHom n zs m ys φ) : Fin.Nm (List.range n) (tm n zs) (iv n zs e) (fun a => φ a = d) := fun x a hx ha hk => by
  have hx := List.mem_range.1 hx
  have ha := List.mem_range.1 ha
  obtain ⟨h1, _, _, _⟩ := iv_spec g ha
  show φ (tm n zs (iv n zs e a) (tm n zs x a)) = d
  rw [H.mul _ _ h1 (tm_lt g.tab hx ha), H.mul x a hx ha, hk, h.left _ (H.lt a ha), hom_iv g h H ha]
theorem img_sg (g : IsGrp n zs e) (h : IsGrp m ys d) (H : IsHom n zs m ys φ) : Fin.Sg (List.range m) (tm m ys) d (fun y => y ∈ (List.range n).map φ) :=
  ⟨List.mem_map.2 ⟨e, List.mem_range.2 g.elt, IsHom.one g h H⟩, fun a b _ _ h1 h2 => by
    obtain ⟨x, hx, rfl⟩ := List.mem_map.1 h1
    obtain ⟨y, hy, rfl⟩ := List.mem_map.1 h2
    have hx := List.mem_range.1 hx
    have hy := List.mem_range.1 hy
    exact List.mem_map.2 ⟨tm n zs x y, List.mem_range.2 (tm_lt g.tab hx hy), H.mul x y hx hy⟩⟩
variable {q : Nat → Bool}
theorem ker_cos (g : IsGrp n zs e) (h : IsGrp m ys d) (H : IsHom n zs m ys φ) (hq : ∀ a, a < n → (q a = true ↔ φ a = d)) {a b : Nat} (ha : a < n) (hb : b < n) : rgtq n zs (lst n q) a b = true ↔ φ a = φ b := by
  obtain ⟨h1, h2, h3, _⟩ := iv_spec g ha
  rw [rgt_iff g ha hb, decide_eq_true_eq, mem_lst, hq _ (tm_lt g.tab hb h1), H.mul b _ hb h1]
  constructor
  · rintro ⟨_, hk⟩
    have h9 := h.ass (φ b) (φ (iv n zs e a)) (φ a) (H.lt b hb) (H.lt _ h1) (H.lt a ha)
    rw [hk, hom_iv g h H ha, h.left _ (H.lt a ha), h.right _ (H.lt b hb)] at h9
    exact h9
  · intro hk
    exact ⟨tm_lt g.tab hb h1, by rw [← hk]; exact hom_iv' g h H ha⟩
theorem ker_many (g : IsGrp n zs e) (h : IsGrp m ys d) (H : IsHom n zs m ys φ) (hq : ∀ a, a < n → (q a = true ↔ φ a = d)) (P : Prts n (rgtq n zs (lst n q))) : (fsts n (rgtq n zs (lst n q)) n).length = (lst m (fun y => decide (y ∈ (List.range n).map φ))).length := by
  have hmem : ∀ a, a ∈ fsts n (rgtq n zs (lst n q)) n → a < n := fun a ha => by unfold fsts at ha; exact List.mem_range.1 (List.mem_filter.1 ha).1
  refine Fin.bij_len φ ?_ (List.nodup_range.sublist List.filter_sublist) (fun a ha => ?_) (fun a b ha hb hab => ?_) (fun y hy => ?_)
  · unfold fsts; exact List.nodup_range.sublist List.filter_sublist
  · have ha := hmem a ha
    exact mem_lst.2 ⟨H.lt a ha, decide_eq_true (List.mem_map.2 ⟨a, List.mem_range.2 ha, rfl⟩)⟩
  · have hna := hmem a ha
    have hnb := hmem b hb
    have h1 := (prts_num_eq P hna hnb).2 ((ker_cos g h H hq hna hnb).2 hab)
    obtain ⟨i, hi, ei⟩ := List.mem_iff_getElem.1 ha
    obtain ⟨j, hj, ej⟩ := List.mem_iff_getElem.1 hb
    have e1 := prts_num_at P hi
    have e2 := prts_num_at P hj
    rw [ei] at e1
    rw [ej] at e2
    have : i = j := by omega
    subst this
    rw [← ei, ← ej]
  · obtain ⟨hym, hyi⟩ := mem_lst.1 hy
    obtain ⟨a, ha, rfl⟩ := List.mem_map.1 (of_decide_eq_true hyi)
    have ha := List.mem_range.1 ha
    obtain ⟨h1, h2⟩ := prts_num_lt P ha
    have h3 := h2 h1
    refine ⟨_, List.getElem_mem h1, ?_⟩
    exact ((ker_cos g h H hq ha (fst_lt h1)).1 h3).symm
end
end Go.Proofs.YtodabkjadejekaaDoor

namespace Go.Proofs.YtodabkjadejekaaDoor
open Go Go.RowKit

theorem hf_grp' {N M : Int} {zs ys ms : List Int} (h : (hfault N zs M ys ms).1 = 0) : ∃ n e m d : Nat, N = n ∧ M = m ∧ IsGrp n zs e ∧ IsGrp m ys d := by
  by_cases h1 : (gfault N zs).1 = 0
  · obtain ⟨n, e, rfl, hg, _⟩ := gfault_grp h1
    by_cases h2 : (gfault M ys).1 = 0
    · obtain ⟨m, d, rfl, hh, _⟩ := gfault_grp h2
      exact ⟨n, e, m, d, rfl, rfl, hg, hh⟩
    · rw [hfault_2 hg h2] at h
      exact absurd h h2
  · rw [hfault_1 h1] at h
    exact absurd h h1
set_option maxRecDepth 100000 in
set_option maxHeartbeats 4000000 in
theorem hthm_bad (N M c i : Int) (v1 : Option Addr) (v2 v3 : Nat) (y1 : Option Addr) (y2 y3 : Nat) (mv : Value) (w : World) (hT : Tab w) (hc : c ≠ 0)
    (HC1 : Hid (∀ W, Below w.heap.size w W → Calls Tryd.prog 13 #[.agg #[.int .i64 N, .slice v1 v2 v3], .agg #[.int .i64 M, .slice y1 y2 y3], mv] W fun x W' => x = .returned (.agg #[.int .i64 c, .int .i64 i]) ∧ Below W.heap.size W W'))
    (HR1 : Hid (∀ W, Below w.heap.size w W → Calls Tryd.prog 16 #[.agg #[.int .i64 N, .slice v1 v2 v3], .agg #[.int .i64 M, .slice y1 y2 y3], mv] W fun x W' => x = .returned (.agg #[.int .i64 c, .int .i64 i]) ∧ Below W.heap.size W W')) :
    Calls Tryd.prog 4 #[.agg #[.int .i64 N, .slice v1 v2 v3], .agg #[.int .i64 M, .slice y1 y2 y3], mv] w fun e w' => e = .returned (.bool true) ∧ Below w.heap.size w w' := by
  obtain ⟨w0, hw0⟩ : ∃ w0, w0 = (w.alloc (.cells #[.int .i64 N, .slice v1 v2 v3] 24)).alloc (.cells #[.int .i64 M, .slice y1 y2 y3] 24) := ⟨_, rfl⟩
  have hB0 : Below w.heap.size w w0 := by rw [hw0]; exact (balloc w _).alloc (by simp) _
  have hX0 : BoxG w0 w.heap.size N (.slice v1 v2 v3) := by rw [hw0]; exact (blk0 (w := w) (T := 24) _ _).alloc _
  have hY0 : BoxG w0 (w.heap.size + 1) M (.slice y1 y2 y3) := by
    have := blk0 (w := w.alloc (.cells #[.int .i64 N, .slice v1 v2 v3] 24)) (T := 24) (.int .i64 M) (.slice y1 y2 y3)
    rw [World.size_alloc] at this
    rw [hw0]; exact this
  have hcb : (c != 0) = true := by simpa using hc
  go_enter Tryd.func4, Tryd.ntmps4
  go_wp2_with fail
  rw [← hw0]
  clear hw0
  refine (homBegun_any _ (hT.below hB0)).mono ?_
  rintro x w1 ⟨rfl, hb1⟩
  have hB := bcat2 hB0 hb1
  have hX := blk_below hX0 hb1
  have hY := blk_below hY0 hb1
  clear hB0 hX0 hY0 hb1
  obtain ⟨c0, c1, _, _⟩ := hX.two
  obtain ⟨d0, d1, _, _⟩ := hY.two
  go_wp2_with fail
  clear c0 c1 d0 d1
  refine (HC1.out _ hB).mono ?_
  rintro x w2 ⟨rfl, hb2⟩
  have hB := bcat2 hB hb2
  have hX := blk_below hX hb2
  have hY := blk_below hY hb2
  obtain ⟨c0, c1, _, _⟩ := hX.two
  obtain ⟨d0, d1, _, _⟩ := hY.two
  have hfd := field27 c i w2
  go_wp2_with fail
  clear c0 c1 d0 d1 hfd
  refine (HR1.out _ hB).mono ?_
  rintro x w3 ⟨rfl, hb3⟩
  have hB3 := bcat2 hB hb3
  have hfd := field27 c i w3
  go_wp2
  go_ret
  exact ⟨rfl, hB3⟩
set_option maxRecDepth 100000 in
set_option maxHeartbeats 16000000 in
theorem hthm_good (n m : Nat) (v1 : Option Addr) (v2 v3 : Nat) (y1 : Option Addr) (y2 y3 : Nat) (ma : Option Addr) (mc mb mo : Nat) (φ : Nat → Nat) (K I : List Nat) (CL : List (List Int)) (w : World) (hT : Tab w) (hn6 : n ≤ 60)
    (HMA : Hid (0 < n → ma = some ⟨mb, mo, none⟩)) (HMC : Hid (∀ i, i < n → w.cell? ⟨mb, mo + i, none⟩ = some (.int .i64 (φ i : Int))))
    (hlen : (CL.length : Int) = (I.length : Int)) (hmul : (K.length : Int) * (I.length : Int) = (n : Int)) 
    (HCL : Hid (∀ x, x < CL.length → ∃ (hd : Nat) (tl : List Int), CL[x]?.getD [] = (hd : Int) :: tl ∧ hd < n ∧ ∀ y, y < tl.length + 1 → ∃ a : Nat, ((hd : Int) :: tl)[y]?.getD 0 = (a : Int) ∧ a < n ∧ φ a = φ hd))
    (HC1 : Hid (∀ W, Below w.heap.size w W → Calls Tryd.prog 13 #[.agg #[.int .i64 n, .slice v1 v2 v3], .agg #[.int .i64 m, .slice y1 y2 y3], .slice ma n mc] W fun x W' => x = .returned (.agg #[.int .i64 0, .int .i64 0]) ∧ Below W.heap.size W W'))
    (HK1 : Hid (∀ W, Below w.heap.size w W → Calls Tryd.prog 14 #[.agg #[.int .i64 n, .slice v1 v2 v3], .agg #[.int .i64 m, .slice y1 y2 y3], .slice ma n mc] W fun x W' => ∃ r1 r3, x = .returned (.tuple #[.slice r1 K.length r3, .agg #[.int .i64 0, .int .i64 0]]) ∧ Sl W' (.slice r1 K.length r3) (li K) ∧ Below W.heap.size W W'))
    (HI1 : Hid (∀ W, Below w.heap.size w W → Calls Tryd.prog 15 #[.agg #[.int .i64 n, .slice v1 v2 v3], .agg #[.int .i64 m, .slice y1 y2 y3], .slice ma n mc] W fun x W' => ∃ r1 r3, x = .returned (.tuple #[.slice r1 I.length r3, .agg #[.int .i64 0, .int .i64 0]]) ∧ Sl W' (.slice r1 I.length r3) (li I) ∧ Below W.heap.size W W'))
    (HN1 : Hid (∀ W u, Below w.heap.size w W → Sl W u (li K) → Calls Tryd.prog 27 #[.agg #[.int .i64 n, .slice v1 v2 v3], u] W fun x W' => x = .returned (.tuple #[.bool true, .agg #[.int .i64 0, .int .i64 0]]) ∧ Below W.heap.size W W'))
    (HS1 : Hid (∀ W u, Below w.heap.size w W → Sl W u (li I) → Calls Tryd.prog 28 #[.agg #[.int .i64 m, .slice y1 y2 y3], u] W fun x W' => x = .returned (.tuple #[.bool true, .agg #[.int .i64 0, .int .i64 0]]) ∧ Below W.heap.size W W'))
    (HR1 : Hid (∀ W u, Below w.heap.size w W → Sl W u (li K) → Calls Tryd.prog 29 #[.agg #[.int .i64 n, .slice v1 v2 v3], u] W fun x W' => ∃ r1 r3, x = .returned (.tuple #[.slice r1 CL.length r3, .agg #[.int .i64 0, .int .i64 0]]) ∧ SlL W' (.slice r1 CL.length r3) CL ∧ Below W.heap.size W W'))
    : Calls Tryd.prog 4 #[.agg #[.int .i64 n, .slice v1 v2 v3], .agg #[.int .i64 m, .slice y1 y2 y3], .slice ma n mc] w fun e w' => e = .returned (.bool true) ∧ Below w.heap.size w w' := by
  obtain ⟨w0, hw0⟩ : ∃ w0, w0 = (w.alloc (.cells #[.int .i64 n, .slice v1 v2 v3] 24)).alloc (.cells #[.int .i64 m, .slice y1 y2 y3] 24) := ⟨_, rfl⟩
  have hB0 : Below w.heap.size w w0 := by rw [hw0]; exact (balloc w _).alloc (by simp) _
  have hX0 : BoxG w0 w.heap.size n (.slice v1 v2 v3) := by rw [hw0]; exact (blk0 (w := w) (T := 24) _ _).alloc _
  have hY0 : BoxG w0 (w.heap.size + 1) m (.slice y1 y2 y3) := by
    have := blk0 (w := w.alloc (.cells #[.int .i64 n, .slice v1 v2 v3] 24)) (T := 24) (.int .i64 m) (.slice y1 y2 y3)
    rw [World.size_alloc] at this
    rw [hw0]; exact this
  go_enter Tryd.func4, Tryd.ntmps4
  go_wp2_with fail
  rw [← hw0]
  clear hw0
  refine (homBegun_any _ (hT.below hB0)).mono ?_
  rintro x w1 ⟨rfl, hb1⟩
  have hB := bcat2 hB0 hb1
  have hX := blk_below hX0 hb1
  have hY := blk_below hY0 hb1
  clear hB0 hX0 hY0 hb1
  obtain ⟨c0, c1, _, _⟩ := hX.two
  obtain ⟨d0, d1, _, _⟩ := hY.two
  go_wp2_with fail
  clear c0 c1 d0 d1
  refine (HC1.out _ hB).mono ?_
  rintro x w2 ⟨rfl, hb2⟩
  have hB := bcat2 hB hb2
  have hX := blk_below hX hb2
  have hY := blk_below hY hb2
  have hfd := field27 0 0 w2
  obtain ⟨c0, c1, _, _⟩ := hX.two
  obtain ⟨d0, d1, _, _⟩ := hY.two
  go_wp2_with fail
  clear c0 c1 d0 d1 hfd
  refine (HK1.out _ hB).mono ?_
  rintro x w3 ⟨a1, a3, rfl, hka, hb3⟩
  have hG3 := balloc w3 (.cells #[.int .i64 0, .int .i64 0] 28)
  have hbb := bcat2 hb3 hG3
  have hB := bcat2 hB hbb
  have hX := blk_below hX hbb
  have hY := blk_below hY hbb
  have hF3 := blk0 (w := w3) (T := 28) (.int .i64 0) (.int .i64 0)
  have hka := Sl.below hka hG3
  obtain ⟨f0, f1, _, _⟩ := hF3.two
  clear f0 f1
  obtain ⟨c0, c1, _, _⟩ := hX.two
  obtain ⟨d0, d1, _, _⟩ := hY.two
  go_wp2_with fail
  clear c0 c1 d0 d1
  refine (HI1.out _ hB).mono ?_
  rintro x w4 ⟨i1, i3, rfl, hia, hb4⟩
  have hG4 := balloc w4 (.cells #[.int .i64 0, .int .i64 0] 28)
  have hbb := bcat2 hb4 hG4
  have hB := bcat2 hB hbb
  have hX := blk_below hX hbb
  have hY := blk_below hY hbb
  have hF3 := blk_below hF3 hbb
  have hka := Sl.below hka hbb
  have hF4 := blk0 (w := w4) (T := 28) (.int .i64 0) (.int .i64 0)
  have hia := Sl.below hia hG4
  obtain ⟨f0, f1, _, _⟩ := hF4.two
  clear f0 f1
  obtain ⟨p0, p1, _, _⟩ := hF3.two
  obtain ⟨q0, q1, _, _⟩ := hF4.two
  obtain ⟨c0, c1, _, _⟩ := hX.two
  obtain ⟨d0, d1, _, _⟩ := hY.two
  go_wp2_with fail
  clear c0 c1 d0 d1
  refine (HN1.out _ _ hB hka).mono ?_
  rintro x w5 ⟨rfl, hb5⟩
  have hB := bcat2 hB hb5
  have hX := blk_below hX hb5
  have hY := blk_below hY hb5
  have hF3 := blk_below hF3 hb5
  have hF4 := blk_below hF4 hb5
  have hka := Sl.below hka hb5
  have hia := Sl.below hia hb5
  clear p0 p1 q0 q1
  obtain ⟨p0, p1, fp0, fp1⟩ := hF3.two
  obtain ⟨o0, o1⟩ := hF3.self
  obtain ⟨c0, c1, _, _⟩ := hX.two
  obtain ⟨d0, d1, _, _⟩ := hY.two
  go_wp2_with fail
  clear c0 c1 d0 d1
  refine (HS1.out _ _ hB hia).mono ?_
  rintro x w6 ⟨rfl, hb6⟩
  have hB := bcat2 hB hb6
  have hX := blk_below hX hb6
  have hY := blk_below hY hb6
  have hF3 := blk_below hF3 hb6
  have hF4 := blk_below hF4 hb6
  have hka := Sl.below hka hb6
  have hia := Sl.below hia hb6
  clear p0 p1 fp0 fp1 o0 o1
  obtain ⟨q0, q1, fq0, fq1⟩ := hF4.two
  obtain ⟨o0, o1⟩ := hF4.self
  obtain ⟨c0, c1, _, _⟩ := hX.two
  obtain ⟨d0, d1, _, _⟩ := hY.two
  go_wp2_with fail
  clear c0 c1 d0 d1
  refine (HR1.out _ _ hB hka).mono ?_
  rintro x w7 ⟨c1, c3, rfl, hcl, hb7⟩
  have hB := bcat2 hB hb7
  have hX := blk_below hX hb7
  have hY := blk_below hY hb7
  have hF3 := blk_below hF3 hb7
  have hF4 := blk_below hF4 hb7
  have hka := Sl.below hka hb7
  have hia := Sl.below hia hb7
  clear q0 q1 fq0 fq1 o0 o1
  have hG9 := balloc w7 (.cells #[.int .i64 0, .int .i64 0] 28)
  have hB := bcat2 hB hG9
  have hX := blk_below hX hG9
  have hF3 := blk_below hF3 hG9
  have hF4 := blk_below hF4 hG9
  have hcl := SlL.below hcl hG9
  have hF9 := blk0 (w := w7) (T := 28) (.int .i64 0) (.int .i64 0)
  obtain ⟨p0, p1, _, _⟩ := hF3.two
  obtain ⟨q0, q1, _, _⟩ := hF4.two
  obtain ⟨t0, t1, _, _⟩ := hF9.two
  obtain ⟨c0, c1, _, _⟩ := hX.two
  obtain ⟨la, lc, lb, lo, hle, l1, l2, l3, l4, l5⟩ := hcl
  injection hle with e1 _ e3
  subst e1 e3
  have HLA := hide l1
  have HLC := hide l2
  have hL9 : CL.length ≤ 9223372036854775807 := by unfold maxLen at l5; omega
  clear l1 l2 l4 l5 hka hia
  go_wp2
  generalize w7.alloc (.cells #[.int .i64 0, .int .i64 0] 28) = w9 at *
  clear p0 p1 q0 q1 t0 t1 c0 c1 hF3 hF4 hF9 hY hmul hlen
  have HXX := hide (fun W (h : Below w9.heap.size w9 W) => below_cell h hX.two.1)
  clear hX
  go_loopw [15] (fun i wr => ∃ x : Nat, x ≤ CL.length ∧ i = .int .i64 x ∧ Below w9.heap.size w9 wr) (fun i _ => CL.length - (intOf i).toNat)
  case atStart => exact ⟨0, Nat.zero_le _, rfl, Below.refl _ _⟩
  case round =>
    obtain ⟨x, hx, rfl, hBr⟩ := hrel
    by_cases hlt : x < CL.length
    · have hxi : (x : Int) < (CL.length : Int) := by omega
      obtain ⟨hd, tl, hcx, hdn, hall⟩ := HCL.out x hlt
      obtain rfl := HLA.out (by omega)
      obtain ⟨y9, cy, hy9⟩ := HLC.out x hlt
      rw [hcx] at hy9
      obtain ⟨z1, z2, zb, zo, rfl, hzr, hzb, hzc, hzm⟩ := hy9
      have hzl : ((hd : Int) :: tl).length = tl.length + 1 := rfl
      have HZC := hide (fun j (h : j < tl.length + 1) => hzr.cell j (by rw [hzl]; exact h))
      obtain rfl := hzr.at_ (by rw [hzl]; omega)
      rw [hzl] at cy
      have htl9 : tl.length + 1 ≤ 9223372036854775807 := by rw [hzl] at hzc; unfold maxLen at hzm; omega
      have HAL := hide hall
      have HCY := hide cy
      obtain rfl := HMA.out (by omega)
      clear hzr hzm hzc hall hcx hzl cy
      go_wp2
      go_loopw [16] (fun i wr => ∃ y : Nat, y ≤ tl.length + 1 ∧ i = .int .i64 y ∧ Below w9.heap.size w9 wr) (fun i _ => tl.length + 1 - (intOf i).toNat)
      case atStart => exact ⟨0, Nat.zero_le _, rfl, hBr⟩
      case round =>
        clear hBr
        obtain ⟨y, hy, rfl, hBr⟩ := hrel
        have cy := below_cell hBr HCY.out
        by_cases hlty : y < tl.length + 1
        · have hyi : (y : Int) < ((tl.length + 1 : Nat) : Int) := by omega
          obtain ⟨a, hae, han, hph⟩ := HAL.out y hlty
          have ca := below_cell hBr (HZC.out y hlty)
          have ch := below_cell hBr (HZC.out 0 (by omega))
          rw [hae] at ca
          rw [show ((hd : Int) :: tl)[0]?.getD 0 = (hd : Int) from rfl, Nat.add_zero] at ch
          have hBw := bcat2 hB hBr
          have cm1 := below_cell hBw (HMC.out a han)
          have cm2 := below_cell hBw (HMC.out hd hdn)
          rw [hph] at cm1
          have cn := HXX.out _ hBr
          have hai : (a : Int) < (n : Int) := by omega
          have hdi : (hd : Int) < (n : Int) := by omega
          have hd1 : decide ((a : Int) < 0) = false := decide_eq_false (by omega)
          have hd2 : decide ((n : Int) ≤ (a : Int)) = false := decide_eq_false (by omega)
          have h0i : (0 : Int) < ((tl.length + 1 : Nat) : Int) := by omega
          clear hae hph
          go_wp2_with fail
          go_quiet (fail)
          have hBq := bdrewN hBr nq
          generalize wr.drewN nq = wq at hBq ⊢
          go_wp2
          go_roundw
          case rel => exact ⟨y + 1, by omega, by go_num, hBq⟩
          case measure => simp [intOf]; omega
        · have hyi : ¬ (y : Int) < ((tl.length + 1 : Nat) : Int) := by omega
          go_wp2
          go_roundw
          case rel => exact ⟨x + 1, by omega, by go_num, hBr⟩
          case measure => simp [intOf]; omega
    · have hxi : ¬ (x : Int) < (CL.length : Int) := by omega
      go_wp2
      go_ret
      exact ⟨rfl, bcat2 hB hBr⟩
theorem li_slice {W : World} {r1 : Option Addr} {r2 r3 : Nat} {K : List Nat} (h : Sl W (.slice r1 r2 r3) (li K)) : r2 = K.length := by
  obtain ⟨a, cap, pb, po, hv, _⟩ := h
  injection hv with _ h4
  rw [li_len] at h4
  exact h4
theorem hthm_law (N M : Int) (v y mv : Value) (zs ys ms : List Int) (w : World) (hv : Sl w v zs) (hy : Sl w y ys) (hm : Sl w mv ms) (hT : Tab w) :
    Calls Tryd.prog 4 #[.agg #[.int .i64 N, v], .agg #[.int .i64 M, y], mv] w fun e w' => e = .returned (.bool true) ∧ Below w.heap.size w w' := by
  obtain ⟨v1, v2, v3, rfl⟩ := hv.isSlice
  obtain ⟨y1, y2, y3, rfl⟩ := hy.isSlice
  by_cases hc : (hfault N zs M ys ms).1 = 0
  · obtain ⟨n, e, m, d, rfl, rfl, hg, hh⟩ := hf_grp' hc
    obtain ⟨hf0, hml, φ, H, hms⟩ := hom_of hg hh hc
    have hφ : ∀ a, a < n → ms[a]?.getD 0 = (φ a : Int) := fun a ha => by rw [hms]; simp [li, ha]
    have hn6 := hg.tab.le
    have hm6 := hh.tab.le
    have hq : ∀ a, a < n → (kerq ms d a = true ↔ φ a = d) := fun a ha => by
      unfold kerq
      rw [decide_eq_true_eq, hφ a ha]
      omega
    have hs : subT n zs e (pset (li (lst n (kerq ms d)))) = true := sg_test hg (ker_sg hg hh H) hq
    have hN : nrmq n zs e (pset (li (lst n (kerq ms d)))) = true := nm_test hg (ker_nm hg hh H) hq
    have hI : subT m ys d (pset (li (lst m (fun y => decide (y ∈ (List.range n).map φ))))) = true := sg_test hh (img_sg hg hh H) (fun y _ => decide_eq_true_iff)
    have hs' : subT n zs e (kerq ms d) = true := by
      rw [subT_congr hg (q := kerq ms d) (fun a ha => pset_lst ha)] at hs
      exact hs
    have PP := rgt_parts hg hs'
    have hmany := ker_many hg hh H hq PP
    have hcard := PP.card (m := (lst n (kerq ms d)).length) (fun a ha => rgt_size hg ha)
    rw [csl_len] at hcard
    obtain ⟨ma, mc, mb, mo, hme, hmr, hmb, hmc1, hmm⟩ := id hm
    rw [hml] at hme
    subst hme
    refine hthm_good n m v1 v2 v3 y1 y2 y3 ma mc mb mo φ (lst n (kerq ms d)) (lst m (fun y => decide (y ∈ (List.range n).map φ))) (csl n (rgtq n zs (lst n (kerq ms d))) n) w hT hn6 (hide fun h => hmr.at_ (by omega)) (hide fun i h => (hmr.cell i (by omega)).trans (by rw [hφ i h])) (by rw [csl_len, hmany]) (by rw [← hmany, ← Int.natCast_mul, Nat.mul_comm, ← hcard]) (hide fun x hx => ?_)
      (hide fun W h => ?_) (hide fun W h => ?_) (hide fun W h => ?_) (hide fun W u h hu => ?_) (hide fun W u h hu => ?_) (hide fun W u h hu => ?_)
    · rw [csl_len] at hx
      have hxn := fst_lt hx
      have hxm := List.getElem_mem hx
      generalize hcd : (fsts n (rgtq n zs (lst n (kerq ms d))) n)[x] = c at hxn hxm
      have hcl : (csl n (rgtq n zs (lst n (kerq ms d))) n)[x]?.getD [] = li (lst n (rgtq n zs (lst n (kerq ms d)) c)) := by
        unfold csl
        rw [List.getElem?_map, List.getElem?_eq_getElem hx, hcd]
        rfl
      rw [hcl]
      cases hlc : lst n (rgtq n zs (lst n (kerq ms d)) c) with
      | nil =>
        have : c ∈ lst n (rgtq n zs (lst n (kerq ms d)) c) := mem_lst.2 ⟨hxn, PP.refl c hxn⟩
        rw [hlc] at this
        cases this
      | cons z s =>
        have hin : ∀ a, a ∈ z :: s → a < n ∧ φ a = φ c := fun a ha => by
          rw [← hlc] at ha
          obtain ⟨h1, h2⟩ := mem_lst.1 ha
          exact ⟨h1, ((ker_cos hg hh H hq hxn h1).1 h2).symm⟩
        obtain ⟨hz1, hz2⟩ := hin z (by simp)
        refine ⟨z, li s, rfl, hz1, fun y hy => ?_⟩
        rw [li_len] at hy
        have hyl : y < (z :: s).length := by simpa using hy
        obtain ⟨h1, h2⟩ := hin _ (List.getElem_mem hyl)
        refine ⟨(z :: s)[y], ?_, h1, by rw [h2, hz2]⟩
        show (li (z :: s))[y]?.getD 0 = _
        unfold li
        rw [List.getElem?_map, List.getElem?_eq_getElem hyl]
        rfl
    · have h9 := hcheck_ok n m (.slice v1 v2 v3) (.slice y1 y2 y3) (.slice ma n mc) zs ys ms W (hv.below h) (hy.below h) (hm.below h)
      rw [hf0] at h9
      exact h9
    · refine (kernel_good n e m d (.slice v1 v2 v3) (.slice y1 y2 y3) (.slice ma n mc) zs ys ms W (hv.below h) hg (hy.below h) hh (hm.below h) (hT.below h) hf0).mono ?_
      rintro x W' ⟨r1, r2, r3, rfl, hS, hb⟩
      obtain rfl := li_slice hS
      exact ⟨r1, r3, rfl, hS, hb⟩
    · refine (image_good n m (.slice v1 v2 v3) (.slice y1 y2 y3) (.slice ma n mc) zs ys ((List.range n).map φ) W (hv.below h) (hy.below h) (by rw [← hms]; exact hm.below h) (hT.below h) hm6 (fun x hx => by
        obtain ⟨a, ha, rfl⟩ := List.mem_map.1 hx
        exact H.lt a (List.mem_range.1 ha)) (by rw [List.length_map, List.length_range]; exact hn6) (by rw [← hms]; exact hf0)).mono ?_
      rintro x W' ⟨r1, r2, r3, rfl, hS, hb⟩
      obtain rfl := li_slice hS
      exact ⟨r1, r3, rfl, hS, hb⟩
    · have h9 := nrm_good n e (.slice v1 v2 v3) u zs _ W (hv.below h) hg hu (hT.below h) (lst_fault _ _) hs
      rw [hN] at h9
      exact h9
    · have h9 := is_good m d (.slice y1 y2 y3) u ys _ W (hy.below h) hh hu (hT.below h) (lst_fault _ _)
      rw [hI] at h9
      exact h9
    · have h9 := lists_sl (Nat.lt_of_lt_of_le hT.lt h.size) (rgt_good n e (.slice v1 v2 v3) u zs _ W (hv.below h) hg hu (hT.below h) (lst_fault _ _) hs)
      rw [lst_pset] at h9
      refine h9.mono ?_
      rintro x W' ⟨r1, r2, r3, rfl, hS, hb⟩
      have : r2 = (csl n (rgtq n zs (lst n (kerq ms d))) n).length := by
        obtain ⟨a, cap, pb, po, hv9, _⟩ := hS
        injection hv9
      subst this
      exact ⟨r1, r3, rfl, hS, hb⟩
  · exact hthm_bad N M _ _ v1 v2 v3 y1 y2 y3 mv w hT hc (hide fun W h => hcheck_ok N M (.slice v1 v2 v3) (.slice y1 y2 y3) mv zs ys ms W (hv.below h) (hy.below h) (hm.below h)) (hide fun W h => rhom_any N M (.slice v1 v2 v3) (.slice y1 y2 y3) mv zs ys ms W (hv.below h) (hy.below h) (hm.below h))
end Go.Proofs.YtodabkjadejekaaDoor
