/- What the law HomOrders answers: true, at every two tables and every two lists; homomorphisms, orders and subgroups as mathematics. -/
import Derived.Test.YtodabkjadejekaaDoorHy
namespace Go.Proofs.YtodabkjadejekaaDoor
open Go Go.RowKit

section
variable {n e m d : Nat} {zs ys : List Int} {φ : Nat → Nat}
theorem hom_pw (g : IsGrp n zs e) (h : IsGrp m ys d) (H : IsHom n zs m ys φ) {a : Nat} (ha : a < n) : ∀ k, φ (pw n zs e a k) = pw m ys d (φ a) k
  | 0 => IsHom.one g h H
  | k + 1 => by
    show φ (tm n zs (pw n zs e a k) a) = tm m ys (pw m ys d (φ a) k) (φ a)
    rw [H.mul _ _ (pw_lt g ha k) ha, hom_pw g h H ha k]
theorem hom_ord (g : IsGrp n zs e) (h : IsGrp m ys d) (H : IsHom n zs m ys φ) {a : Nat} (ha : a < n) : ordN m ys d (φ a) ∣ ordN n zs e a :=
  ord_dvd h (H.lt a ha) (by rw [← hom_pw g h H ha, pw_ord g ha, IsHom.one g h H])
theorem img_of (g : IsGrp n zs e) (h : IsGrp m ys d) (H : IsHom n zs m ys φ) {p : Nat → Bool} (S : Fin.Sg (List.range n) (tm n zs) e (fun a => p a = true)) : Fin.Sg (List.range m) (tm m ys) d (fun y => y ∈ (lst n p).map φ) :=
  ⟨List.mem_map.2 ⟨e, mem_lst.2 ⟨g.elt, S.one⟩, IsHom.one g h H⟩, fun a b _ _ h1 h2 => by
    obtain ⟨x, hx, rfl⟩ := List.mem_map.1 h1
    obtain ⟨y, hy, rfl⟩ := List.mem_map.1 h2
    obtain ⟨hx1, hx2⟩ := mem_lst.1 hx
    obtain ⟨hy1, hy2⟩ := mem_lst.1 hy
    exact List.mem_map.2 ⟨tm n zs x y, mem_lst.2 ⟨tm_lt g.tab hx1 hy1, S.mul x y (List.mem_range.2 hx1) (List.mem_range.2 hy1) hx2 hy2⟩, H.mul x y hx1 hy1⟩⟩
theorem pre_of (g : IsGrp n zs e) (h : IsGrp m ys d) (H : IsHom n zs m ys φ) {P : Nat → Prop} (S : Fin.Sg (List.range m) (tm m ys) d P) : Fin.Sg (List.range n) (tm n zs) e (fun a => P (φ a)) :=
  ⟨by show P (φ e); rw [IsHom.one g h H]; exact S.one, fun a b ha hb h1 h2 => by
    have ha := List.mem_range.1 ha
    have hb := List.mem_range.1 hb
    show P (φ (tm n zs a b))
    rw [H.mul a b ha hb]
    exact S.mul _ _ (List.mem_range.2 (H.lt a ha)) (List.mem_range.2 (H.lt b hb)) h1 h2⟩
end
theorem call32 (a : Int) (x y z : Value) (W : World) : Sem.run Tryd.prog (callFunc 32 (#[.int .i64 a] ++ #[x, y, z])) W = .ok (.enter 32 (#[.int .i64 a] ++ #[x, y, z])) W := by kernel_rfl
theorem call33 (a : Int) (x y : Value) (W : World) : Sem.run Tryd.prog (callFunc 33 (#[.int .i64 a] ++ #[x, y])) W = .ok (.enter 33 (#[.int .i64 a] ++ #[x, y])) W := by kernel_rfl
set_option maxRecDepth 100000 in
set_option maxHeartbeats 4000000 in
theorem ho1_ok (n a sb gb mb : Nat) (v : Value) (s1 : Option Addr) (s2 s3 : Nat) (m1 : Option Addr) (m3 : Nat) (xs : List Nat) (ms : List Int) (φ : Nat → Nat) (w : World) (hs : Sl w (.slice s1 s2 s3) (li xs)) (hm : Sl w (.slice m1 n m3) ms) (hml : ms.length = n) (hφ : ∀ a, a < n → ms[a]?.getD 0 = (φ a : Int)) (hx : ∀ x, x ∈ xs → x < n) (hS : Boxed w sb 22 (.slice s1 s2 s3)) (hG : BoxG w gb n v) (hM : Boxed w mb 22 (.slice m1 n m3)) (hn6 : n ≤ 60) :
    Calls Tryd.prog 32 (#[.int .i64 a] ++ #[.pointer (some ⟨sb, 0, none⟩), .pointer (some ⟨gb, 0, none⟩), .pointer (some ⟨mb, 0, none⟩)]) w fun x w' => x = .returned (.bool (decide (a ∈ xs.map φ))) ∧ Below w.heap.size w w' := by
  show Calls Tryd.prog 32 #[.int .i64 a, .pointer (some ⟨sb, 0, none⟩), .pointer (some ⟨gb, 0, none⟩), .pointer (some ⟨mb, 0, none⟩)] w _
  obtain ⟨sa, sc, pb, po, hse, hsr, hsp, hs4, hs5⟩ := hs
  obtain ⟨ma, mc, qb, qo, hme, hmr, hmp, hm4, hm5⟩ := hm
  injection hse with e1 e2 e3
  subst e1 e2 e3
  injection hme with e1 e2 e3
  subst e1 e3
  have hll : (li xs).length = xs.length := li_len xs
  have HSA := hide (fun (h : 0 < xs.length) => hsr.at_ (by omega))
  have HSC := hide (fun i (h : i < xs.length) => show w.cell? ⟨pb, po + i, none⟩ = some (.int .i64 (xs[i] : Int)) by
    have := hsr.cell i (by omega)
    rwa [li_get h] at this)
  have HMA := hide (fun (h : 0 < n) => hmr.at_ (by omega))
  have HMC := hide (fun i (h : i < n) => show w.cell? ⟨qb, qo + i, none⟩ = some (.int .i64 (φ i : Int)) by
    have := hmr.cell i (by omega)
    rwa [hφ i h] at this)
  have hx9 : xs.length ≤ 9223372036854775807 := by unfold maxLen at hs5; omega
  have HX := hide (fun i (h : i < xs.length) => hx _ (List.getElem_mem h))
  obtain ⟨b, hb⟩ : ∃ b, b = decide (a ∈ xs.map φ) := ⟨_, rfl⟩
  have HYES := hide (fun i (h : i < xs.length) (h2 : φ xs[i] = a) => show b = true by
    rw [hb]; exact decide_eq_true (List.mem_map.2 ⟨xs[i], List.getElem_mem h, h2⟩))
  have HNO := hide (fun (h2 : ∀ i (h : i < xs.length), φ xs[i] ≠ a) => show b = false by
    rw [hb]
    refine decide_eq_false fun h9 => ?_
    obtain ⟨z, hz, he⟩ := List.mem_map.1 h9
    obtain ⟨i, hi, hie⟩ := List.mem_iff_getElem.1 hz
    exact h2 i hi (by rw [hie]; exact he))
  rw [← hb]
  have k0 := hS.cell
  have k1 := hM.cell
  obtain ⟨g0, g1, _, _⟩ := hG.two
  rw [hll] at k0
  clear hb hsr hmr hs4 hs5 hm4 hm5 hll hx hφ e2
  go_enter Tryd.func32, Tryd.ntmps32
  go_wp2
  go_loopw [6] (fun i wr => ∃ k : Nat, k ≤ xs.length ∧ i = .int .i64 k ∧ (∀ t (h : t < xs.length), t < k → φ xs[t] ≠ a) ∧ Below w.heap.size w wr) (fun i _ => xs.length - (intOf i).toNat)
  case atStart => exact ⟨0, Nat.zero_le _, rfl, fun t _ h => by omega, Below.refl _ _⟩
  case round =>
    obtain ⟨k, hk, rfl, hall, hB⟩ := hrel
    have HAL := hide hall
    clear hall
    have k0 := below_cell hB k0
    have k1 := below_cell hB k1
    have g0 := below_cell hB g0
    by_cases hlt : k < xs.length
    · have hki : (k : Int) < (xs.length : Int) := by omega
      have hxn := HX.out k hlt
      obtain rfl := HSA.out (by omega)
      obtain rfl := HMA.out (by omega)
      have cs := below_cell hB (HSC.out k hlt)
      have cm := below_cell hB (HMC.out _ hxn)
      have HY := hide (HYES.out k hlt)
      have HN := hide (fun (h : φ xs[k] ≠ a) t (ht : t < xs.length) (h2 : t < k + 1) => show φ xs[t] ≠ a by
        by_cases e9 : t = k
        · subst e9; exact h
        · exact HAL.out t ht (by omega))
      generalize xs[k] = c at *
      generalize φ c = fc at *
      have hci : (c : Int) < (n : Int) := by omega
      have hc0 : decide ((0 : Int) ≤ (c : Int)) = true := decide_eq_true (by omega)
      have hc1 : decide ((c : Int) < (n : Int)) = true := decide_eq_true hci
      by_cases hf : fc = a
      · have hfi : (fc : Int) = (a : Int) := by omega
        have hbt := HY.out hf
        subst hf
        clear hfi
        go_wp2_with fail
        go_quiet (fail)
        have hBq := bdrewN hB nq
        generalize wr.drewN nq = wq at hBq ⊢
        go_wp2
        go_ret
        exact ⟨by rw [hbt]; rfl, hBq⟩
      · have hfi : ¬ (fc : Int) = (a : Int) := by omega
        have HN2 := hide (HN.out hf)
        clear hf
        go_wp2_with fail
        go_quiet (fail)
        have hBq := bdrewN hB nq
        generalize wr.drewN nq = wq at hBq ⊢
        go_wp2
        go_roundw
        case rel => exact ⟨k + 1, by omega, by go_num, HN2.out, hBq⟩
        case measure => simp [intOf]; omega
    · have hki : ¬ (k : Int) < (xs.length : Int) := by omega
      have hbf := HNO.out (fun i h => HAL.out i h (by omega))
      go_wp2
      go_ret
      exact ⟨by first | rfl | (rw [hbf]; rfl), hB⟩
set_option maxRecDepth 100000 in
set_option maxHeartbeats 4000000 in
theorem ho2_ok (n a tb mb : Nat) (t1 : Option Addr) (t2 t3 : Nat) (m1 : Option Addr) (m3 : Nat) (ts : List Nat) (ms : List Int) (φ : Nat → Nat) (w : World) (ht : Sl w (.slice t1 t2 t3) (li ts)) (hm : Sl w (.slice m1 n m3) ms) (hml : ms.length = n) (hφ : ∀ a, a < n → ms[a]?.getD 0 = (φ a : Int)) (ha : a < n) (hT : Boxed w tb 22 (.slice t1 t2 t3)) (hM : Boxed w mb 22 (.slice m1 n m3)) (hn6 : n ≤ 60) :
    Calls Tryd.prog 33 (#[.int .i64 a] ++ #[.pointer (some ⟨tb, 0, none⟩), .pointer (some ⟨mb, 0, none⟩)]) w fun x w' => x = .returned (.bool (decide (φ a ∈ ts))) ∧ Below w.heap.size w w' := by
  show Calls Tryd.prog 33 #[.int .i64 a, .pointer (some ⟨tb, 0, none⟩), .pointer (some ⟨mb, 0, none⟩)] w _
  obtain ⟨ma, mc, qb, qo, hme, hmr, hmp, hm4, hm5⟩ := hm
  injection hme with e1 e2 e3
  subst e1 e3
  obtain rfl := hmr.at_ (by omega)
  have cm := hmr.cell a (by omega)
  rw [hφ a ha] at cm
  have HH := hide (fun W (h : Below w.heap.size w W) => rhas_ok (.slice t1 t2 t3) (li ts) (φ a : Int) W (ht.below h))
  rw [show decide ((φ a : Int) ∈ li ts) = decide (φ a ∈ ts) by
    rw [Bool.eq_iff_iff, decide_eq_true_eq, decide_eq_true_eq]
    constructor
    · intro h9
      obtain ⟨z, hz, he⟩ := List.mem_map.1 h9
      have : z = φ a := by omega
      exact this ▸ hz
    · intro h9
      exact List.mem_map.2 ⟨_, h9, rfl⟩] at HH
  have k0 := hT.cell
  have k1 := hM.cell
  have hai : (a : Int) < (n : Int) := by omega
  generalize decide (φ a ∈ ts) = bb at *
  generalize φ a = fa at *
  have hS : ∀ W, Below w.heap.size w W → (Below w.heap.size w W ∧ W.cell? ⟨tb, 0, none⟩ = some (.slice t1 t2 t3) ∧ W.cell? ⟨mb, 0, none⟩ = some (.slice (some ⟨qb, qo, none⟩) n m3) ∧ W.cell? ⟨qb, qo + a, none⟩ = some (.int .i64 (fa : Int))) := fun W h => ⟨h, below_cell h k0, below_cell h k1, below_cell h cm⟩
  have hS0 := hS _ (bdrew (Below.refl _ w))
  clear k0 k1 cm hmr hm4 hm5 e2
  go_enter Tryd.func33, Tryd.ntmps33
  go_wp2_with fail
  go_region_held3 (fun W => Below w.heap.size w W ∧ W.cell? ⟨tb, 0, none⟩ = some (.slice t1 t2 t3) ∧ W.cell? ⟨mb, 0, none⟩ = some (.slice (some ⟨qb, qo, none⟩) n m3) ∧ W.cell? ⟨qb, qo + a, none⟩ = some (.int .i64 (fa : Int)))
    (first | exact hS0 | assumption)
    (first | (go_at_call 26; refine (HH.out _ (And.left ‹_›)).mono ?_; rintro e1 W1 ⟨rfl, rfl⟩))
  all_goals (
    have hB9 := And.left ‹Below w.heap.size w _ ∧ _›
    go_wp2
    go_ret
    exact ⟨rfl, hB9⟩)
end Go.Proofs.YtodabkjadejekaaDoor

namespace Go.Proofs.YtodabkjadejekaaDoor
open Go Go.RowKit

theorem hf_grp9 {N M : Int} {zs ys ms : List Int} (h : (hfault N zs M ys ms).1 = 0) : ∃ n e m d : Nat, N = n ∧ M = m ∧ IsGrp n zs e ∧ IsGrp m ys d := by
  by_cases h1 : (gfault N zs).1 = 0
  · obtain ⟨n, e, rfl, hg, _⟩ := gfault_grp h1
    by_cases h2 : (gfault M ys).1 = 0
    · obtain ⟨m, d, rfl, hh, _⟩ := gfault_grp h2
      exact ⟨n, e, m, d, rfl, rfl, hg, hh⟩
    · rw [hfault_2 hg h2] at h
      exact absurd h h2
  · rw [hfault_1 h1] at h
    exact absurd h h1
theorem mkF {X U : World} {x y : Value} (k : Below (X.alloc (.cells #[x, y] 28)).heap.size (X.alloc (.cells #[x, y] 28)) U) : Blk U X.heap.size 28 [x, y] := blk_below (blk0 x y) k
theorem undF {W U : World} (k : Below W.drew.heap.size W.drew U) : Below W.heap.size W U := ⟨k.os, k.tape, k.output, k.size, k.block⟩
def ORel (wr : World) (s15 s16 : Value) (wx : World) : Prop := ∃ b : Nat, s15 = .bool true ∧ s16 = .pointer (some ⟨b, 0, none⟩) ∧ Blk wx b 28 [.int .i64 0, .int .i64 0] ∧ Below wr.heap.size wr wx
set_option maxRecDepth 100000 in
set_option maxHeartbeats 4000000 in
theorem hord_bad (N M c i : Int) (v1 : Option Addr) (v2 v3 : Nat) (y1 : Option Addr) (y2 y3 : Nat) (m1 : Option Addr) (m2 m3 : Nat) (lv : Value) (w : World) (hT : Tab w) (hc : c ≠ 0)
    (HC1 : Hid (∀ W, Below w.heap.size w W → Calls Tryd.prog 13 #[.agg #[.int .i64 N, .slice v1 v2 v3], .agg #[.int .i64 M, .slice y1 y2 y3], .slice m1 m2 m3] W fun x W' => x = .returned (.agg #[.int .i64 c, .int .i64 i]) ∧ Below W.heap.size W W'))
    (HR1 : Hid (∀ W, Below w.heap.size w W → Calls Tryd.prog 16 #[.agg #[.int .i64 N, .slice v1 v2 v3], .agg #[.int .i64 M, .slice y1 y2 y3], .slice m1 m2 m3] W fun x W' => x = .returned (.agg #[.int .i64 c, .int .i64 i]) ∧ Below W.heap.size W W')) :
    Calls Tryd.prog 5 #[.agg #[.int .i64 N, .slice v1 v2 v3], .agg #[.int .i64 M, .slice y1 y2 y3], .slice m1 m2 m3, lv] w fun e w' => e = .returned (.bool true) ∧ Below w.heap.size w w' := by
  obtain ⟨w0, hw0⟩ : ∃ w0, w0 = ((w.alloc (.cells #[.int .i64 N, .slice v1 v2 v3] 24)).alloc (.cells #[.int .i64 M, .slice y1 y2 y3] 24)).alloc (.cells #[.slice m1 m2 m3] 22) := ⟨_, rfl⟩
  have hB0 : Below w.heap.size w w0 := by rw [hw0]; exact ((balloc w _).alloc (by simp) _).alloc (by simp; omega) _
  have hX0 : BoxG w0 w.heap.size N (.slice v1 v2 v3) := by rw [hw0]; exact ((blk0 (w := w) (T := 24) _ _).alloc _).alloc _
  have hY0 : BoxG w0 (w.heap.size + 1) M (.slice y1 y2 y3) := by
    have := (blk0 (w := w.alloc (.cells #[.int .i64 N, .slice v1 v2 v3] 24)) (T := 24) (.int .i64 M) (.slice y1 y2 y3)).alloc (.cells #[.slice m1 m2 m3] 22)
    rw [World.size_alloc] at this
    rw [hw0]; exact this
  have hM0 : Boxed w0 (w.heap.size + 2) 22 (.slice m1 m2 m3) := by
    have := Boxed.new ((w.alloc (.cells #[.int .i64 N, .slice v1 v2 v3] 24)).alloc (.cells #[.int .i64 M, .slice y1 y2 y3] 24)) 22 (.slice m1 m2 m3)
    rw [World.size_alloc, World.size_alloc] at this
    rw [hw0]; exact this
  have hcb : (c != 0) = true := by simpa using hc
  go_enter Tryd.func5, Tryd.ntmps5
  go_wp2_with fail
  rw [← hw0]
  clear hw0
  refine (homBegun_any _ (hT.below hB0)).mono ?_
  rintro x w1 ⟨rfl, hb1⟩
  have hB := bcat2 hB0 hb1
  have hX := blk_below hX0 hb1
  have hY := blk_below hY0 hb1
  have hM := Boxed.below hM0 hb1
  clear hB0 hX0 hY0 hM0 hb1
  obtain ⟨c0, c1, _, _⟩ := hX.two
  obtain ⟨d0, d1, _, _⟩ := hY.two
  have k0 := hM.cell
  go_wp2_with fail
  clear c0 c1 d0 d1 k0
  refine (HC1.out _ hB).mono ?_
  rintro x w2 ⟨rfl, hb2⟩
  have hB := bcat2 hB hb2
  have hX := blk_below hX hb2
  have hY := blk_below hY hb2
  have hM := Boxed.below hM hb2
  obtain ⟨c0, c1, _, _⟩ := hX.two
  obtain ⟨d0, d1, _, _⟩ := hY.two
  have k0 := hM.cell
  have hfd := field27 c i w2
  go_wp2_with fail
  clear c0 c1 d0 d1 hfd k0
  refine (HR1.out _ hB).mono ?_
  rintro x w3 ⟨rfl, hb3⟩
  have hB3 := bcat2 hB hb3
  have hfd := field27 c i w3
  go_wp2
  go_ret
  exact ⟨rfl, hB3⟩
set_option maxRecDepth 100000 in
set_option maxHeartbeats 16000000 in
theorem hord_good (n m : Nat) (v1 : Option Addr) (v2 v3 : Nat) (y1 : Option Addr) (y2 y3 : Nat) (m1 : Option Addr) (m3 mb mo : Nat) (lv : Value) (φ o1 o2 : Nat → Nat) (c i : Int) (XS TO PR : List Nat) (w : World) (hT : Tab w) (hn6 : n ≤ 60)
    (HMA : Hid (0 < n → m1 = some ⟨mb, mo, none⟩)) (HMC : Hid (∀ i, i < n → w.cell? ⟨mb, mo + i, none⟩ = some (.int .i64 (φ i : Int))))
    (HREM : Hid (∀ a, a < n → Int.tmod (o1 a : Int) (o2 a : Int) = 0 ∧ 0 < o2 a ∧ o1 a ≤ 60 ∧ o2 a ≤ 60))
    (HC1 : Hid (∀ W, Below w.heap.size w W → Calls Tryd.prog 13 #[.agg #[.int .i64 n, .slice v1 v2 v3], .agg #[.int .i64 m, .slice y1 y2 y3], .slice m1 n m3] W fun x W' => x = .returned (.agg #[.int .i64 0, .int .i64 0]) ∧ Below W.heap.size W W'))
    (HO1 : Hid (∀ W a, Below w.heap.size w W → a < n → Calls Tryd.prog 30 #[.agg #[.int .i64 n, .slice v1 v2 v3], .int .i64 a] W fun x W' => x = .returned (.int .i64 (o1 a)) ∧ Below W.heap.size W W'))
    (HO2 : Hid (∀ W a, Below w.heap.size w W → a < n → Calls Tryd.prog 30 #[.agg #[.int .i64 m, .slice y1 y2 y3], .int .i64 (φ a)] W fun x W' => x = .returned (.int .i64 (o2 a)) ∧ Below W.heap.size W W'))
    (HMD : Hid (∀ W, Below w.heap.size w W → Calls Tryd.prog 31 #[.agg #[.int .i64 n, .slice v1 v2 v3], lv] W fun x W' => ∃ s1 s2 s3, x = .returned (.tuple #[.slice s1 s2 s3, .agg #[.int .i64 c, .int .i64 i]]) ∧ (c = 0 → Sl W' (.slice s1 s2 s3) (li XS)) ∧ Below W.heap.size W W'))
    (HTO : Hid (c = 0 → ∀ W sb s1 s2 s3, Below w.heap.size w W → Sl W (.slice s1 s2 s3) (li XS) → Boxed W sb 22 (.slice s1 s2 s3) → BoxG W w.heap.size n (.slice v1 v2 v3) → Boxed W (w.heap.size + 2) 22 (.slice m1 n m3) → Calls Tryd.prog 21 #[.agg #[.int .i64 m, .slice y1 y2 y3], .func (.func 32) #[] #[.pointer (some ⟨sb, 0, none⟩), .pointer (some ⟨w.heap.size, 0, none⟩), .pointer (some ⟨w.heap.size + 2, 0, none⟩)]] W fun x W' => ∃ r1 r2 r3, x = .returned (.slice r1 r2 r3) ∧ Sl W' (.slice r1 r2 r3) (li TO) ∧ Below W.heap.size W W'))
    (HI1 : Hid (c = 0 → ∀ W u, Below w.heap.size w W → Sl W u (li TO) → Calls Tryd.prog 28 #[.agg #[.int .i64 m, .slice y1 y2 y3], u] W fun x W' => x = .returned (.tuple #[.bool true, .agg #[.int .i64 0, .int .i64 0]]) ∧ Below W.heap.size W W'))
    (HPR : Hid (c = 0 → ∀ W tb t1 t2 t3, Below w.heap.size w W → Sl W (.slice t1 t2 t3) (li TO) → Boxed W tb 22 (.slice t1 t2 t3) → Boxed W (w.heap.size + 2) 22 (.slice m1 n m3) → Calls Tryd.prog 21 #[.agg #[.int .i64 n, .slice v1 v2 v3], .func (.func 33) #[] #[.pointer (some ⟨tb, 0, none⟩), .pointer (some ⟨w.heap.size + 2, 0, none⟩)]] W fun x W' => ∃ r1 r2 r3, x = .returned (.slice r1 r2 r3) ∧ Sl W' (.slice r1 r2 r3) (li PR) ∧ Below W.heap.size W W'))
    (HI2 : Hid (c = 0 → ∀ W u, Below w.heap.size w W → Sl W u (li PR) → Calls Tryd.prog 28 #[.agg #[.int .i64 n, .slice v1 v2 v3], u] W fun x W' => x = .returned (.tuple #[.bool true, .agg #[.int .i64 0, .int .i64 0]]) ∧ Below W.heap.size W W')) :
    Calls Tryd.prog 5 #[.agg #[.int .i64 n, .slice v1 v2 v3], .agg #[.int .i64 m, .slice y1 y2 y3], .slice m1 n m3, lv] w fun e w' => e = .returned (.bool true) ∧ Below w.heap.size w w' := by
  obtain ⟨w0, hw0⟩ : ∃ w0, w0 = ((w.alloc (.cells #[.int .i64 n, .slice v1 v2 v3] 24)).alloc (.cells #[.int .i64 m, .slice y1 y2 y3] 24)).alloc (.cells #[.slice m1 n m3] 22) := ⟨_, rfl⟩
  have hB0 : Below w.heap.size w w0 := by rw [hw0]; exact ((balloc w _).alloc (by simp) _).alloc (by simp; omega) _
  have hX0 : BoxG w0 w.heap.size n (.slice v1 v2 v3) := by rw [hw0]; exact ((blk0 (w := w) (T := 24) _ _).alloc _).alloc _
  have hY0 : BoxG w0 (w.heap.size + 1) m (.slice y1 y2 y3) := by
    have := (blk0 (w := w.alloc (.cells #[.int .i64 n, .slice v1 v2 v3] 24)) (T := 24) (.int .i64 m) (.slice y1 y2 y3)).alloc (.cells #[.slice m1 n m3] 22)
    rw [World.size_alloc] at this
    rw [hw0]; exact this
  have hM0 : Boxed w0 (w.heap.size + 2) 22 (.slice m1 n m3) := by
    have := Boxed.new ((w.alloc (.cells #[.int .i64 n, .slice v1 v2 v3] 24)).alloc (.cells #[.int .i64 m, .slice y1 y2 y3] 24)) 22 (.slice m1 n m3)
    rw [World.size_alloc, World.size_alloc] at this
    rw [hw0]; exact this
  go_enter Tryd.func5, Tryd.ntmps5
  go_wp2_with fail
  rw [← hw0]
  clear hw0
  refine (homBegun_any _ (hT.below hB0)).mono ?_
  rintro x w1 ⟨rfl, hb1⟩
  have hB := bcat2 hB0 hb1
  have hX := blk_below hX0 hb1
  have hY := blk_below hY0 hb1
  have hM := Boxed.below hM0 hb1
  clear hB0 hX0 hY0 hM0 hb1
  obtain ⟨c0, c1, _, _⟩ := hX.two
  obtain ⟨d0, d1, _, _⟩ := hY.two
  have k0 := hM.cell
  go_wp2_with fail
  clear c0 c1 d0 d1 k0
  refine (HC1.out _ hB).mono ?_
  rintro x w2 ⟨rfl, hb2⟩
  have hB := bcat2 hB hb2
  have hX := blk_below hX hb2
  have hY := blk_below hY hb2
  have hM := Boxed.below hM hb2
  obtain ⟨c0, c1, _, _⟩ := hX.two
  have k0 := hM.cell
  have hfd := field27 0 0 w2
  go_wp2
  clear c0 c1 hfd k0 hb2
  go_loopw [9] (fun i wr => ∃ a : Nat, a ≤ n ∧ i = .int .i64 a ∧ Below w2.heap.size w2 wr) (fun i _ => n - (intOf i).toNat)
  case atStart => exact ⟨0, Nat.zero_le _, rfl, Below.refl _ _⟩
  case round =>
    obtain ⟨a, ha, rfl, hBr⟩ := hrel
    obtain ⟨c0, c1, _, _⟩ := (blk_below hX hBr).two
    have hBw := bcat2 hB hBr
    by_cases hlt : a < n
    · have hai : (a : Int) < (n : Int) := by omega
      obtain ⟨hrem, hpos, h601, h602⟩ := HREM.out a hlt
      obtain ⟨d0, d1, _, _⟩ := (blk_below hY hBr).two
      obtain rfl := HMA.out (by omega)
      have k0 := (Boxed.below hM hBr).cell
      have cm := below_cell hBw (HMC.out a hlt)
      have HQ1 := hide (fun W (h : Below w.heap.size w W) => HO1.out W a h hlt)
      have HQ2 := hide (fun W (h : Below w.heap.size w W) => HO2.out W a h hlt)
      generalize φ a = fa at *
      generalize o1 a = p1 at *
      generalize o2 a = p2 at *
      have hp2 : ¬ (p2 : Int) = 0 := by omega
      have hp2b : ((p2 : Int) == 0) = false := beq_false_of_ne hp2
      have hpi : (0 : Int) < (p2 : Int) := by omega
      have hp2n : ¬ p2 = 0 := by omega
      have hS : ∀ W9, Below wr.heap.size wr W9 → ((fun W9 => Below wr.heap.size wr W9 ∧ W9.cell? ⟨w.heap.size, 0, none⟩ = some (.int .i64 n) ∧ W9.cell? ⟨w.heap.size, 1, none⟩ = some (.slice v1 v2 v3) ∧ W9.cell? ⟨w.heap.size + 1, 0, none⟩ = some (.int .i64 m) ∧ W9.cell? ⟨w.heap.size + 1, 1, none⟩ = some (.slice y1 y2 y3) ∧ W9.cell? ⟨w.heap.size + 2, 0, none⟩ = some (.slice (some ⟨mb, mo, none⟩) n m3) ∧ W9.cell? ⟨mb, mo + a, none⟩ = some (.int .i64 (fa : Int))) W9) := fun W9 h => ⟨h, below_cell h c0, below_cell h c1, below_cell h d0, below_cell h d1, below_cell h k0, below_cell h cm⟩
      have hS0 := hS _ (bdrew (Below.refl _ wr))
      go_wp2_with fail
      clear c0 c1 d0 d1 k0 cm
      have hS0 : (fun W9 => Below wr.heap.size wr W9 ∧ W9.cell? ⟨w.heap.size, 0, none⟩ = some (.int .i64 n) ∧ W9.cell? ⟨w.heap.size, 1, none⟩ = some (.slice v1 v2 v3) ∧ W9.cell? ⟨w.heap.size + 1, 0, none⟩ = some (.int .i64 m) ∧ W9.cell? ⟨w.heap.size + 1, 1, none⟩ = some (.slice y1 y2 y3) ∧ W9.cell? ⟨w.heap.size + 2, 0, none⟩ = some (.slice (some ⟨mb, mo, none⟩) n m3) ∧ W9.cell? ⟨mb, mo + a, none⟩ = some (.int .i64 (fa : Int))) wr.drew := hS0
      refine wp_region_held_drew (S := (fun W9 => Below wr.heap.size wr W9 ∧ W9.cell? ⟨w.heap.size, 0, none⟩ = some (.int .i64 n) ∧ W9.cell? ⟨w.heap.size, 1, none⟩ = some (.slice v1 v2 v3) ∧ W9.cell? ⟨w.heap.size + 1, 0, none⟩ = some (.int .i64 m) ∧ W9.cell? ⟨w.heap.size + 1, 1, none⟩ = some (.slice y1 y2 y3) ∧ W9.cell? ⟨w.heap.size + 2, 0, none⟩ = some (.slice (some ⟨mb, mo, none⟩) n m3) ∧ W9.cell? ⟨mb, mo + a, none⟩ = some (.int .i64 (fa : Int)))) (by kernel_rfl) hS0 (fun hHeld => ?_)
      refine wpAnyH_take (i := 0) (oi := ({ dst := some 44, op := Go.Op.load 24 (Go.Operand.tmp 4), type := 24, pos := _, after := #[], guard := none } : Oper)) (v := ?_) rfl (by kernel_rfl) (by kernel_rfl) (by kernel_rfl) (fun _ _ _ h => h) (Or.inl ⟨by rfl, ?_⟩) (by assumption) ?_
      rotate_left
      · (intro w hSw; (try dsimp only at hSw); go_simp; try with_reducible rfl)
      simp only [Act.put, List.setIfInBounds_toArray, List.set_cons_zero, List.set_cons_succ]
      refine wpAnyH_take (i := 1) (oi := ({ dst := some 45, op := Go.Op.move (Go.Operand.tmp 9), type := 3, pos := _, after := #[], guard := none } : Oper)) (v := ?_) rfl (by kernel_rfl) (by kernel_rfl) (by kernel_rfl) (fun _ _ _ h => h) (Or.inl ⟨by rfl, ?_⟩) (by assumption) ?_
      rotate_left
      · (intro w hSw; (try dsimp only at hSw); go_simp; try with_reducible rfl)
      simp only [Act.put, List.setIfInBounds_toArray, List.set_cons_zero, List.set_cons_succ]
      refine wpAnyH_take (i := 3) (oi := ({ dst := some 47, op := Go.Op.load 24 (Go.Operand.tmp 5), type := 24, pos := _, after := #[], guard := none } : Oper)) (v := ?_) rfl (by kernel_rfl) (by kernel_rfl) (by kernel_rfl) (fun _ _ _ h => h) (Or.inl ⟨by rfl, ?_⟩) (by assumption) ?_
      rotate_left
      · (intro w hSw; (try dsimp only at hSw); go_simp; try with_reducible rfl)
      simp only [Act.put, List.setIfInBounds_toArray, List.set_cons_zero, List.set_cons_succ]
      refine wpAnyH_take (i := 4) (oi := ({ dst := some 48, op := Go.Op.load 22 (Go.Operand.tmp 6), type := 22, pos := _, after := #[], guard := none } : Oper)) (v := ?_) rfl (by kernel_rfl) (by kernel_rfl) (by kernel_rfl) (fun _ _ _ h => h) (Or.inl ⟨by rfl, ?_⟩) (by assumption) ?_
      rotate_left
      · (intro w hSw; (try dsimp only at hSw); go_simp; try with_reducible rfl)
      simp only [Act.put, List.setIfInBounds_toArray, List.set_cons_zero, List.set_cons_succ]
      refine wpAnyH_take (i := 5) (oi := ({ dst := some 49, op := Go.Op.move (Go.Operand.tmp 9), type := 3, pos := _, after := #[], guard := none } : Oper)) (v := ?_) rfl (by kernel_rfl) (by kernel_rfl) (by kernel_rfl) (fun _ _ _ h => h) (Or.inl ⟨by rfl, ?_⟩) (by assumption) ?_
      rotate_left
      · (intro w hSw; (try dsimp only at hSw); go_simp; try with_reducible rfl)
      simp only [Act.put, List.setIfInBounds_toArray, List.set_cons_zero, List.set_cons_succ]
      refine wpAnyH_take (i := 6) (oi := ({ dst := some 50, op := Go.Op.indexAddr 22 (Go.Operand.tmp 48) (Go.Operand.tmp 49), type := 0, pos := _, after := #[{ on := 4, ground := Go.Ground.data }, { on := 5, ground := Go.Ground.data }], guard := none } : Oper)) (v := ?_) rfl (by kernel_rfl) (by kernel_rfl) (by kernel_rfl) (fun _ _ _ h => h) (Or.inl ⟨by rfl, ?_⟩) (by assumption) ?_
      rotate_left
      · (intro w hSw; (try dsimp only at hSw); go_simp; try with_reducible rfl)
      simp only [Act.put, List.setIfInBounds_toArray, List.set_cons_zero, List.set_cons_succ]
      refine wpAnyH_take (i := 7) (oi := ({ dst := some 51, op := Go.Op.load 3 (Go.Operand.tmp 50), type := 3, pos := _, after := #[{ on := 6, ground := Go.Ground.data }], guard := none } : Oper)) (v := ?_) rfl (by kernel_rfl) (by kernel_rfl) (by kernel_rfl) (fun _ _ _ h => h) (Or.inl ⟨by rfl, ?_⟩) (by assumption) ?_
      rotate_left
      · (intro w hSw; (try dsimp only at hSw); go_simp; try with_reducible rfl)
      simp only [Act.put, List.setIfInBounds_toArray, List.set_cons_zero, List.set_cons_succ]
      refine wpAnyH_ready (rs := [2]) (by kernel_rfl) (by simp) (AllReadyH.cons (o := ({ dst := some 46, op := Go.Op.call { callee := Go.Callee.value (Go.Operand.func 30), args := #[Go.Operand.tmp 44, Go.Operand.tmp 45], argTypes := #[24, 3] }, type := 3, pos := _, after := #[{ on := 0, ground := Go.Ground.data }, { on := 1, ground := Go.Ground.data }], guard := none } : Oper)) rfl (fun K hK => ?_) AllReadyH.nil)
      go_simp
      refine (HQ1.out wr.drew (bcat2 hBw (bdrew (Below.refl _ _)))).mono ?_
      rintro x U1 ⟨rfl, hl1⟩
      have hb1 := bcat2 (bdrew (Below.refl wr.heap.size wr)) hl1
      try go_wp2_with fail
      refine hK.out _ _ (hS _ hb1) (fun hHeld => ?_)
      clear hK
      try simp only [Act.put, List.setIfInBounds_toArray, List.set_cons_zero, List.set_cons_succ]
      refine wpAnyH_ready (rs := [8]) (by kernel_rfl) (by simp) (AllReadyH.cons (o := ({ dst := some 52, op := Go.Op.call { callee := Go.Callee.value (Go.Operand.func 30), args := #[Go.Operand.tmp 47, Go.Operand.tmp 51], argTypes := #[24, 3] }, type := 3, pos := _, after := #[{ on := 3, ground := Go.Ground.data }, { on := 7, ground := Go.Ground.data }, { on := 2, ground := Go.Ground.chain }], guard := none } : Oper)) rfl (fun K hK => ?_) AllReadyH.nil)
      go_simp
      refine (HQ2.out U1 (bcat2 hBw hb1)).mono ?_
      rintro x U2 ⟨rfl, hl2⟩
      have hb2 := bcat2 hb1 hl2
      try go_wp2_with fail
      refine hK.out _ _ (hS _ hb2) (fun hHeld => ?_)
      clear hK
      try simp only [Act.put, List.setIfInBounds_toArray, List.set_cons_zero, List.set_cons_succ]
      refine wpAnyH_ready (rs := [9]) (by kernel_rfl) (by simp) (AllReadyH.cons (o := ({ dst := some 53, op := Go.Op.binOp Go.BinOp.rem 3 (Go.Operand.tmp 46) (Go.Operand.tmp 52) 3, type := 3, pos := _, after := #[{ on := 2, ground := Go.Ground.data }, { on := 8, ground := Go.Ground.data }], guard := none } : Oper)) rfl (fun K hK => ?_) AllReadyH.nil)
      go_simp
      refine hK.out _ _ hHeld (fun hHeld => ?_)
      clear hK
      try simp only [Act.put, List.setIfInBounds_toArray, List.set_cons_zero, List.set_cons_succ]
      refine wpAnyH_ready (rs := [10]) (by kernel_rfl) (by simp) (AllReadyH.cons (o := ({ dst := some 54, op := Go.Op.binOp Go.BinOp.neq 3 (Go.Operand.tmp 53) (Go.Operand.const (Go.Value.int Go.IntKind.i64 0)) 3, type := 4, pos := _, after := #[{ on := 9, ground := Go.Ground.data }], guard := none } : Oper)) rfl (fun K hK => ?_) AllReadyH.nil)
      go_simp
      refine hK.out _ _ hHeld (fun hHeld => ?_)
      clear hK
      try simp only [Act.put, List.setIfInBounds_toArray, List.set_cons_zero, List.set_cons_succ]
      refine wpAnyH_done (by kernel_rfl) ?_ _
      have hB9 := bcat2 hBr hb2
      go_wp2
      go_roundw
      case rel => exact ⟨a + 1, by omega, by go_num, hB9⟩
      case measure => simp [intOf]; omega
    · have hai : ¬ (a : Int) < (n : Int) := by omega
      have hX := blk_below hX hBr
      have hY := blk_below hY hBr
      have hM := Boxed.below hM hBr
      have hB := hBw
      clear hBw hBr
      go_wp2_with fail
      clear c0 c1
      refine (HMD.out _ hB).mono ?_
      rintro x w3 ⟨s1, s2, s3, rfl, hsl, hb3⟩
      obtain ⟨w4, hw4⟩ : ∃ w4, w4 = (w3.alloc (.cells #[.slice s1 s2 s3] 22)).alloc (.cells #[.int .i64 c, .int .i64 i] 28) := ⟨_, rfl⟩
      have hG4 : Below w3.heap.size w3 w4 := by rw [hw4]; exact (balloc w3 _).alloc (by simp) _
      have hb34 := bcat2 hb3 hG4
      have hB := bcat2 hB hb34
      have hX := blk_below hX hb34
      have hY := blk_below hY hb34
      have hM := Boxed.below hM hb34
      have hS4 : Boxed w4 w3.heap.size 22 (.slice s1 s2 s3) := by rw [hw4]; exact (Boxed.new w3 22 _).alloc _
      have hF4 : Blk w4 (w3.heap.size + 1) 28 [.int .i64 c, .int .i64 i] := by
        have := blk0 (w := w3.alloc (.cells #[.slice s1 s2 s3] 22)) (T := 28) (.int .i64 c) (.int .i64 i)
        rw [World.size_alloc] at this
        rw [hw4]; exact this
      obtain ⟨f0, f1, _, _⟩ := hF4.two
      obtain ⟨d0, d1, _, _⟩ := hY.two
      rw [hw4] at f0 f1 d0 d1
      by_cases hc : c = 0
      · have hs4 := (hsl hc).below hG4
        have HTO' := hide (HTO.out hc)
        have HI1' := hide (HI1.out hc)
        have HPR' := hide (HPR.out hc)
        have HI2' := hide (HI2.out hc)
        subst hc
        clear hsl
        go_wp2_with fail
        rw [← hw4]
        clear hw4 f0 f1 d0 d1
        refine (HTO'.out _ _ _ _ _ hB hs4 hS4 hX hM).mono ?_
        rintro x w5 ⟨t1, t2, t3, rfl, ht5, hb5⟩
        have hG5 := balloc w5 (.cells #[.slice t1 t2 t3] 22)
        have hb56 := bcat2 hb5 hG5
        have hB := bcat2 hB hb56
        have hX := blk_below hX hb56
        have hY := blk_below hY hb56
        have hM := Boxed.below hM hb56
        have hT6 := Boxed.new w5 22 (.slice t1 t2 t3)
        have ht6 := ht5.below hG5
        obtain ⟨d0, d1, _, _⟩ := hY.two
        have q0 := hT6.cell
        go_wp2_with fail
        clear d0 d1 q0
        refine (HI1'.out _ _ hB ht6).mono ?_
        rintro x w7 ⟨rfl, hb7⟩
        have hG7 := balloc w7 (.cells #[.int .i64 0, .int .i64 0] 28)
        have hb78 := bcat2 hb7 hG7
        have hB := bcat2 hB hb78
        have hX := blk_below hX hb78
        have hM := Boxed.below hM hb78
        have hT8 := Boxed.below hT6 hb78
        have ht8 := ht6.below hb78
        have hF8 := blk0 (w := w7) (T := 28) (.int .i64 0) (.int .i64 0)
        go_wp2_with fail
        generalize w7.alloc (.cells #[.int .i64 0, .int .i64 0] 28) = w8 at *
        obtain ⟨c0, c1, _, _⟩ := hX.two
        have hS5 : ∀ W9, Below w8.heap.size w8 W9 → ((fun W9 => Below w8.heap.size w8 W9 ∧ W9.cell? ⟨w.heap.size, 0, none⟩ = some (.int .i64 n) ∧ W9.cell? ⟨w.heap.size, 1, none⟩ = some (.slice v1 v2 v3)) W9) := fun W9 h => ⟨h, below_cell h c0, below_cell h c1⟩
        have hS50 := hS5 _ (bdrew (Below.refl _ w8))
        clear c0 c1
        go_cut [15, 16] (fun s15 s16 wx => ORel w8 s15 s16 wx)
        case first =>
          go_region_held3 (fun W9 => Below w8.heap.size w8 W9 ∧ W9.cell? ⟨w.heap.size, 0, none⟩ = some (.int .i64 n) ∧ W9.cell? ⟨w.heap.size, 1, none⟩ = some (.slice v1 v2 v3))
            (first | exact hS50 | assumption | exact hS5 _ (bcat2 (And.left ‹_›) hl5) | exact hS5 _ (bcat2 (And.left ‹_›) hl6) | exact hS5 _ (bcat2 (And.left ‹_›) (balloc _ _)))
            (first
              | (go_at_call 21; refine (HPR'.out _ _ _ _ _ (bcat2 hB (And.left ‹_›)) (ht8.below (And.left ‹_›)) (Boxed.below hT8 (And.left ‹_›)) (Boxed.below hM (And.left ‹_›))).mono ?_; rintro e5 U5 ⟨r1, r2, r3, rfl, hr5, hl5⟩; (first | (with_reducible have pA := mkF hl5) | (with_reducible have pA := mkF (undF hl5)) | skip))
              | (go_at_call 28; refine (HI2'.out _ _ (bcat2 hB (And.left ‹_›)) (by first | exact hr5 | exact hr5.below (balloc _ _))).mono ?_; rintro e6 U6 ⟨rfl, hl6⟩; (first | (with_reducible have pB := mkF hl6) | skip); (first | (with_reducible have pA := blk_below pA hl6) | skip); (try (obtain ⟨_, _, _, _⟩ := pA.two; obtain ⟨_, _⟩ := pA.self)); (try (obtain ⟨_, _, _, _⟩ := pB.two; obtain ⟨_, _⟩ := pB.self)); have hU6 := bcat2 (And.left ‹_›) hl6))
          all_goals (go_wp2; go_meet)
          all_goals (refine ⟨_, rfl, rfl, ?_, ?_⟩)
          all_goals (first
            | exact hU6
            | exact bcat2 hU6 (balloc _ _)
            | exact pA
            | exact pB
            | exact blk0 _ _)
        case rest =>
          obtain ⟨fb, rfl, rfl, hFx, hbx⟩ := hcut
          obtain ⟨f0, f1, _, _⟩ := hFx.two
          obtain ⟨g0, g1, _, _⟩ := (blk_below hF8 hbx).two
          go_wp2
          go_ret
          exact ⟨rfl, bcat2 hB hbx⟩
      · have hcb : (c != 0) = true := by simpa using hc
        clear hsl
        go_wp2
        rw [← hw4]
        go_ret
        exact ⟨rfl, hB⟩
theorem hord_law (N M : Int) (v y mv lv : Value) (zs ys ms ls : List Int) (w : World) (hv : Sl w v zs) (hy : Sl w y ys) (hm : Sl w mv ms) (hl : Sl w lv ls) (hT : Tab w) :
    Calls Tryd.prog 5 #[.agg #[.int .i64 N, v], .agg #[.int .i64 M, y], mv, lv] w fun e w' => e = .returned (.bool true) ∧ Below w.heap.size w w' := by
  obtain ⟨v1, v2, v3, rfl⟩ := hv.isSlice
  obtain ⟨y1, y2, y3, rfl⟩ := hy.isSlice
  by_cases hc : (hfault N zs M ys ms).1 = 0
  · obtain ⟨n, e, m, d, rfl, rfl, hg, hh⟩ := hf_grp9 hc
    obtain ⟨hf0, hml, φ, H, hms⟩ := hom_of hg hh hc
    have hφ : ∀ a, a < n → ms[a]?.getD 0 = (φ a : Int) := fun a ha => by rw [hms]; simp [li, ha]
    have hn6 := hg.tab.le
    have hm6 := hh.tab.le
    obtain ⟨m1, m3, mb, mo, hme, hmr, hmb, hmc1, hmm⟩ := id hm
    rw [hml] at hme
    subst hme
    obtain ⟨p, hp⟩ := mkd_test n zs e (pset ls)
    have hSg : Fin.Sg (List.range n) (tm n zs) e (fun a => p a = true) := by
      have S := Fin.Gen.sg (l := List.range n) (m := tm n zs) (e := e) (fun x => pset ls x = true)
      refine ⟨(hp e hg.elt).2 S.one, fun a b ha hb h1 h2 => ?_⟩
      have ha' := List.mem_range.1 ha
      have hb' := List.mem_range.1 hb
      exact (hp _ (tm_lt hg.tab ha' hb')).2 (S.mul a b ha hb ((hp a ha').1 h1) ((hp b hb').1 h2))
    have hIm := img_of hg hh H hSg
    have hsub1 : subT m ys d (pset (li (lst m (fun y => decide (y ∈ (lst n p).map φ))))) = true := sg_test hh hIm (fun y _ => decide_eq_true_iff)
    have hPre : Fin.Sg (List.range n) (tm n zs) e (fun a => φ a ∈ lst m (fun y => decide (y ∈ (lst n p).map φ))) := pre_of hg hh H (P := fun y => y ∈ lst m (fun y => decide (y ∈ (lst n p).map φ))) ⟨mem_lst.2 ⟨hh.elt, decide_eq_true hIm.one⟩, fun a b ha hb h1 h2 => by
      obtain ⟨a1, a2⟩ := mem_lst.1 h1
      obtain ⟨b1, b2⟩ := mem_lst.1 h2
      exact mem_lst.2 ⟨tm_lt hh.tab a1 b1, decide_eq_true (hIm.mul a b ha hb (of_decide_eq_true a2) (of_decide_eq_true b2))⟩⟩
    have hsub2 : subT n zs e (pset (li (lst n (fun a => decide (φ a ∈ lst m (fun y => decide (y ∈ (lst n p).map φ))))))) = true := sg_test hg hPre (fun a _ => decide_eq_true_iff)
    refine hord_good n m v1 v2 v3 y1 y2 y3 m1 m3 mb mo lv φ (ordN n zs e) (fun a => ordN m ys d (φ a)) (sfault n zs ls).1 (sfault n zs ls).2 (lst n p) (lst m (fun y => decide (y ∈ (lst n p).map φ))) (lst n (fun a => decide (φ a ∈ lst m (fun y => decide (y ∈ (lst n p).map φ))))) w hT hn6 (hide fun h => hmr.at_ (by omega)) (hide fun i h => (hmr.cell i (by omega)).trans (by rw [hφ i h]))
      (hide fun a ha => ⟨by
        obtain ⟨k, hk⟩ := hom_ord hg hh H ha
        rw [hk, Int.natCast_mul, Int.mul_tmod_right], ord_pos _, Nat.le_trans (ord_le hg ha) hn6, Nat.le_trans (ord_le hh (H.lt a ha)) hm6⟩)
      (hide fun W h => ?_) (hide fun W a h ha => O_ok hg ha (.slice v1 v2 v3) W (hv.below h)) (hide fun W a h ha => O_ok hh (H.lt a ha) (.slice y1 y2 y3) W (hy.below h))
      (hide fun W h => ?_) (hide fun hs W sb s1 s2 s3 h hsl hS hG hM => ?_) (hide fun hs W u h hu => ?_) (hide fun hs W tb t1 t2 t3 h htl hTb hM => ?_) (hide fun hs W u h hu => ?_)
    · have h9 := hcheck_ok n m (.slice v1 v2 v3) (.slice y1 y2 y3) (.slice m1 n m3) zs ys ms W (hv.below h) (hy.below h) (hm.below h)
      rw [hf0] at h9
      exact h9
    · by_cases hs : (sfault n zs ls).1 = 0
      · obtain ⟨n', e', hN, hg', hls, h0⟩ := sfault_zero hs
        obtain rfl : n' = n := by omega
        refine (mde_good n' e (.slice v1 v2 v3) lv zs ls p W (hv.below h) hg (hl.below h) (hT.below h) hls hp).mono ?_
        rintro x W' ⟨r, rfl, hr, hb⟩
        obtain ⟨r1, r2, r3, rfl⟩ := hr.sl.isSlice
        rw [h0]
        exact ⟨r1, r2, r3, rfl, fun _ => hr.sl, hb⟩
      · refine (mde_bad n (.slice v1 v2 v3) lv zs ls W (hv.below h) (hl.below h) hs).mono ?_
        rintro x W' ⟨rfl, hb⟩
        exact ⟨none, 0, 0, rfl, fun h9 => absurd h9 hs, hb⟩
    · refine (rthose_ok m 32 (.slice y1 y2 y3) _ (fun y => decide (y ∈ (lst n p).map φ)) W hm6 (fun a W => call32 a _ _ _ W) (fun W9 a hW ha => ho1_ok n a sb w.heap.size (w.heap.size + 2) (.slice v1 v2 v3) s1 s2 s3 m1 m3 (lst n p) ms φ W9 (hsl.below hW) ((hm.below h).below hW) hml hφ (fun x hx => (mem_lst.1 hx).1) (Boxed.below hS hW) (blk_below hG hW) (Boxed.below hM hW) hn6)).mono ?_
      rintro x W' ⟨r, rfl, hr, hb⟩
      have hrs := row_sl hr (Nat.lt_of_lt_of_le (Nat.lt_of_lt_of_le hT.lt h.size) hb.size)
      obtain ⟨r1, r2, r3, rfl⟩ := hrs.isSlice
      exact ⟨r1, r2, r3, rfl, hrs, hb⟩
    · have h9 := is_good m d (.slice y1 y2 y3) u ys _ W (hy.below h) hh hu (hT.below h) (lst_fault _ _)
      rw [hsub1] at h9
      exact h9
    · refine (rthose_ok n 33 (.slice v1 v2 v3) _ (fun a => decide (φ a ∈ lst m (fun y => decide (y ∈ (lst n p).map φ)))) W hn6 (fun a W => call33 a _ _ W) (fun W9 a hW ha => ho2_ok n a tb (w.heap.size + 2) t1 t2 t3 m1 m3 (lst m (fun y => decide (y ∈ (lst n p).map φ))) ms φ W9 (htl.below hW) ((hm.below h).below hW) hml hφ ha (Boxed.below hTb hW) (Boxed.below hM hW) hn6)).mono ?_
      rintro x W' ⟨r, rfl, hr, hb⟩
      have hrs := row_sl hr (Nat.lt_of_lt_of_le (Nat.lt_of_lt_of_le hT.lt h.size) hb.size)
      obtain ⟨r1, r2, r3, rfl⟩ := hrs.isSlice
      exact ⟨r1, r2, r3, rfl, hrs, hb⟩
    · have h9 := is_good n e (.slice v1 v2 v3) u zs _ W (hv.below h) hg hu (hT.below h) (lst_fault _ _)
      rw [hsub2] at h9
      exact h9
  · obtain ⟨m1, m2, m3, rfl⟩ := hm.isSlice
    exact hord_bad N M _ _ v1 v2 v3 y1 y2 y3 m1 m2 m3 lv w hT hc (hide fun W h => hcheck_ok N M (.slice v1 v2 v3) (.slice y1 y2 y3) (.slice m1 m2 m3) zs ys ms W (hv.below h) (hy.below h) (hm.below h)) (hide fun W h => rhom_any N M (.slice v1 v2 v3) (.slice y1 y2 y3) (.slice m1 m2 m3) zs ys ms W (hv.below h) (hy.below h) (hm.below h))
end Go.Proofs.YtodabkjadejekaaDoor
