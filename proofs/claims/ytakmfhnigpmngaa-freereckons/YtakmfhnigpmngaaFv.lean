/- The law FreeReckons. -/
import Derived.Test.YtakmfhnigpmngaaFs
import Derived.Deep.DeepCutAuto
namespace Go.Proofs.Ytakmfhnigpmngaa
open Go Go.RowKit

/-- What Reduce, Mul, Inv and Commute answer of whatever lists. -/
theorem reduce_any (v : Value) (zs : List Int) (w : World) (hv : Sl w v zs) :
    Calls Try.prog 14 #[v] w fun e w' => ∃ r, e = .returned (.tuple #[r, .agg #[.int .i64 (wfc zs), .int .i64 (wfa zs)]]) ∧ (wfc zs = 0 → Row w' w.heap.size r (red zs)) ∧ (wfc zs ≠ 0 → r = .slice none 0 0) ∧ Below w.heap.size w w' := by
  by_cases h : wfc zs = 0
  · have hw := wd_of_code h
    refine (reduce_good v zs w hv hw).mono ?_
    rintro e w' ⟨⟨r, rfl, hr⟩, hb⟩
    exact ⟨r, by rw [hw.code.1, hw.code.2], fun _ => hr, fun k => absurd h k, hb⟩
  · have h1 : wsc [zs] ≠ 0 := by rw [(wsc_one zs).1]; exact h
    refine (reduce_bad v zs w hv h1).mono ?_
    rintro e w' ⟨rfl, hb⟩
    exact ⟨_, by rw [(wsc_one zs).1, (wsc_one zs).2], fun k => absurd k h, fun _ => rfl, hb⟩
theorem inv_any (v : Value) (zs : List Int) (w : World) (hv : Sl w v zs) :
    Calls Try.prog 16 #[v] w fun e w' => ∃ r, e = .returned (.tuple #[r, .agg #[.int .i64 (wfc zs), .int .i64 (wfa zs)]]) ∧ (wfc zs = 0 → Row w' w.heap.size r (red (wi zs))) ∧ (wfc zs ≠ 0 → r = .slice none 0 0) ∧ Below w.heap.size w w' := by
  by_cases h : wfc zs = 0
  · have hw := wd_of_code h
    refine (inv_good v zs w hv hw).mono ?_
    rintro e w' ⟨⟨r, rfl, hr⟩, hb⟩
    exact ⟨r, by rw [hw.code.1, hw.code.2], fun _ => hr, fun k => absurd h k, hb⟩
  · have h1 : wsc [zs] ≠ 0 := by rw [(wsc_one zs).1]; exact h
    refine (inv_bad v zs w hv h1).mono ?_
    rintro e w' ⟨rfl, hb⟩
    exact ⟨_, by rw [(wsc_one zs).1, (wsc_one zs).2], fun k => absurd k h, fun _ => rfl, hb⟩
theorem mul_any2 (v u : Value) (zs ys : List Int) (w : World) (hv : Sl w v zs) (hu : Sl w u ys) :
    Calls Try.prog 15 #[v, u] w fun e w' => ∃ r, e = .returned (.tuple #[r, .agg #[.int .i64 (wsc [zs, ys]), .int .i64 (wsa [zs, ys])]]) ∧ (wsc [zs, ys] = 0 → Row w' w.heap.size r (red (zs ++ ys))) ∧ (wsc [zs, ys] ≠ 0 → r = .slice none 0 0) ∧ Below w.heap.size w w' := by
  by_cases h : wsc [zs, ys] = 0
  · have hz := wsc_zero (ws := [zs, ys]) (wsc_all h)
    refine (mul_good v u zs ys w hv hu (wsc_all h _ (by simp)) (wsc_all h _ (by simp))).mono ?_
    rintro e w' ⟨⟨r, rfl, hr⟩, hb⟩
    exact ⟨r, by rw [hz.1, hz.2], fun _ => hr, fun k => absurd h k, hb⟩
  · refine (mul_bad v u zs ys w hv hu h).mono ?_
    rintro e w' ⟨rfl, hb⟩
    exact ⟨_, rfl, fun k => absurd k h, fun _ => rfl, hb⟩
theorem commute_any (v u : Value) (zs ys : List Int) (w : World) (hv : Sl w v zs) (hu : Sl w u ys) :
    Calls Try.prog 17 #[v, u] w fun e w' => e = .returned (.tuple #[.bool (decide (wsc [zs, ys] = 0) && decide (red (zs ++ ys) = red (ys ++ zs))), .agg #[.int .i64 (wsc [zs, ys]), .int .i64 (wsa [zs, ys])]]) ∧ Below w.heap.size w w' := by
  by_cases h : wsc [zs, ys] = 0
  · have hz := wsc_zero (ws := [zs, ys]) (wsc_all h)
    refine (commute_good v u zs ys w hv hu (wsc_all h _ (by simp)) (wsc_all h _ (by simp))).mono ?_
    rintro e w' ⟨rfl, hb⟩
    exact ⟨by rw [hz.1, hz.2]; simp, hb⟩
  · refine (commute_bad v u zs ys w hv hu h).mono ?_
    rintro e w' ⟨rfl, hb⟩
    exact ⟨by rw [decide_eq_false h]; rfl, hb⟩
theorem las_any (k : Nat) (caps : Array Value) (sv : Value) (xs : List Int) (c d : Int) (w : World) (hd : c = 0 → d = 0) (hs : c = 0 → Sl w sv xs) (hn : c ≠ 0 → sv = .slice none 0 0)
    (hcall : ∀ W, Sem.run Try.prog (callFunc k caps) W = .ok (.enter k caps) W)
    (hk : c = 0 → ∀ W, Below w.heap.size w W → Calls Try.prog k caps W fun x w' => ∃ r, x = .returned r ∧ Sl w' r xs ∧ Below W.heap.size W w') :
    Calls Try.prog 22 #[sv, .agg #[.int .i64 c, .int .i64 d], .agg #[.int .i64 c, .int .i64 d], .func (.func k) #[] caps] w fun x w' => x = .returned (.bool true) ∧ Below w.heap.size w w' := by
  by_cases h : c = 0
  · have hd0 := hd h
    have := las_good k caps sv xs xs w (hs h) hcall (hk h)
    subst h
    subst hd0
    rw [decide_eq_true rfl] at this
    exact this
  · have := las_bad k caps c d w h
    rw [hn h]; exact this
theorem behind2 {u v : Value} {zs ys : List Int} {W : World} (B : Nat) (hB : W.heap.size = B) (h : Sl W u zs) (k : Sl W v ys) (hlt : Lt zs) (klt : Lt ys) (hsm : zs.length + ys.length ≤ 1000000) :
    Calls Try.prog 21 #[.slice (some ⟨B, 0, none⟩) 2 2] (W.alloc (.cells #[u, v] 22)) fun e w' => ∃ r, e = .returned r ∧ Row w' W.heap.size r (red (zs ++ ys)) ∧ Below W.heap.size W w' := by
  subst hB
  refine (behind_ok _ [zs, ys] _ (SlW.two h k) (by intro y hy; simp at hy; rcases hy with hy | hy <;> rw [hy] <;> assumption) (by simpa using hsm)).mono ?_
  rintro e w' ⟨r, rfl, hr, hb⟩
  have h0 := balloc W (.cells #[u, v] 22)
  exact ⟨r, rfl, by have := hr.mono h0.size; simpa using this, bcat h0 hb h0.size⟩

set_option maxRecDepth 100000 in
set_option maxHeartbeats 2000000 in
theorem rc1_ok (b : Nat) (v : Value) (zs : List Int) (w : World) (hb : Boxed w b 22 v) (hv : Sl w v zs) (hl : Lt zs) (hn : zs.length ≤ 2000) :
    Calls Try.prog 23 #[.pointer (some ⟨b, 0, none⟩)] w fun e w' => ∃ r, e = .returned r ∧ Sl w' r (red zs) ∧ Below w.heap.size w w' := by
  have hc := hb.cell
  obtain ⟨va, vc, _, _, hve, _⟩ := id hv
  subst hve
  go_enter Try.func23, Try.ntmps23
  go_wp2_with fail
  refine (reduced_ok _ zs w hv hl (by omega)).mono ?_
  rintro x w1 ⟨r, rfl, hr, h1⟩
  have h0 := hv.pos
  have hs := hr.sl (show 0 < w1.heap.size by have := h1.size; omega)
  go_wp2
  go_ret
  exact ⟨_, rfl, hs, h1⟩
set_option maxRecDepth 100000 in
set_option maxHeartbeats 2000000 in
theorem rc2_ok (b b2 : Nat) (v u : Value) (zs ys : List Int) (w : World) (hb : Boxed w b 22 v) (hb2 : Boxed w b2 22 u) (hv : Sl w v zs) (hu : Sl w u ys) (hl : Lt zs) (hl2 : Lt ys) (hn : zs.length ≤ 2000) (hn2 : ys.length ≤ 2000) :
    Calls Try.prog 25 #[.pointer (some ⟨b, 0, none⟩), .pointer (some ⟨b2, 0, none⟩)] w fun e w' => ∃ r, e = .returned r ∧ Sl w' r (red (zs ++ ys)) ∧ Below w.heap.size w w' := by
  have hc := hb.cell
  have hc2 := hb2.cell
  obtain ⟨va, vc, _, _, hve, _⟩ := id hv
  obtain ⟨ua, uc, _, _, hue, _⟩ := id hu
  subst hve hue
  go_enter Try.func25, Try.ntmps25
  go_wp2_with fail
  refine (behind2 _ rfl hv hu hl hl2 (by omega)).mono ?_
  rintro x w1 ⟨r, rfl, hr, h1⟩
  have h0 := hv.pos
  have hs := hr.sl (show 0 < w1.heap.size by have := h1.size; omega)
  go_wp2
  go_ret
  exact ⟨_, rfl, hs, h1⟩
set_option maxRecDepth 100000 in
set_option maxHeartbeats 2000000 in
theorem rc3_ok (b : Nat) (v : Value) (zs : List Int) (w : World) (hb : Boxed w b 22 v) (hv : Sl w v zs) (hl : Lt zs) (hn : zs.length ≤ 2000) :
    Calls Try.prog 26 #[.pointer (some ⟨b, 0, none⟩)] w fun e w' => ∃ r, e = .returned r ∧ Sl w' r (red (wi zs)) ∧ Below w.heap.size w w' := by
  have hc := hb.cell
  obtain ⟨va, vc, _, _, hve, _⟩ := id hv
  subst hve
  go_enter Try.func26, Try.ntmps26
  go_wp2_with fail
  refine (turned_ok _ zs w hv hl (by omega)).mono ?_
  rintro x w1 ⟨r, rfl, hr, h1⟩
  have h0 := hv.pos
  have hs := hr.sl (show 0 < w1.heap.size by have := h1.size; omega)
  obtain ⟨r1, r2, rfl⟩ := hr.slice
  go_wp2_with fail
  refine (reduced_ok _ (wi zs) w1 hs hl.wi (by rw [wi_length]; omega)).mono ?_
  rintro x w2 ⟨r, rfl, hr, h2⟩
  have hs2 := hr.sl (show 0 < w2.heap.size by have := h1.size; have := h2.size; omega)
  go_wp2
  go_ret
  exact ⟨_, rfl, hs2, bcat2 h1 h2⟩

set_option maxRecDepth 100000 in
set_option maxHeartbeats 4000000 in
theorem rk_long1 (v : Value) (u : Value) (vs : List Int) (us : List Int) (w : World) (hv : SlA w v vs) (hu : SlA w u us) (hl : 5000 < vs.length) (hb1 : vs.length ≤ 17592186044416) :
    Calls Try.prog 3 #[v, u] w fun e w' => e = .returned (.bool true) ∧ Below w.heap.size w w' := by
  have hl1 : (5000 : Int) < (vs.length : Int) := by omega
  obtain ⟨va, vc, hve⟩ := hv.shape
  obtain ⟨ua, uc, hue⟩ := hu.shape
  subst hve hue
  have HV := hide hv
  have HU := hide hu
  clear hv hu
  obtain ⟨w0, hw0⟩ : ∃ w0, w0 = (w.alloc (.cells #[.slice va vs.length vc] 22)).alloc (.cells #[.slice ua us.length uc] 22) := ⟨_, rfl⟩
  have hB0 : Below w.heap.size w w0 := by rw [hw0]; exact (balloc w _).alloc (balloc w (.cells #[.slice va vs.length vc] 22)).size _
  have hx2 : Boxed w0 w.heap.size 22 (.slice va vs.length vc) := by
    rw [hw0]
    have h1 : Boxed (w.alloc (.cells #[.slice va vs.length vc] 22)) w.heap.size 22 (.slice va vs.length vc) := World.alloc_heap_new w _
    exact Boxed.below h1 (balloc _ _)
  have hx3 : Boxed w0 (w.heap.size + 1) 22 (.slice ua us.length uc) := by
    rw [hw0]
    have h1 : Boxed ((w.alloc (.cells #[.slice va vs.length vc] 22)).alloc (.cells #[.slice ua us.length uc] 22)) (w.alloc (.cells #[.slice va vs.length vc] 22)).heap.size 22 (.slice ua us.length uc) := World.alloc_heap_new _ _
    rwa [World.size_alloc] at h1
  have hs0 := hB0.size
  go_enter Try.func3, Try.ntmps3
  go_wp2_with fail
  rw [← hw0]
  clear hw0
  refine (freeBegun_any w0).mono ?_
  rintro x w1 ⟨rfl, hb1, h01⟩
  have hB := bcat hB0 hb1 hs0
  have hge := hB.size
  have hsv := HV.out.up hB h01
  have hsu := HU.out.up hB h01
  replace hx2 := Boxed.below hx2 hb1
  replace hx3 := Boxed.below hx3 hb1
  clear HV HU
  have hc2 := hx2.cell
  have hc3 := hx3.cell
  go_wp2
  go_ret
  exact ⟨rfl, hB⟩

set_option maxRecDepth 100000 in
set_option maxHeartbeats 4000000 in
theorem rk_long2 (v : Value) (u : Value) (vs : List Int) (us : List Int) (w : World) (hv : SlA w v vs) (hu : SlA w u us) (h0 : vs.length ≤ 5000) (hl : 5000 < us.length) (hb2 : us.length ≤ 17592186044416) :
    Calls Try.prog 3 #[v, u] w fun e w' => e = .returned (.bool true) ∧ Below w.heap.size w w' := by
  have hl0 : ¬ ((5000 : Int) < (vs.length : Int)) := by omega
  have hl1 : (5000 : Int) < (us.length : Int) := by omega
  obtain ⟨va, vc, hve⟩ := hv.shape
  obtain ⟨ua, uc, hue⟩ := hu.shape
  subst hve hue
  have HV := hide hv
  have HU := hide hu
  clear hv hu
  obtain ⟨w0, hw0⟩ : ∃ w0, w0 = (w.alloc (.cells #[.slice va vs.length vc] 22)).alloc (.cells #[.slice ua us.length uc] 22) := ⟨_, rfl⟩
  have hB0 : Below w.heap.size w w0 := by rw [hw0]; exact (balloc w _).alloc (balloc w (.cells #[.slice va vs.length vc] 22)).size _
  have hx2 : Boxed w0 w.heap.size 22 (.slice va vs.length vc) := by
    rw [hw0]
    have h1 : Boxed (w.alloc (.cells #[.slice va vs.length vc] 22)) w.heap.size 22 (.slice va vs.length vc) := World.alloc_heap_new w _
    exact Boxed.below h1 (balloc _ _)
  have hx3 : Boxed w0 (w.heap.size + 1) 22 (.slice ua us.length uc) := by
    rw [hw0]
    have h1 : Boxed ((w.alloc (.cells #[.slice va vs.length vc] 22)).alloc (.cells #[.slice ua us.length uc] 22)) (w.alloc (.cells #[.slice va vs.length vc] 22)).heap.size 22 (.slice ua us.length uc) := World.alloc_heap_new _ _
    rwa [World.size_alloc] at h1
  have hs0 := hB0.size
  go_enter Try.func3, Try.ntmps3
  go_wp2_with fail
  rw [← hw0]
  clear hw0
  refine (freeBegun_any w0).mono ?_
  rintro x w1 ⟨rfl, hb1, h01⟩
  have hB := bcat hB0 hb1 hs0
  have hge := hB.size
  have hsv := HV.out.up hB h01
  have hsu := HU.out.up hB h01
  replace hx2 := Boxed.below hx2 hb1
  replace hx3 := Boxed.below hx3 hb1
  clear HV HU
  have hc2 := hx2.cell
  have hc3 := hx3.cell
  go_wp2
  go_ret
  exact ⟨rfl, hB⟩

theorem behind2' {v : Value} {zs ys : List Int} {W : World} (h : SlW W v [zs, ys]) (hlt : Lt zs) (klt : Lt ys) (hsm : zs.length + ys.length ≤ 1000000) :
    Calls Try.prog 21 #[v] W fun e w' => ∃ r, e = .returned r ∧ Row w' W.heap.size r (red (zs ++ ys)) ∧ Below W.heap.size W w' := by
  refine (behind_ok _ [zs, ys] _ h (by intro y hy; simp at hy; rcases hy with hy | hy <;> rw [hy] <;> assumption) (by simpa using hsm)).mono ?_
  rintro e w' ⟨r, rfl, hr, hb⟩
  exact ⟨r, rfl, by simpa using hr, hb⟩

set_option maxRecDepth 100000 in
set_option maxHeartbeats 4000000 in
theorem rk_good (v : Value) (u : Value) (vs : List Int) (us : List Int) (w : World) (hv : SlA w v vs) (hu : SlA w u us) (h0 : vs.length ≤ 5000) (hl : us.length ≤ 5000) :
    Calls Try.prog 3 #[v, u] w fun e w' => e = .returned (.bool true) ∧ Below w.heap.size w w' := by
  have hl0 : ¬ ((5000 : Int) < (vs.length : Int)) := by omega
  have hl1 : ¬ ((5000 : Int) < (us.length : Int)) := by omega
  obtain ⟨va, vc, hve⟩ := hv.shape
  obtain ⟨ua, uc, hue⟩ := hu.shape
  subst hve hue
  have HV := hide hv
  have HU := hide hu
  clear hv hu
  obtain ⟨w0, hw0⟩ : ∃ w0, w0 = (w.alloc (.cells #[.slice va vs.length vc] 22)).alloc (.cells #[.slice ua us.length uc] 22) := ⟨_, rfl⟩
  have hB0 : Below w.heap.size w w0 := by rw [hw0]; exact (balloc w _).alloc (balloc w (.cells #[.slice va vs.length vc] 22)).size _
  have hx2 : Boxed w0 w.heap.size 22 (.slice va vs.length vc) := by
    rw [hw0]
    have h1 : Boxed (w.alloc (.cells #[.slice va vs.length vc] 22)) w.heap.size 22 (.slice va vs.length vc) := World.alloc_heap_new w _
    exact Boxed.below h1 (balloc _ _)
  have hx3 : Boxed w0 (w.heap.size + 1) 22 (.slice ua us.length uc) := by
    rw [hw0]
    have h1 : Boxed ((w.alloc (.cells #[.slice va vs.length vc] 22)).alloc (.cells #[.slice ua us.length uc] 22)) (w.alloc (.cells #[.slice va vs.length vc] 22)).heap.size 22 (.slice ua us.length uc) := World.alloc_heap_new _ _
    rwa [World.size_alloc] at h1
  have hs0 := hB0.size
  go_enter Try.func3, Try.ntmps3
  go_wp2_with fail
  rw [← hw0]
  clear hw0
  refine (freeBegun_any w0).mono ?_
  rintro x w1 ⟨rfl, hb1, h01⟩
  have hB := bcat hB0 hb1 hs0
  have hge := hB.size
  have hsv := HV.out.up hB h01
  have hsu := HU.out.up hB h01
  replace hx2 := Boxed.below hx2 hb1
  replace hx3 := Boxed.below hx3 hb1
  clear HV HU
  have HCA := hide (show wfc vs = 0 → wfa vs = 0 from fun h => (wd_of_code h).code.2)
  have HCB := hide (show wsc [vs, us] = 0 → wsa [vs, us] = 0 from fun h => (wsc_zero (wsc_all h)).2)
  have HAW := hide (show wfc vs = 0 → Wd vs from wd_of_code)
  have HBW := hide (show wsc [vs, us] = 0 → Wd vs ∧ Wd us from fun h => ⟨wsc_all h _ (by simp), wsc_all h _ (by simp)⟩)
  have HCK := hide (fun p W (h : Sl W p vs) => check_any p vs W h)
  have HWF := hide (fun p W (h : Sl W p vs) => wfault_any p vs W h)
  have HWS := hide (fun p q W (h : Sl W p vs) (k : Sl W q us) => wsfault_any p q vs us W h k)
  have HRD := hide (fun p W (h : Sl W p vs) => reduce_any p vs W h)
  have HIN := hide (fun p W (h : Sl W p vs) => inv_any p vs W h)
  have HMU := hide (fun p q W (h : Sl W p vs) (k : Sl W q us) => mul_any2 p q vs us W h k)
  have HCM := hide (fun p q W (h : Sl W p vs) (k : Sl W q us) => commute_any p q vs us W h k)
  obtain ⟨E, hE⟩ : ∃ E, decide (red (vs ++ us) = red (us ++ vs)) = E := ⟨_, rfl⟩
  obtain ⟨kv, hkv⟩ : ∃ kv, (decide (wsc [vs, us] = 0) && E) = kv := ⟨_, rfl⟩
  rw [hE, hkv] at HCM
  have HEE := hide hE
  have HKV := hide hkv
  clear hE hkv
  generalize wfc vs = ca at *
  generalize wfa vs = da at *
  generalize wsc [vs, us] = cb at *
  generalize wsa [vs, us] = db at *
  have hc2 := hx2.cell
  have hc3 := hx3.cell
  have hBd := bdrew hB
  have hS : ∀ W, Below w1.heap.size w1 W → (Below w1.heap.size w1 W ∧ W.cell? ⟨w.heap.size, 0, none⟩ = some (.slice va vs.length vc) ∧ W.cell? ⟨w.heap.size + 1, 0, none⟩ = some (.slice ua us.length uc)) := fun W h => ⟨h, (Boxed.below hx2 h).cell, (Boxed.below hx3 h).cell⟩
  have hBc : Below w1.heap.size w1 w1.drew := bdrew (Below.refl _ _)
  have hS0 := hS _ hBc
  go_wp2_with fail
  go_cut [5, 6] (fun s5 s6 wx => ∃ x1 x2 y1 y2, s5 = .slice x1 vs.length x2 ∧ s6 = .slice y1 us.length y2 ∧ Sl wx s5 vs ∧ Sl wx s6 us ∧ Below w1.heap.size w1 wx)
  case first =>
    refine wp_region_held_drew (S := fun W => Below w1.heap.size w1 W ∧ W.cell? ⟨w.heap.size, 0, none⟩ = some (.slice va vs.length vc) ∧ W.cell? ⟨w.heap.size + 1, 0, none⟩ = some (.slice ua us.length uc)) (by kernel_rfl) hS0 (fun hHeld => ?_)
    generalize w1.drew = wd at *
    refine wpAnyH_take (i := 0) (oi := ({ dst := some 28, op := Go.Op.load 22 (Go.Operand.tmp 2), type := 22, pos := _, after := _, guard := none } : Oper)) (v := ?_) rfl (by kernel_rfl) (by kernel_rfl) (by kernel_rfl) (fun _ _ _ h => h) (Or.inl ⟨by rfl, ?_⟩) (by assumption) ?_
    rotate_left
    · (intro w hSw; (try dsimp only at hSw); go_simp; try with_reducible rfl)
    simp only [Act.put, List.setIfInBounds_toArray, List.set_cons_zero, List.set_cons_succ]
    refine wpAnyH_take (i := 2) (oi := ({ dst := some 30, op := Go.Op.load 22 (Go.Operand.tmp 3), type := 22, pos := _, after := _, guard := none } : Oper)) (v := ?_) rfl (by kernel_rfl) (by kernel_rfl) (by kernel_rfl) (fun _ _ _ h => h) (Or.inl ⟨by rfl, ?_⟩) (by assumption) ?_
    rotate_left
    · (intro w hSw; (try dsimp only at hSw); go_simp; try with_reducible rfl)
    simp only [Act.put, List.setIfInBounds_toArray, List.set_cons_zero, List.set_cons_succ]
    refine wpAnyH_ready (rs := [1]) (by kernel_rfl) (by simp) (AllReadyH.cons (o := ({ dst := some 29, op := Go.Op.call { callee := Go.Callee.value (Go.Operand.func 12), args := #[Go.Operand.tmp 28], argTypes := #[22] }, type := 22, pos := _, after := _, guard := none } : Oper)) rfl (fun KK hK => ?_) AllReadyH.nil)
    go_simp
    refine (own_row _ vs _ (hsv.below hBc) (by omega)).mono ?_
    rintro x1 W1 ⟨r, rfl, hr, hl1⟩
    replace hBc := bcat2 hBc hl1
    have hsr := hr.sl (hsv.below hBc).pos
    obtain ⟨r1, r2, rfl⟩ := hr.slice
    try go_wp2_with fail
    refine hK.out _ _ (hS _ hBc) (fun hHeld => ?_)
    clear hK
    try simp only [Act.put, List.setIfInBounds_toArray, List.set_cons_zero, List.set_cons_succ]
    refine wpAnyH_ready (rs := [3]) (by kernel_rfl) (by simp) (AllReadyH.cons (o := ({ dst := some 31, op := Go.Op.call { callee := Go.Callee.value (Go.Operand.func 12), args := #[Go.Operand.tmp 30], argTypes := #[22] }, type := 22, pos := _, after := _, guard := none } : Oper)) rfl (fun KK hK => ?_) AllReadyH.nil)
    go_simp
    refine (own_row _ us _ (hsu.below hBc) (by omega)).mono ?_
    rintro x2 W2 ⟨q, rfl, hq, hl2⟩
    replace hBc := bcat2 hBc hl2
    replace hsr := hsr.below hl2
    have hsq := hq.sl hsr.pos
    obtain ⟨q1, q2, rfl⟩ := hq.slice
    try go_wp2_with fail
    refine hK.out _ _ (hS _ hBc) (fun hHeld => ?_)
    clear hK
    try simp only [Act.put, List.setIfInBounds_toArray, List.set_cons_zero, List.set_cons_succ]
    refine wpAnyH_take (i := 4) (oi := ({ dst := some 5, op := Go.Op.assign (Go.Operand.tmp 29), type := 22, pos := _, after := _, guard := none } : Oper)) (v := ?_) rfl (by kernel_rfl) (by kernel_rfl) (by kernel_rfl) (fun _ _ _ h => h) (Or.inl ⟨by rfl, ?_⟩) (by assumption) ?_
    rotate_left
    · (intro w hSw; (try dsimp only at hSw); go_simp; try with_reducible rfl)
    simp only [Act.put, List.setIfInBounds_toArray, List.set_cons_zero, List.set_cons_succ]
    refine wpAnyH_take (i := 5) (oi := ({ dst := some 6, op := Go.Op.assign (Go.Operand.tmp 31), type := 22, pos := _, after := _, guard := none } : Oper)) (v := ?_) rfl (by kernel_rfl) (by kernel_rfl) (by kernel_rfl) (fun _ _ _ h => h) (Or.inl ⟨by rfl, ?_⟩) (by assumption) ?_
    rotate_left
    · (intro w hSw; (try dsimp only at hSw); go_simp; try with_reducible rfl)
    simp only [Act.put, List.setIfInBounds_toArray, List.set_cons_zero, List.set_cons_succ]
    refine wpAnyH_done (by kernel_rfl) ?_ _
    go_wp2
    go_meet
    exact ⟨_, _, _, _, rfl, rfl, hsr, hsq, hBc⟩
  obtain ⟨x1, x2, y1, y2, rfl, rfl, hsx, hsy, hb9⟩ := hcut
  clear hS hS0 hBc hBd hc2 hc3
  replace hsv := hsv.below hb9
  replace hsu := hsu.below hb9
  replace hx2 := Boxed.below hx2 hb9
  replace hx3 := Boxed.below hx3 hb9
  replace hB := bcat hB hb9 hge
  replace hge := hB.size
  go_wp2_with fail
  refine (HCK.out _ _ hsx).mono ?_
  rintro x w2 ⟨rfl, hb2⟩
  replace hsv := hsv.below hb2
  replace hsu := hsu.below hb2
  replace hsx := hsx.below hb2
  replace hsy := hsy.below hb2
  replace hx2 := Boxed.below hx2 hb2
  replace hx3 := Boxed.below hx3 hb2
  replace hB := bcat hB hb2 hge
  replace hge := hB.size
  have hb3 : Below w2.heap.size w2 (w2.alloc (.cells #[.int .i64 ca, .int .i64 da] 26)) := balloc w2 _
  replace hsv := hsv.below hb3
  replace hsu := hsu.below hb3
  replace hsx := hsx.below hb3
  replace hsy := hsy.below hb3
  replace hx2 := Boxed.below hx2 hb3
  replace hx3 := Boxed.below hx3 hb3
  replace hB := bcat hB hb3 hge
  replace hge := hB.size
  have b7 : Blk (w2.alloc (.cells #[.int .i64 ca, .int .i64 da] 26)) w2.heap.size 26 [.int .i64 ca, .int .i64 da] := blk0 _ _
  obtain ⟨b74a, b74b, b74c, b74d⟩ := b7.two
  go_wp2_with fail
  clear b74a b74b b74c b74d
  refine (HRD.out _ _ hsx).mono ?_
  rintro x w5 ⟨rr, rfl, hrr, hrn, hb5⟩
  replace hsv := hsv.below hb5
  replace hsu := hsu.below hb5
  replace hsx := hsx.below hb5
  replace hsy := hsy.below hb5
  replace hx2 := Boxed.below hx2 hb5
  replace hx3 := Boxed.below hx3 hb5
  replace b7 : Blk (w5) w2.heap.size 26 [.int .i64 ca, .int .i64 da] := Blk.of_eq b7 (hb5.block _ b7.lt)
  replace hB := bcat hB hb5 hge
  replace hge := hB.size
  have HRN := hide hrn
  clear hrn
  have hsr : ca = 0 → Sl w5 rr (red vs) := fun h => (hrr h).sl hsv.pos
  clear hrr
  have hb6 : Below w5.heap.size w5 (w5.alloc (.cells #[.int .i64 ca, .int .i64 da] 26)) := balloc w5 _
  replace hsv := hsv.below hb6
  replace hsu := hsu.below hb6
  replace hsx := hsx.below hb6
  replace hsy := hsy.below hb6
  replace hsr := fun h => (hsr h).below hb6
  replace hx2 := Boxed.below hx2 hb6
  replace hx3 := Boxed.below hx3 hb6
  replace b7 : Blk (w5.alloc (.cells #[.int .i64 ca, .int .i64 da] 26)) w2.heap.size 26 [.int .i64 ca, .int .i64 da] := Blk.of_eq b7 (hb6.block _ b7.lt)
  replace hB := bcat hB hb6 hge
  replace hge := hB.size
  have b9 : Blk (w5.alloc (.cells #[.int .i64 ca, .int .i64 da] 26)) w5.heap.size 26 [.int .i64 ca, .int .i64 da] := blk0 _ _
  obtain ⟨b77a, b77b, b77c, b77d⟩ := b7.two
  obtain ⟨b97a, b97b, b97c, b97d⟩ := b9.two
  go_wp2_with fail
  clear b77a b77b b77c b77d b97a b97b b97c b97d
  refine (HMU.out _ _ _ hsx hsy).mono ?_
  rintro x w8 ⟨rm, rfl, hmm, hmn, hb8⟩
  replace hsv := hsv.below hb8
  replace hsu := hsu.below hb8
  replace hsx := hsx.below hb8
  replace hsy := hsy.below hb8
  replace hsr := fun h => (hsr h).below hb8
  replace hx2 := Boxed.below hx2 hb8
  replace hx3 := Boxed.below hx3 hb8
  replace b7 : Blk (w8) w2.heap.size 26 [.int .i64 ca, .int .i64 da] := Blk.of_eq b7 (hb8.block _ b7.lt)
  replace b9 : Blk (w8) w5.heap.size 26 [.int .i64 ca, .int .i64 da] := Blk.of_eq b9 (hb8.block _ b9.lt)
  replace hB := bcat hB hb8 hge
  replace hge := hB.size
  have HMN := hide hmn
  clear hmn
  have hsm : cb = 0 → Sl w8 rm (red (vs ++ us)) := fun h => (hmm h).sl hsv.pos
  clear hmm
  have hb9 : Below w8.heap.size w8 (w8.alloc (.cells #[.int .i64 cb, .int .i64 db] 26)) := balloc w8 _
  replace hsv := hsv.below hb9
  replace hsu := hsu.below hb9
  replace hsx := hsx.below hb9
  replace hsy := hsy.below hb9
  replace hsr := fun h => (hsr h).below hb9
  replace hsm := fun h => (hsm h).below hb9
  replace hx2 := Boxed.below hx2 hb9
  replace hx3 := Boxed.below hx3 hb9
  replace b7 : Blk (w8.alloc (.cells #[.int .i64 cb, .int .i64 db] 26)) w2.heap.size 26 [.int .i64 ca, .int .i64 da] := Blk.of_eq b7 (hb9.block _ b7.lt)
  replace b9 : Blk (w8.alloc (.cells #[.int .i64 cb, .int .i64 db] 26)) w5.heap.size 26 [.int .i64 ca, .int .i64 da] := Blk.of_eq b9 (hb9.block _ b9.lt)
  replace hB := bcat hB hb9 hge
  replace hge := hB.size
  have b11 : Blk (w8.alloc (.cells #[.int .i64 cb, .int .i64 db] 26)) w8.heap.size 26 [.int .i64 cb, .int .i64 db] := blk0 _ _
  obtain ⟨b710a, b710b, b710c, b710d⟩ := b7.two
  obtain ⟨b910a, b910b, b910c, b910d⟩ := b9.two
  obtain ⟨b1110a, b1110b, b1110c, b1110d⟩ := b11.two
  go_wp2_with fail
  clear b710a b710b b710c b710d b910a b910b b910c b910d b1110a b1110b b1110c b1110d
  refine (HIN.out _ _ hsx).mono ?_
  rintro x w11 ⟨ri, rfl, hii, hin, hb11⟩
  replace hsv := hsv.below hb11
  replace hsu := hsu.below hb11
  replace hsx := hsx.below hb11
  replace hsy := hsy.below hb11
  replace hsr := fun h => (hsr h).below hb11
  replace hsm := fun h => (hsm h).below hb11
  replace hx2 := Boxed.below hx2 hb11
  replace hx3 := Boxed.below hx3 hb11
  replace b7 : Blk (w11) w2.heap.size 26 [.int .i64 ca, .int .i64 da] := Blk.of_eq b7 (hb11.block _ b7.lt)
  replace b9 : Blk (w11) w5.heap.size 26 [.int .i64 ca, .int .i64 da] := Blk.of_eq b9 (hb11.block _ b9.lt)
  replace b11 : Blk (w11) w8.heap.size 26 [.int .i64 cb, .int .i64 db] := Blk.of_eq b11 (hb11.block _ b11.lt)
  replace hB := bcat hB hb11 hge
  replace hge := hB.size
  have HNN := hide hin
  clear hin
  have hsi : ca = 0 → Sl w11 ri (red (wi vs)) := fun h => (hii h).sl hsv.pos
  clear hii
  have hb12 : Below w11.heap.size w11 (w11.alloc (.cells #[.int .i64 ca, .int .i64 da] 26)) := balloc w11 _
  replace hsv := hsv.below hb12
  replace hsu := hsu.below hb12
  replace hsx := hsx.below hb12
  replace hsy := hsy.below hb12
  replace hsr := fun h => (hsr h).below hb12
  replace hsm := fun h => (hsm h).below hb12
  replace hsi := fun h => (hsi h).below hb12
  replace hx2 := Boxed.below hx2 hb12
  replace hx3 := Boxed.below hx3 hb12
  replace b7 : Blk (w11.alloc (.cells #[.int .i64 ca, .int .i64 da] 26)) w2.heap.size 26 [.int .i64 ca, .int .i64 da] := Blk.of_eq b7 (hb12.block _ b7.lt)
  replace b9 : Blk (w11.alloc (.cells #[.int .i64 ca, .int .i64 da] 26)) w5.heap.size 26 [.int .i64 ca, .int .i64 da] := Blk.of_eq b9 (hb12.block _ b9.lt)
  replace b11 : Blk (w11.alloc (.cells #[.int .i64 ca, .int .i64 da] 26)) w8.heap.size 26 [.int .i64 cb, .int .i64 db] := Blk.of_eq b11 (hb12.block _ b11.lt)
  replace hB := bcat hB hb12 hge
  replace hge := hB.size
  have b13 : Blk (w11.alloc (.cells #[.int .i64 ca, .int .i64 da] 26)) w11.heap.size 26 [.int .i64 ca, .int .i64 da] := blk0 _ _
  obtain ⟨b713a, b713b, b713c, b713d⟩ := b7.two
  obtain ⟨b913a, b913b, b913c, b913d⟩ := b9.two
  obtain ⟨b1113a, b1113b, b1113c, b1113d⟩ := b11.two
  obtain ⟨b1313a, b1313b, b1313c, b1313d⟩ := b13.two
  go_wp2_with fail
  clear b713a b713b b713c b713d b913a b913b b913c b913d b1113a b1113b b1113c b1113d b1313a b1313b b1313c b1313d
  refine (HCM.out _ _ _ hsx hsy).mono ?_
  rintro x w14 ⟨rfl, hb14⟩
  replace hsv := hsv.below hb14
  replace hsu := hsu.below hb14
  replace hsx := hsx.below hb14
  replace hsy := hsy.below hb14
  replace hsr := fun h => (hsr h).below hb14
  replace hsm := fun h => (hsm h).below hb14
  replace hsi := fun h => (hsi h).below hb14
  replace hx2 := Boxed.below hx2 hb14
  replace hx3 := Boxed.below hx3 hb14
  replace b7 : Blk (w14) w2.heap.size 26 [.int .i64 ca, .int .i64 da] := Blk.of_eq b7 (hb14.block _ b7.lt)
  replace b9 : Blk (w14) w5.heap.size 26 [.int .i64 ca, .int .i64 da] := Blk.of_eq b9 (hb14.block _ b9.lt)
  replace b11 : Blk (w14) w8.heap.size 26 [.int .i64 cb, .int .i64 db] := Blk.of_eq b11 (hb14.block _ b11.lt)
  replace b13 : Blk (w14) w11.heap.size 26 [.int .i64 ca, .int .i64 da] := Blk.of_eq b13 (hb14.block _ b13.lt)
  replace hB := bcat hB hb14 hge
  replace hge := hB.size
  have hb15 : Below w14.heap.size w14 (w14.alloc (.cells #[.int .i64 cb, .int .i64 db] 26)) := balloc w14 _
  replace hsv := hsv.below hb15
  replace hsu := hsu.below hb15
  replace hsx := hsx.below hb15
  replace hsy := hsy.below hb15
  replace hsr := fun h => (hsr h).below hb15
  replace hsm := fun h => (hsm h).below hb15
  replace hsi := fun h => (hsi h).below hb15
  replace hx2 := Boxed.below hx2 hb15
  replace hx3 := Boxed.below hx3 hb15
  replace b7 : Blk (w14.alloc (.cells #[.int .i64 cb, .int .i64 db] 26)) w2.heap.size 26 [.int .i64 ca, .int .i64 da] := Blk.of_eq b7 (hb15.block _ b7.lt)
  replace b9 : Blk (w14.alloc (.cells #[.int .i64 cb, .int .i64 db] 26)) w5.heap.size 26 [.int .i64 ca, .int .i64 da] := Blk.of_eq b9 (hb15.block _ b9.lt)
  replace b11 : Blk (w14.alloc (.cells #[.int .i64 cb, .int .i64 db] 26)) w8.heap.size 26 [.int .i64 cb, .int .i64 db] := Blk.of_eq b11 (hb15.block _ b11.lt)
  replace b13 : Blk (w14.alloc (.cells #[.int .i64 cb, .int .i64 db] 26)) w11.heap.size 26 [.int .i64 ca, .int .i64 da] := Blk.of_eq b13 (hb15.block _ b13.lt)
  replace hB := bcat hB hb15 hge
  replace hge := hB.size
  have b15 : Blk (w14.alloc (.cells #[.int .i64 cb, .int .i64 db] 26)) w14.heap.size 26 [.int .i64 cb, .int .i64 db] := blk0 _ _
  obtain ⟨w9, hw9⟩ : ∃ w9, w9 = w14.alloc (.cells #[.int .i64 cb, .int .i64 db] 26) := ⟨_, rfl⟩
  have hS : ∀ W, Below w9.heap.size w9 W → (Below w9.heap.size w9 W ∧ W.cell? ⟨w.heap.size, 0, none⟩ = some (.slice va vs.length vc) ∧ W.cell? ⟨w.heap.size + 1, 0, none⟩ = some (.slice ua us.length uc)) := fun W h => ⟨h, by rw [hw9] at h; exact (Boxed.below hx2 h).cell, by rw [hw9] at h; exact (Boxed.below hx3 h).cell⟩
  have hBc : Below w9.heap.size w9 w9.drew := bdrew (Below.refl _ _)
  have hS0 := hS _ hBc
  obtain ⟨b716a, b716b, b716c, b716d⟩ := b7.two
  obtain ⟨b916a, b916b, b916c, b916d⟩ := b9.two
  obtain ⟨b1116a, b1116b, b1116c, b1116d⟩ := b11.two
  obtain ⟨b1316a, b1316b, b1316c, b1316d⟩ := b13.two
  obtain ⟨b1516a, b1516b, b1516c, b1516d⟩ := b15.two
  go_wp2_with fail
  clear b716a b716b b716c b716d b916a b916b b916c b916d b1116a b1116b b1116c b1116d b1316a b1316b b1316c b1316d b1516a b1516b b1516c b1516d
  rw [← hw9] at hsv hsu hsx hsy hx2 hx3 hsr hsm hsi b7 b9 b11 b13 b15 hB hge
  rw [← hw9]
  clear hw9
  go_cut [16, 17] (fun s16 s17 wx => ∃ b5 b6, s16 = .pointer (some ⟨b5, 0, none⟩) ∧ s17 = .pointer (some ⟨b6, 0, none⟩) ∧ Blk wx b5 26 [.int .i64 ca, .int .i64 da] ∧ Blk wx b6 26 [.int .i64 cb, .int .i64 db] ∧ Below w9.heap.size w9 wx)
  case first =>
    refine wp_region_held_drew (S := fun W => Below w9.heap.size w9 W ∧ W.cell? ⟨w.heap.size, 0, none⟩ = some (.slice va vs.length vc) ∧ W.cell? ⟨w.heap.size + 1, 0, none⟩ = some (.slice ua us.length uc)) (by kernel_rfl) hS0 (fun hHeld => ?_)
    generalize w9.drew = wd at *
    refine wpAnyH_take (i := 0) (oi := ({ dst := some 56, op := Go.Op.load 22 (Go.Operand.tmp 2), type := 22, pos := _, after := _, guard := none } : Oper)) (v := ?_) rfl (by kernel_rfl) (by kernel_rfl) (by kernel_rfl) (fun _ _ _ h => h) (Or.inl ⟨by rfl, ?_⟩) (by assumption) ?_
    rotate_left
    · (intro w hSw; (try dsimp only at hSw); go_simp; try with_reducible rfl)
    simp only [Act.put, List.setIfInBounds_toArray, List.set_cons_zero, List.set_cons_succ]
    refine wpAnyH_take (i := 2) (oi := ({ dst := some 58, op := Go.Op.load 22 (Go.Operand.tmp 2), type := 22, pos := _, after := _, guard := none } : Oper)) (v := ?_) rfl (by kernel_rfl) (by kernel_rfl) (by kernel_rfl) (fun _ _ _ h => h) (Or.inl ⟨by rfl, ?_⟩) (by assumption) ?_
    rotate_left
    · (intro w hSw; (try dsimp only at hSw); go_simp; try with_reducible rfl)
    simp only [Act.put, List.setIfInBounds_toArray, List.set_cons_zero, List.set_cons_succ]
    refine wpAnyH_take (i := 3) (oi := ({ dst := some 59, op := Go.Op.load 22 (Go.Operand.tmp 3), type := 22, pos := _, after := _, guard := none } : Oper)) (v := ?_) rfl (by kernel_rfl) (by kernel_rfl) (by kernel_rfl) (fun _ _ _ h => h) (Or.inl ⟨by rfl, ?_⟩) (by assumption) ?_
    rotate_left
    · (intro w hSw; (try dsimp only at hSw); go_simp; try with_reducible rfl)
    simp only [Act.put, List.setIfInBounds_toArray, List.set_cons_zero, List.set_cons_succ]
    refine wpAnyH_ready (rs := [1, 5, 6]) (by kernel_rfl) (by simp) (AllReadyH.cons (o := ({ dst := some 57, op := Go.Op.call { callee := Go.Callee.value (Go.Operand.func 18), args := #[Go.Operand.tmp 56], argTypes := #[22] }, type := 26, pos := _, after := _, guard := none } : Oper)) rfl (fun KK hK => ?_) (AllReadyH.cons (o := ({ dst := some 16, op := Go.Op.alloc 26, type := 0, pos := _, after := _, guard := none } : Oper)) rfl (fun KK hK => ?_) (AllReadyH.cons (o := ({ dst := some 17, op := Go.Op.alloc 26, type := 0, pos := _, after := _, guard := none } : Oper)) rfl (fun KK hK => ?_) AllReadyH.nil)))
    · as_aux_lemma =>
       go_simp
       refine (HWF.out _ _ (hsv.below hBc)).mono ?_
       rintro xWf Wf ⟨rfl, hlWf⟩
       replace hBc := bcat2 hBc hlWf
       try go_wp2_with fail
       refine hK.out _ _ (hS _ hBc) (fun hHeld => ?_)
       clear hK
       try simp only [Act.put, List.setIfInBounds_toArray, List.set_cons_zero, List.set_cons_succ]
       refine wpAnyH_ready (rs := [4, 5, 6]) (by kernel_rfl) (by simp) (AllReadyH.cons (o := ({ dst := some 60, op := Go.Op.call { callee := Go.Callee.value (Go.Operand.func 19), args := #[Go.Operand.tmp 58, Go.Operand.tmp 59], argTypes := #[22, 22] }, type := 26, pos := _, after := _, guard := none } : Oper)) rfl (fun KK hK => ?_) (AllReadyH.cons (o := ({ dst := some 16, op := Go.Op.alloc 26, type := 0, pos := _, after := _, guard := none } : Oper)) rfl (fun KK hK => ?_) (AllReadyH.cons (o := ({ dst := some 17, op := Go.Op.alloc 26, type := 0, pos := _, after := _, guard := none } : Oper)) rfl (fun KK hK => ?_) AllReadyH.nil)))
       · as_aux_lemma =>
          go_simp
          refine (HWS.out _ _ _ (hsv.below hBc) (hsu.below hBc)).mono ?_
          rintro xWg Wg ⟨rfl, hlWg⟩
          replace hBc := bcat2 hBc hlWg
          try go_wp2_with fail
          refine hK.out _ _ (hS _ hBc) (fun hHeld => ?_)
          clear hK
          try simp only [Act.put, List.setIfInBounds_toArray, List.set_cons_zero, List.set_cons_succ]
          refine wpAnyH_ready (rs := [5, 6]) (by kernel_rfl) (by simp) (AllReadyH.cons (o := ({ dst := some 16, op := Go.Op.alloc 26, type := 0, pos := _, after := _, guard := none } : Oper)) rfl (fun KK hK => ?_) (AllReadyH.cons (o := ({ dst := some 17, op := Go.Op.alloc 26, type := 0, pos := _, after := _, guard := none } : Oper)) rfl (fun KK hK => ?_) AllReadyH.nil))
          · have hab5 := balloc (Wg) (.cells #[.int .i64 0, .int .i64 0] 26)
            have hgeb5 : w9.heap.size ≤ (Wg).heap.size := hBc.size
            replace hBc := bcat2 hBc hab5
            have hb5 : Blk ((Wg).alloc (.cells #[.int .i64 0, .int .i64 0] 26)) (Wg).heap.size 26 [.int .i64 0, .int .i64 0] := blk0 _ _
            clear hab5
            go_simp
            refine hK.out _ _ (hS _ hBc) (fun hHeld => ?_)
            clear hK
            try simp only [Act.put, List.setIfInBounds_toArray, List.set_cons_zero, List.set_cons_succ]
            generalize (Wg).alloc (.cells #[.int .i64 0, .int .i64 0] 26) = Wb5 at *
            generalize (Wg).heap.size = b5 at *
            refine wpAnyH_ready (rs := [6]) (by kernel_rfl) (by simp) (AllReadyH.cons (o := ({ dst := some 17, op := Go.Op.alloc 26, type := 0, pos := _, after := _, guard := none } : Oper)) rfl (fun KK hK => ?_) AllReadyH.nil)
            have hab6 := balloc (Wb5) (.cells #[.int .i64 0, .int .i64 0] 26)
            have hgeb6 : w9.heap.size ≤ (Wb5).heap.size := hBc.size
            have hltb6 : b5 < (Wb5).heap.size := hb5.lt
            replace hb5 := hb5.alloc (.cells #[.int .i64 0, .int .i64 0] 26)
            replace hBc := bcat2 hBc hab6
            have hb6 : Blk ((Wb5).alloc (.cells #[.int .i64 0, .int .i64 0] 26)) (Wb5).heap.size 26 [.int .i64 0, .int .i64 0] := blk0 _ _
            clear hab6
            go_simp
            refine hK.out _ _ (hS _ hBc) (fun hHeld => ?_)
            clear hK
            try simp only [Act.put, List.setIfInBounds_toArray, List.set_cons_zero, List.set_cons_succ]
            generalize (Wb5).alloc (.cells #[.int .i64 0, .int .i64 0] 26) = Wb6 at *
            generalize (Wb5).heap.size = b6 at *
            refine wpAnyH_ready (rs := [7]) (by kernel_rfl) (by simp) (AllReadyH.cons (o := ({ dst := none, op := Go.Op.store 26 (Go.Operand.tmp 16) (Go.Operand.tmp 57), type := 0, pos := _, after := _, guard := none } : Oper)) rfl (fun KK hK => ?_) AllReadyH.nil)
            have hneb5 : ¬ b6 = b5 := by omega
            obtain ⟨p0, p1, p2, p3⟩ := hb5.two
            have hBn : Below w9.heap.size w9 (((Wb6).setCell ⟨b5, 0, none⟩ (.int .i64 ca)).setCell ⟨b5, 1, none⟩ (.int .i64 da)) := (hBc.setCell (p := ⟨b5, 0, none⟩) hgeb5 _).setCell (p := ⟨b5, 1, none⟩) hgeb5 _
            have hbn : Blk (((Wb6).setCell ⟨b5, 0, none⟩ (.int .i64 ca)).setCell ⟨b5, 1, none⟩ (.int .i64 da)) b5 26 [.int .i64 ca, .int .i64 da] := (hb5.set 0 _).set 1 _
            have hon := (hb6.other (p := ⟨b5, 0, none⟩) hneb5 (.int .i64 ca)).other (p := ⟨b5, 1, none⟩) hneb5 (.int .i64 da)
            go_simp
            refine hK.out _ _ (hS _ hBn) (fun hHeld => ?_)
            clear hK
            try simp only [Act.put, List.setIfInBounds_toArray, List.set_cons_zero, List.set_cons_succ]
            clear p0 p1 p2 p3 hb5 hb6 hBc
            have hBc := hBn
            have hb5 := hbn
            have hb6 := hon
            clear hBn hbn hon
            generalize ((Wb6).setCell ⟨b5, 0, none⟩ (.int .i64 ca)).setCell ⟨b5, 1, none⟩ (.int .i64 da) = Vb5 at *
            refine wpAnyH_ready (rs := [8]) (by kernel_rfl) (by simp) (AllReadyH.cons (o := ({ dst := none, op := Go.Op.store 26 (Go.Operand.tmp 17) (Go.Operand.tmp 60), type := 0, pos := _, after := _, guard := none } : Oper)) rfl (fun KK hK => ?_) AllReadyH.nil)
            have hneb6 : ¬ b5 = b6 := by omega
            obtain ⟨p0, p1, p2, p3⟩ := hb6.two
            have hBn : Below w9.heap.size w9 (((Vb5).setCell ⟨b6, 0, none⟩ (.int .i64 cb)).setCell ⟨b6, 1, none⟩ (.int .i64 db)) := (hBc.setCell (p := ⟨b6, 0, none⟩) hgeb6 _).setCell (p := ⟨b6, 1, none⟩) hgeb6 _
            have hbn : Blk (((Vb5).setCell ⟨b6, 0, none⟩ (.int .i64 cb)).setCell ⟨b6, 1, none⟩ (.int .i64 db)) b6 26 [.int .i64 cb, .int .i64 db] := (hb6.set 0 _).set 1 _
            have hon := (hb5.other (p := ⟨b6, 0, none⟩) hneb6 (.int .i64 cb)).other (p := ⟨b6, 1, none⟩) hneb6 (.int .i64 db)
            go_simp
            refine hK.out _ _ (hS _ hBn) (fun hHeld => ?_)
            clear hK
            try simp only [Act.put, List.setIfInBounds_toArray, List.set_cons_zero, List.set_cons_succ]
            clear p0 p1 p2 p3 hb6 hb5 hBc
            have hBc := hBn
            have hb6 := hbn
            have hb5 := hon
            clear hBn hbn hon
            generalize ((Vb5).setCell ⟨b6, 0, none⟩ (.int .i64 cb)).setCell ⟨b6, 1, none⟩ (.int .i64 db) = Vb6 at *
            refine wpAnyH_done (by kernel_rfl) ?_ _
            go_wp2
            go_meet
            exact ⟨b5, b6, rfl, rfl, hb5, hb6, hBc⟩
          have hab6 := balloc (Wg) (.cells #[.int .i64 0, .int .i64 0] 26)
          have hgeb6 : w9.heap.size ≤ (Wg).heap.size := hBc.size
          replace hBc := bcat2 hBc hab6
          have hb6 : Blk ((Wg).alloc (.cells #[.int .i64 0, .int .i64 0] 26)) (Wg).heap.size 26 [.int .i64 0, .int .i64 0] := blk0 _ _
          clear hab6
          go_simp
          refine hK.out _ _ (hS _ hBc) (fun hHeld => ?_)
          clear hK
          try simp only [Act.put, List.setIfInBounds_toArray, List.set_cons_zero, List.set_cons_succ]
          generalize (Wg).alloc (.cells #[.int .i64 0, .int .i64 0] 26) = Wb6 at *
          generalize (Wg).heap.size = b6 at *
          refine wpAnyH_ready (rs := [5]) (by kernel_rfl) (by simp) (AllReadyH.cons (o := ({ dst := some 16, op := Go.Op.alloc 26, type := 0, pos := _, after := _, guard := none } : Oper)) rfl (fun KK hK => ?_) AllReadyH.nil)
          have hab5 := balloc (Wb6) (.cells #[.int .i64 0, .int .i64 0] 26)
          have hgeb5 : w9.heap.size ≤ (Wb6).heap.size := hBc.size
          have hltb5 : b6 < (Wb6).heap.size := hb6.lt
          replace hb6 := hb6.alloc (.cells #[.int .i64 0, .int .i64 0] 26)
          replace hBc := bcat2 hBc hab5
          have hb5 : Blk ((Wb6).alloc (.cells #[.int .i64 0, .int .i64 0] 26)) (Wb6).heap.size 26 [.int .i64 0, .int .i64 0] := blk0 _ _
          clear hab5
          go_simp
          refine hK.out _ _ (hS _ hBc) (fun hHeld => ?_)
          clear hK
          try simp only [Act.put, List.setIfInBounds_toArray, List.set_cons_zero, List.set_cons_succ]
          generalize (Wb6).alloc (.cells #[.int .i64 0, .int .i64 0] 26) = Wb5 at *
          generalize (Wb6).heap.size = b5 at *
          refine wpAnyH_ready (rs := [7]) (by kernel_rfl) (by simp) (AllReadyH.cons (o := ({ dst := none, op := Go.Op.store 26 (Go.Operand.tmp 16) (Go.Operand.tmp 57), type := 0, pos := _, after := _, guard := none } : Oper)) rfl (fun KK hK => ?_) AllReadyH.nil)
          have hneb5 : ¬ b6 = b5 := by omega
          obtain ⟨p0, p1, p2, p3⟩ := hb5.two
          have hBn : Below w9.heap.size w9 (((Wb5).setCell ⟨b5, 0, none⟩ (.int .i64 ca)).setCell ⟨b5, 1, none⟩ (.int .i64 da)) := (hBc.setCell (p := ⟨b5, 0, none⟩) hgeb5 _).setCell (p := ⟨b5, 1, none⟩) hgeb5 _
          have hbn : Blk (((Wb5).setCell ⟨b5, 0, none⟩ (.int .i64 ca)).setCell ⟨b5, 1, none⟩ (.int .i64 da)) b5 26 [.int .i64 ca, .int .i64 da] := (hb5.set 0 _).set 1 _
          have hon := (hb6.other (p := ⟨b5, 0, none⟩) hneb5 (.int .i64 ca)).other (p := ⟨b5, 1, none⟩) hneb5 (.int .i64 da)
          go_simp
          refine hK.out _ _ (hS _ hBn) (fun hHeld => ?_)
          clear hK
          try simp only [Act.put, List.setIfInBounds_toArray, List.set_cons_zero, List.set_cons_succ]
          clear p0 p1 p2 p3 hb5 hb6 hBc
          have hBc := hBn
          have hb5 := hbn
          have hb6 := hon
          clear hBn hbn hon
          generalize ((Wb5).setCell ⟨b5, 0, none⟩ (.int .i64 ca)).setCell ⟨b5, 1, none⟩ (.int .i64 da) = Vb5 at *
          refine wpAnyH_ready (rs := [8]) (by kernel_rfl) (by simp) (AllReadyH.cons (o := ({ dst := none, op := Go.Op.store 26 (Go.Operand.tmp 17) (Go.Operand.tmp 60), type := 0, pos := _, after := _, guard := none } : Oper)) rfl (fun KK hK => ?_) AllReadyH.nil)
          have hneb6 : ¬ b5 = b6 := by omega
          obtain ⟨p0, p1, p2, p3⟩ := hb6.two
          have hBn : Below w9.heap.size w9 (((Vb5).setCell ⟨b6, 0, none⟩ (.int .i64 cb)).setCell ⟨b6, 1, none⟩ (.int .i64 db)) := (hBc.setCell (p := ⟨b6, 0, none⟩) hgeb6 _).setCell (p := ⟨b6, 1, none⟩) hgeb6 _
          have hbn : Blk (((Vb5).setCell ⟨b6, 0, none⟩ (.int .i64 cb)).setCell ⟨b6, 1, none⟩ (.int .i64 db)) b6 26 [.int .i64 cb, .int .i64 db] := (hb6.set 0 _).set 1 _
          have hon := (hb5.other (p := ⟨b6, 0, none⟩) hneb6 (.int .i64 cb)).other (p := ⟨b6, 1, none⟩) hneb6 (.int .i64 db)
          go_simp
          refine hK.out _ _ (hS _ hBn) (fun hHeld => ?_)
          clear hK
          try simp only [Act.put, List.setIfInBounds_toArray, List.set_cons_zero, List.set_cons_succ]
          clear p0 p1 p2 p3 hb6 hb5 hBc
          have hBc := hBn
          have hb6 := hbn
          have hb5 := hon
          clear hBn hbn hon
          generalize ((Vb5).setCell ⟨b6, 0, none⟩ (.int .i64 cb)).setCell ⟨b6, 1, none⟩ (.int .i64 db) = Vb6 at *
          refine wpAnyH_done (by kernel_rfl) ?_ _
          go_wp2
          go_meet
          exact ⟨b5, b6, rfl, rfl, hb5, hb6, hBc⟩
       · as_aux_lemma =>
          have hab5 := balloc (Wf) (.cells #[.int .i64 0, .int .i64 0] 26)
          have hgeb5 : w9.heap.size ≤ (Wf).heap.size := hBc.size
          replace hBc := bcat2 hBc hab5
          have hb5 : Blk ((Wf).alloc (.cells #[.int .i64 0, .int .i64 0] 26)) (Wf).heap.size 26 [.int .i64 0, .int .i64 0] := blk0 _ _
          clear hab5
          go_simp
          refine hK.out _ _ (hS _ hBc) (fun hHeld => ?_)
          clear hK
          try simp only [Act.put, List.setIfInBounds_toArray, List.set_cons_zero, List.set_cons_succ]
          generalize (Wf).alloc (.cells #[.int .i64 0, .int .i64 0] 26) = Wb5 at *
          generalize (Wf).heap.size = b5 at *
          refine wpAnyH_ready (rs := [4, 6]) (by kernel_rfl) (by simp) (AllReadyH.cons (o := ({ dst := some 60, op := Go.Op.call { callee := Go.Callee.value (Go.Operand.func 19), args := #[Go.Operand.tmp 58, Go.Operand.tmp 59], argTypes := #[22, 22] }, type := 26, pos := _, after := _, guard := none } : Oper)) rfl (fun KK hK => ?_) (AllReadyH.cons (o := ({ dst := some 17, op := Go.Op.alloc 26, type := 0, pos := _, after := _, guard := none } : Oper)) rfl (fun KK hK => ?_) AllReadyH.nil))
          · go_simp
            refine (HWS.out _ _ _ (hsv.below hBc) (hsu.below hBc)).mono ?_
            rintro xWg Wg ⟨rfl, hlWg⟩
            replace hBc := bcat2 hBc hlWg
            replace hb5 := hb5.of_eq (hlWg.block _ hb5.lt)
            try go_wp2_with fail
            refine hK.out _ _ (hS _ hBc) (fun hHeld => ?_)
            clear hK
            try simp only [Act.put, List.setIfInBounds_toArray, List.set_cons_zero, List.set_cons_succ]
            refine wpAnyH_ready (rs := [6]) (by kernel_rfl) (by simp) (AllReadyH.cons (o := ({ dst := some 17, op := Go.Op.alloc 26, type := 0, pos := _, after := _, guard := none } : Oper)) rfl (fun KK hK => ?_) AllReadyH.nil)
            have hab6 := balloc (Wg) (.cells #[.int .i64 0, .int .i64 0] 26)
            have hgeb6 : w9.heap.size ≤ (Wg).heap.size := hBc.size
            have hltb6 : b5 < (Wg).heap.size := hb5.lt
            replace hb5 := hb5.alloc (.cells #[.int .i64 0, .int .i64 0] 26)
            replace hBc := bcat2 hBc hab6
            have hb6 : Blk ((Wg).alloc (.cells #[.int .i64 0, .int .i64 0] 26)) (Wg).heap.size 26 [.int .i64 0, .int .i64 0] := blk0 _ _
            clear hab6
            go_simp
            refine hK.out _ _ (hS _ hBc) (fun hHeld => ?_)
            clear hK
            try simp only [Act.put, List.setIfInBounds_toArray, List.set_cons_zero, List.set_cons_succ]
            generalize (Wg).alloc (.cells #[.int .i64 0, .int .i64 0] 26) = Wb6 at *
            generalize (Wg).heap.size = b6 at *
            refine wpAnyH_ready (rs := [7]) (by kernel_rfl) (by simp) (AllReadyH.cons (o := ({ dst := none, op := Go.Op.store 26 (Go.Operand.tmp 16) (Go.Operand.tmp 57), type := 0, pos := _, after := _, guard := none } : Oper)) rfl (fun KK hK => ?_) AllReadyH.nil)
            have hneb5 : ¬ b6 = b5 := by omega
            obtain ⟨p0, p1, p2, p3⟩ := hb5.two
            have hBn : Below w9.heap.size w9 (((Wb6).setCell ⟨b5, 0, none⟩ (.int .i64 ca)).setCell ⟨b5, 1, none⟩ (.int .i64 da)) := (hBc.setCell (p := ⟨b5, 0, none⟩) hgeb5 _).setCell (p := ⟨b5, 1, none⟩) hgeb5 _
            have hbn : Blk (((Wb6).setCell ⟨b5, 0, none⟩ (.int .i64 ca)).setCell ⟨b5, 1, none⟩ (.int .i64 da)) b5 26 [.int .i64 ca, .int .i64 da] := (hb5.set 0 _).set 1 _
            have hon := (hb6.other (p := ⟨b5, 0, none⟩) hneb5 (.int .i64 ca)).other (p := ⟨b5, 1, none⟩) hneb5 (.int .i64 da)
            go_simp
            refine hK.out _ _ (hS _ hBn) (fun hHeld => ?_)
            clear hK
            try simp only [Act.put, List.setIfInBounds_toArray, List.set_cons_zero, List.set_cons_succ]
            clear p0 p1 p2 p3 hb5 hb6 hBc
            have hBc := hBn
            have hb5 := hbn
            have hb6 := hon
            clear hBn hbn hon
            generalize ((Wb6).setCell ⟨b5, 0, none⟩ (.int .i64 ca)).setCell ⟨b5, 1, none⟩ (.int .i64 da) = Vb5 at *
            refine wpAnyH_ready (rs := [8]) (by kernel_rfl) (by simp) (AllReadyH.cons (o := ({ dst := none, op := Go.Op.store 26 (Go.Operand.tmp 17) (Go.Operand.tmp 60), type := 0, pos := _, after := _, guard := none } : Oper)) rfl (fun KK hK => ?_) AllReadyH.nil)
            have hneb6 : ¬ b5 = b6 := by omega
            obtain ⟨p0, p1, p2, p3⟩ := hb6.two
            have hBn : Below w9.heap.size w9 (((Vb5).setCell ⟨b6, 0, none⟩ (.int .i64 cb)).setCell ⟨b6, 1, none⟩ (.int .i64 db)) := (hBc.setCell (p := ⟨b6, 0, none⟩) hgeb6 _).setCell (p := ⟨b6, 1, none⟩) hgeb6 _
            have hbn : Blk (((Vb5).setCell ⟨b6, 0, none⟩ (.int .i64 cb)).setCell ⟨b6, 1, none⟩ (.int .i64 db)) b6 26 [.int .i64 cb, .int .i64 db] := (hb6.set 0 _).set 1 _
            have hon := (hb5.other (p := ⟨b6, 0, none⟩) hneb6 (.int .i64 cb)).other (p := ⟨b6, 1, none⟩) hneb6 (.int .i64 db)
            go_simp
            refine hK.out _ _ (hS _ hBn) (fun hHeld => ?_)
            clear hK
            try simp only [Act.put, List.setIfInBounds_toArray, List.set_cons_zero, List.set_cons_succ]
            clear p0 p1 p2 p3 hb6 hb5 hBc
            have hBc := hBn
            have hb6 := hbn
            have hb5 := hon
            clear hBn hbn hon
            generalize ((Vb5).setCell ⟨b6, 0, none⟩ (.int .i64 cb)).setCell ⟨b6, 1, none⟩ (.int .i64 db) = Vb6 at *
            refine wpAnyH_done (by kernel_rfl) ?_ _
            go_wp2
            go_meet
            exact ⟨b5, b6, rfl, rfl, hb5, hb6, hBc⟩
          have hab6 := balloc (Wb5) (.cells #[.int .i64 0, .int .i64 0] 26)
          have hgeb6 : w9.heap.size ≤ (Wb5).heap.size := hBc.size
          have hltb6 : b5 < (Wb5).heap.size := hb5.lt
          replace hb5 := hb5.alloc (.cells #[.int .i64 0, .int .i64 0] 26)
          replace hBc := bcat2 hBc hab6
          have hb6 : Blk ((Wb5).alloc (.cells #[.int .i64 0, .int .i64 0] 26)) (Wb5).heap.size 26 [.int .i64 0, .int .i64 0] := blk0 _ _
          clear hab6
          go_simp
          refine hK.out _ _ (hS _ hBc) (fun hHeld => ?_)
          clear hK
          try simp only [Act.put, List.setIfInBounds_toArray, List.set_cons_zero, List.set_cons_succ]
          generalize (Wb5).alloc (.cells #[.int .i64 0, .int .i64 0] 26) = Wb6 at *
          generalize (Wb5).heap.size = b6 at *
          refine wpAnyH_ready (rs := [4]) (by kernel_rfl) (by simp) (AllReadyH.cons (o := ({ dst := some 60, op := Go.Op.call { callee := Go.Callee.value (Go.Operand.func 19), args := #[Go.Operand.tmp 58, Go.Operand.tmp 59], argTypes := #[22, 22] }, type := 26, pos := _, after := _, guard := none } : Oper)) rfl (fun KK hK => ?_) AllReadyH.nil)
          go_simp
          refine (HWS.out _ _ _ (hsv.below hBc) (hsu.below hBc)).mono ?_
          rintro xWg Wg ⟨rfl, hlWg⟩
          replace hBc := bcat2 hBc hlWg
          replace hb5 := hb5.of_eq (hlWg.block _ hb5.lt)
          replace hb6 := hb6.of_eq (hlWg.block _ hb6.lt)
          try go_wp2_with fail
          refine hK.out _ _ (hS _ hBc) (fun hHeld => ?_)
          clear hK
          try simp only [Act.put, List.setIfInBounds_toArray, List.set_cons_zero, List.set_cons_succ]
          refine wpAnyH_ready (rs := [7]) (by kernel_rfl) (by simp) (AllReadyH.cons (o := ({ dst := none, op := Go.Op.store 26 (Go.Operand.tmp 16) (Go.Operand.tmp 57), type := 0, pos := _, after := _, guard := none } : Oper)) rfl (fun KK hK => ?_) AllReadyH.nil)
          have hneb5 : ¬ b6 = b5 := by omega
          obtain ⟨p0, p1, p2, p3⟩ := hb5.two
          have hBn : Below w9.heap.size w9 (((Wg).setCell ⟨b5, 0, none⟩ (.int .i64 ca)).setCell ⟨b5, 1, none⟩ (.int .i64 da)) := (hBc.setCell (p := ⟨b5, 0, none⟩) hgeb5 _).setCell (p := ⟨b5, 1, none⟩) hgeb5 _
          have hbn : Blk (((Wg).setCell ⟨b5, 0, none⟩ (.int .i64 ca)).setCell ⟨b5, 1, none⟩ (.int .i64 da)) b5 26 [.int .i64 ca, .int .i64 da] := (hb5.set 0 _).set 1 _
          have hon := (hb6.other (p := ⟨b5, 0, none⟩) hneb5 (.int .i64 ca)).other (p := ⟨b5, 1, none⟩) hneb5 (.int .i64 da)
          go_simp
          refine hK.out _ _ (hS _ hBn) (fun hHeld => ?_)
          clear hK
          try simp only [Act.put, List.setIfInBounds_toArray, List.set_cons_zero, List.set_cons_succ]
          clear p0 p1 p2 p3 hb5 hb6 hBc
          have hBc := hBn
          have hb5 := hbn
          have hb6 := hon
          clear hBn hbn hon
          generalize ((Wg).setCell ⟨b5, 0, none⟩ (.int .i64 ca)).setCell ⟨b5, 1, none⟩ (.int .i64 da) = Vb5 at *
          refine wpAnyH_ready (rs := [8]) (by kernel_rfl) (by simp) (AllReadyH.cons (o := ({ dst := none, op := Go.Op.store 26 (Go.Operand.tmp 17) (Go.Operand.tmp 60), type := 0, pos := _, after := _, guard := none } : Oper)) rfl (fun KK hK => ?_) AllReadyH.nil)
          have hneb6 : ¬ b5 = b6 := by omega
          obtain ⟨p0, p1, p2, p3⟩ := hb6.two
          have hBn : Below w9.heap.size w9 (((Vb5).setCell ⟨b6, 0, none⟩ (.int .i64 cb)).setCell ⟨b6, 1, none⟩ (.int .i64 db)) := (hBc.setCell (p := ⟨b6, 0, none⟩) hgeb6 _).setCell (p := ⟨b6, 1, none⟩) hgeb6 _
          have hbn : Blk (((Vb5).setCell ⟨b6, 0, none⟩ (.int .i64 cb)).setCell ⟨b6, 1, none⟩ (.int .i64 db)) b6 26 [.int .i64 cb, .int .i64 db] := (hb6.set 0 _).set 1 _
          have hon := (hb5.other (p := ⟨b6, 0, none⟩) hneb6 (.int .i64 cb)).other (p := ⟨b6, 1, none⟩) hneb6 (.int .i64 db)
          go_simp
          refine hK.out _ _ (hS _ hBn) (fun hHeld => ?_)
          clear hK
          try simp only [Act.put, List.setIfInBounds_toArray, List.set_cons_zero, List.set_cons_succ]
          clear p0 p1 p2 p3 hb6 hb5 hBc
          have hBc := hBn
          have hb6 := hbn
          have hb5 := hon
          clear hBn hbn hon
          generalize ((Vb5).setCell ⟨b6, 0, none⟩ (.int .i64 cb)).setCell ⟨b6, 1, none⟩ (.int .i64 db) = Vb6 at *
          refine wpAnyH_done (by kernel_rfl) ?_ _
          go_wp2
          go_meet
          exact ⟨b5, b6, rfl, rfl, hb5, hb6, hBc⟩
       · as_aux_lemma =>
          have hab6 := balloc (Wf) (.cells #[.int .i64 0, .int .i64 0] 26)
          have hgeb6 : w9.heap.size ≤ (Wf).heap.size := hBc.size
          replace hBc := bcat2 hBc hab6
          have hb6 : Blk ((Wf).alloc (.cells #[.int .i64 0, .int .i64 0] 26)) (Wf).heap.size 26 [.int .i64 0, .int .i64 0] := blk0 _ _
          clear hab6
          go_simp
          refine hK.out _ _ (hS _ hBc) (fun hHeld => ?_)
          clear hK
          try simp only [Act.put, List.setIfInBounds_toArray, List.set_cons_zero, List.set_cons_succ]
          generalize (Wf).alloc (.cells #[.int .i64 0, .int .i64 0] 26) = Wb6 at *
          generalize (Wf).heap.size = b6 at *
          refine wpAnyH_ready (rs := [4, 5]) (by kernel_rfl) (by simp) (AllReadyH.cons (o := ({ dst := some 60, op := Go.Op.call { callee := Go.Callee.value (Go.Operand.func 19), args := #[Go.Operand.tmp 58, Go.Operand.tmp 59], argTypes := #[22, 22] }, type := 26, pos := _, after := _, guard := none } : Oper)) rfl (fun KK hK => ?_) (AllReadyH.cons (o := ({ dst := some 16, op := Go.Op.alloc 26, type := 0, pos := _, after := _, guard := none } : Oper)) rfl (fun KK hK => ?_) AllReadyH.nil))
          · go_simp
            refine (HWS.out _ _ _ (hsv.below hBc) (hsu.below hBc)).mono ?_
            rintro xWg Wg ⟨rfl, hlWg⟩
            replace hBc := bcat2 hBc hlWg
            replace hb6 := hb6.of_eq (hlWg.block _ hb6.lt)
            try go_wp2_with fail
            refine hK.out _ _ (hS _ hBc) (fun hHeld => ?_)
            clear hK
            try simp only [Act.put, List.setIfInBounds_toArray, List.set_cons_zero, List.set_cons_succ]
            refine wpAnyH_ready (rs := [5]) (by kernel_rfl) (by simp) (AllReadyH.cons (o := ({ dst := some 16, op := Go.Op.alloc 26, type := 0, pos := _, after := _, guard := none } : Oper)) rfl (fun KK hK => ?_) AllReadyH.nil)
            have hab5 := balloc (Wg) (.cells #[.int .i64 0, .int .i64 0] 26)
            have hgeb5 : w9.heap.size ≤ (Wg).heap.size := hBc.size
            have hltb5 : b6 < (Wg).heap.size := hb6.lt
            replace hb6 := hb6.alloc (.cells #[.int .i64 0, .int .i64 0] 26)
            replace hBc := bcat2 hBc hab5
            have hb5 : Blk ((Wg).alloc (.cells #[.int .i64 0, .int .i64 0] 26)) (Wg).heap.size 26 [.int .i64 0, .int .i64 0] := blk0 _ _
            clear hab5
            go_simp
            refine hK.out _ _ (hS _ hBc) (fun hHeld => ?_)
            clear hK
            try simp only [Act.put, List.setIfInBounds_toArray, List.set_cons_zero, List.set_cons_succ]
            generalize (Wg).alloc (.cells #[.int .i64 0, .int .i64 0] 26) = Wb5 at *
            generalize (Wg).heap.size = b5 at *
            refine wpAnyH_ready (rs := [7]) (by kernel_rfl) (by simp) (AllReadyH.cons (o := ({ dst := none, op := Go.Op.store 26 (Go.Operand.tmp 16) (Go.Operand.tmp 57), type := 0, pos := _, after := _, guard := none } : Oper)) rfl (fun KK hK => ?_) AllReadyH.nil)
            have hneb5 : ¬ b6 = b5 := by omega
            obtain ⟨p0, p1, p2, p3⟩ := hb5.two
            have hBn : Below w9.heap.size w9 (((Wb5).setCell ⟨b5, 0, none⟩ (.int .i64 ca)).setCell ⟨b5, 1, none⟩ (.int .i64 da)) := (hBc.setCell (p := ⟨b5, 0, none⟩) hgeb5 _).setCell (p := ⟨b5, 1, none⟩) hgeb5 _
            have hbn : Blk (((Wb5).setCell ⟨b5, 0, none⟩ (.int .i64 ca)).setCell ⟨b5, 1, none⟩ (.int .i64 da)) b5 26 [.int .i64 ca, .int .i64 da] := (hb5.set 0 _).set 1 _
            have hon := (hb6.other (p := ⟨b5, 0, none⟩) hneb5 (.int .i64 ca)).other (p := ⟨b5, 1, none⟩) hneb5 (.int .i64 da)
            go_simp
            refine hK.out _ _ (hS _ hBn) (fun hHeld => ?_)
            clear hK
            try simp only [Act.put, List.setIfInBounds_toArray, List.set_cons_zero, List.set_cons_succ]
            clear p0 p1 p2 p3 hb5 hb6 hBc
            have hBc := hBn
            have hb5 := hbn
            have hb6 := hon
            clear hBn hbn hon
            generalize ((Wb5).setCell ⟨b5, 0, none⟩ (.int .i64 ca)).setCell ⟨b5, 1, none⟩ (.int .i64 da) = Vb5 at *
            refine wpAnyH_ready (rs := [8]) (by kernel_rfl) (by simp) (AllReadyH.cons (o := ({ dst := none, op := Go.Op.store 26 (Go.Operand.tmp 17) (Go.Operand.tmp 60), type := 0, pos := _, after := _, guard := none } : Oper)) rfl (fun KK hK => ?_) AllReadyH.nil)
            have hneb6 : ¬ b5 = b6 := by omega
            obtain ⟨p0, p1, p2, p3⟩ := hb6.two
            have hBn : Below w9.heap.size w9 (((Vb5).setCell ⟨b6, 0, none⟩ (.int .i64 cb)).setCell ⟨b6, 1, none⟩ (.int .i64 db)) := (hBc.setCell (p := ⟨b6, 0, none⟩) hgeb6 _).setCell (p := ⟨b6, 1, none⟩) hgeb6 _
            have hbn : Blk (((Vb5).setCell ⟨b6, 0, none⟩ (.int .i64 cb)).setCell ⟨b6, 1, none⟩ (.int .i64 db)) b6 26 [.int .i64 cb, .int .i64 db] := (hb6.set 0 _).set 1 _
            have hon := (hb5.other (p := ⟨b6, 0, none⟩) hneb6 (.int .i64 cb)).other (p := ⟨b6, 1, none⟩) hneb6 (.int .i64 db)
            go_simp
            refine hK.out _ _ (hS _ hBn) (fun hHeld => ?_)
            clear hK
            try simp only [Act.put, List.setIfInBounds_toArray, List.set_cons_zero, List.set_cons_succ]
            clear p0 p1 p2 p3 hb6 hb5 hBc
            have hBc := hBn
            have hb6 := hbn
            have hb5 := hon
            clear hBn hbn hon
            generalize ((Vb5).setCell ⟨b6, 0, none⟩ (.int .i64 cb)).setCell ⟨b6, 1, none⟩ (.int .i64 db) = Vb6 at *
            refine wpAnyH_done (by kernel_rfl) ?_ _
            go_wp2
            go_meet
            exact ⟨b5, b6, rfl, rfl, hb5, hb6, hBc⟩
          have hab5 := balloc (Wb6) (.cells #[.int .i64 0, .int .i64 0] 26)
          have hgeb5 : w9.heap.size ≤ (Wb6).heap.size := hBc.size
          have hltb5 : b6 < (Wb6).heap.size := hb6.lt
          replace hb6 := hb6.alloc (.cells #[.int .i64 0, .int .i64 0] 26)
          replace hBc := bcat2 hBc hab5
          have hb5 : Blk ((Wb6).alloc (.cells #[.int .i64 0, .int .i64 0] 26)) (Wb6).heap.size 26 [.int .i64 0, .int .i64 0] := blk0 _ _
          clear hab5
          go_simp
          refine hK.out _ _ (hS _ hBc) (fun hHeld => ?_)
          clear hK
          try simp only [Act.put, List.setIfInBounds_toArray, List.set_cons_zero, List.set_cons_succ]
          generalize (Wb6).alloc (.cells #[.int .i64 0, .int .i64 0] 26) = Wb5 at *
          generalize (Wb6).heap.size = b5 at *
          refine wpAnyH_ready (rs := [4]) (by kernel_rfl) (by simp) (AllReadyH.cons (o := ({ dst := some 60, op := Go.Op.call { callee := Go.Callee.value (Go.Operand.func 19), args := #[Go.Operand.tmp 58, Go.Operand.tmp 59], argTypes := #[22, 22] }, type := 26, pos := _, after := _, guard := none } : Oper)) rfl (fun KK hK => ?_) AllReadyH.nil)
          go_simp
          refine (HWS.out _ _ _ (hsv.below hBc) (hsu.below hBc)).mono ?_
          rintro xWg Wg ⟨rfl, hlWg⟩
          replace hBc := bcat2 hBc hlWg
          replace hb5 := hb5.of_eq (hlWg.block _ hb5.lt)
          replace hb6 := hb6.of_eq (hlWg.block _ hb6.lt)
          try go_wp2_with fail
          refine hK.out _ _ (hS _ hBc) (fun hHeld => ?_)
          clear hK
          try simp only [Act.put, List.setIfInBounds_toArray, List.set_cons_zero, List.set_cons_succ]
          refine wpAnyH_ready (rs := [7]) (by kernel_rfl) (by simp) (AllReadyH.cons (o := ({ dst := none, op := Go.Op.store 26 (Go.Operand.tmp 16) (Go.Operand.tmp 57), type := 0, pos := _, after := _, guard := none } : Oper)) rfl (fun KK hK => ?_) AllReadyH.nil)
          have hneb5 : ¬ b6 = b5 := by omega
          obtain ⟨p0, p1, p2, p3⟩ := hb5.two
          have hBn : Below w9.heap.size w9 (((Wg).setCell ⟨b5, 0, none⟩ (.int .i64 ca)).setCell ⟨b5, 1, none⟩ (.int .i64 da)) := (hBc.setCell (p := ⟨b5, 0, none⟩) hgeb5 _).setCell (p := ⟨b5, 1, none⟩) hgeb5 _
          have hbn : Blk (((Wg).setCell ⟨b5, 0, none⟩ (.int .i64 ca)).setCell ⟨b5, 1, none⟩ (.int .i64 da)) b5 26 [.int .i64 ca, .int .i64 da] := (hb5.set 0 _).set 1 _
          have hon := (hb6.other (p := ⟨b5, 0, none⟩) hneb5 (.int .i64 ca)).other (p := ⟨b5, 1, none⟩) hneb5 (.int .i64 da)
          go_simp
          refine hK.out _ _ (hS _ hBn) (fun hHeld => ?_)
          clear hK
          try simp only [Act.put, List.setIfInBounds_toArray, List.set_cons_zero, List.set_cons_succ]
          clear p0 p1 p2 p3 hb5 hb6 hBc
          have hBc := hBn
          have hb5 := hbn
          have hb6 := hon
          clear hBn hbn hon
          generalize ((Wg).setCell ⟨b5, 0, none⟩ (.int .i64 ca)).setCell ⟨b5, 1, none⟩ (.int .i64 da) = Vb5 at *
          refine wpAnyH_ready (rs := [8]) (by kernel_rfl) (by simp) (AllReadyH.cons (o := ({ dst := none, op := Go.Op.store 26 (Go.Operand.tmp 17) (Go.Operand.tmp 60), type := 0, pos := _, after := _, guard := none } : Oper)) rfl (fun KK hK => ?_) AllReadyH.nil)
          have hneb6 : ¬ b5 = b6 := by omega
          obtain ⟨p0, p1, p2, p3⟩ := hb6.two
          have hBn : Below w9.heap.size w9 (((Vb5).setCell ⟨b6, 0, none⟩ (.int .i64 cb)).setCell ⟨b6, 1, none⟩ (.int .i64 db)) := (hBc.setCell (p := ⟨b6, 0, none⟩) hgeb6 _).setCell (p := ⟨b6, 1, none⟩) hgeb6 _
          have hbn : Blk (((Vb5).setCell ⟨b6, 0, none⟩ (.int .i64 cb)).setCell ⟨b6, 1, none⟩ (.int .i64 db)) b6 26 [.int .i64 cb, .int .i64 db] := (hb6.set 0 _).set 1 _
          have hon := (hb5.other (p := ⟨b6, 0, none⟩) hneb6 (.int .i64 cb)).other (p := ⟨b6, 1, none⟩) hneb6 (.int .i64 db)
          go_simp
          refine hK.out _ _ (hS _ hBn) (fun hHeld => ?_)
          clear hK
          try simp only [Act.put, List.setIfInBounds_toArray, List.set_cons_zero, List.set_cons_succ]
          clear p0 p1 p2 p3 hb6 hb5 hBc
          have hBc := hBn
          have hb6 := hbn
          have hb5 := hon
          clear hBn hbn hon
          generalize ((Vb5).setCell ⟨b6, 0, none⟩ (.int .i64 cb)).setCell ⟨b6, 1, none⟩ (.int .i64 db) = Vb6 at *
          refine wpAnyH_done (by kernel_rfl) ?_ _
          go_wp2
          go_meet
          exact ⟨b5, b6, rfl, rfl, hb5, hb6, hBc⟩
    · as_aux_lemma =>
       have hab5 := balloc (wd) (.cells #[.int .i64 0, .int .i64 0] 26)
       have hgeb5 : w9.heap.size ≤ (wd).heap.size := hBc.size
       replace hBc := bcat2 hBc hab5
       have hb5 : Blk ((wd).alloc (.cells #[.int .i64 0, .int .i64 0] 26)) (wd).heap.size 26 [.int .i64 0, .int .i64 0] := blk0 _ _
       clear hab5
       go_simp
       refine hK.out _ _ (hS _ hBc) (fun hHeld => ?_)
       clear hK
       try simp only [Act.put, List.setIfInBounds_toArray, List.set_cons_zero, List.set_cons_succ]
       generalize (wd).alloc (.cells #[.int .i64 0, .int .i64 0] 26) = Wb5 at *
       generalize (wd).heap.size = b5 at *
       refine wpAnyH_ready (rs := [1, 6]) (by kernel_rfl) (by simp) (AllReadyH.cons (o := ({ dst := some 57, op := Go.Op.call { callee := Go.Callee.value (Go.Operand.func 18), args := #[Go.Operand.tmp 56], argTypes := #[22] }, type := 26, pos := _, after := _, guard := none } : Oper)) rfl (fun KK hK => ?_) (AllReadyH.cons (o := ({ dst := some 17, op := Go.Op.alloc 26, type := 0, pos := _, after := _, guard := none } : Oper)) rfl (fun KK hK => ?_) AllReadyH.nil))
       · as_aux_lemma =>
          go_simp
          refine (HWF.out _ _ (hsv.below hBc)).mono ?_
          rintro xWf Wf ⟨rfl, hlWf⟩
          replace hBc := bcat2 hBc hlWf
          replace hb5 := hb5.of_eq (hlWf.block _ hb5.lt)
          try go_wp2_with fail
          refine hK.out _ _ (hS _ hBc) (fun hHeld => ?_)
          clear hK
          try simp only [Act.put, List.setIfInBounds_toArray, List.set_cons_zero, List.set_cons_succ]
          refine wpAnyH_ready (rs := [4, 6]) (by kernel_rfl) (by simp) (AllReadyH.cons (o := ({ dst := some 60, op := Go.Op.call { callee := Go.Callee.value (Go.Operand.func 19), args := #[Go.Operand.tmp 58, Go.Operand.tmp 59], argTypes := #[22, 22] }, type := 26, pos := _, after := _, guard := none } : Oper)) rfl (fun KK hK => ?_) (AllReadyH.cons (o := ({ dst := some 17, op := Go.Op.alloc 26, type := 0, pos := _, after := _, guard := none } : Oper)) rfl (fun KK hK => ?_) AllReadyH.nil))
          · go_simp
            refine (HWS.out _ _ _ (hsv.below hBc) (hsu.below hBc)).mono ?_
            rintro xWg Wg ⟨rfl, hlWg⟩
            replace hBc := bcat2 hBc hlWg
            replace hb5 := hb5.of_eq (hlWg.block _ hb5.lt)
            try go_wp2_with fail
            refine hK.out _ _ (hS _ hBc) (fun hHeld => ?_)
            clear hK
            try simp only [Act.put, List.setIfInBounds_toArray, List.set_cons_zero, List.set_cons_succ]
            refine wpAnyH_ready (rs := [6]) (by kernel_rfl) (by simp) (AllReadyH.cons (o := ({ dst := some 17, op := Go.Op.alloc 26, type := 0, pos := _, after := _, guard := none } : Oper)) rfl (fun KK hK => ?_) AllReadyH.nil)
            have hab6 := balloc (Wg) (.cells #[.int .i64 0, .int .i64 0] 26)
            have hgeb6 : w9.heap.size ≤ (Wg).heap.size := hBc.size
            have hltb6 : b5 < (Wg).heap.size := hb5.lt
            replace hb5 := hb5.alloc (.cells #[.int .i64 0, .int .i64 0] 26)
            replace hBc := bcat2 hBc hab6
            have hb6 : Blk ((Wg).alloc (.cells #[.int .i64 0, .int .i64 0] 26)) (Wg).heap.size 26 [.int .i64 0, .int .i64 0] := blk0 _ _
            clear hab6
            go_simp
            refine hK.out _ _ (hS _ hBc) (fun hHeld => ?_)
            clear hK
            try simp only [Act.put, List.setIfInBounds_toArray, List.set_cons_zero, List.set_cons_succ]
            generalize (Wg).alloc (.cells #[.int .i64 0, .int .i64 0] 26) = Wb6 at *
            generalize (Wg).heap.size = b6 at *
            refine wpAnyH_ready (rs := [7]) (by kernel_rfl) (by simp) (AllReadyH.cons (o := ({ dst := none, op := Go.Op.store 26 (Go.Operand.tmp 16) (Go.Operand.tmp 57), type := 0, pos := _, after := _, guard := none } : Oper)) rfl (fun KK hK => ?_) AllReadyH.nil)
            have hneb5 : ¬ b6 = b5 := by omega
            obtain ⟨p0, p1, p2, p3⟩ := hb5.two
            have hBn : Below w9.heap.size w9 (((Wb6).setCell ⟨b5, 0, none⟩ (.int .i64 ca)).setCell ⟨b5, 1, none⟩ (.int .i64 da)) := (hBc.setCell (p := ⟨b5, 0, none⟩) hgeb5 _).setCell (p := ⟨b5, 1, none⟩) hgeb5 _
            have hbn : Blk (((Wb6).setCell ⟨b5, 0, none⟩ (.int .i64 ca)).setCell ⟨b5, 1, none⟩ (.int .i64 da)) b5 26 [.int .i64 ca, .int .i64 da] := (hb5.set 0 _).set 1 _
            have hon := (hb6.other (p := ⟨b5, 0, none⟩) hneb5 (.int .i64 ca)).other (p := ⟨b5, 1, none⟩) hneb5 (.int .i64 da)
            go_simp
            refine hK.out _ _ (hS _ hBn) (fun hHeld => ?_)
            clear hK
            try simp only [Act.put, List.setIfInBounds_toArray, List.set_cons_zero, List.set_cons_succ]
            clear p0 p1 p2 p3 hb5 hb6 hBc
            have hBc := hBn
            have hb5 := hbn
            have hb6 := hon
            clear hBn hbn hon
            generalize ((Wb6).setCell ⟨b5, 0, none⟩ (.int .i64 ca)).setCell ⟨b5, 1, none⟩ (.int .i64 da) = Vb5 at *
            refine wpAnyH_ready (rs := [8]) (by kernel_rfl) (by simp) (AllReadyH.cons (o := ({ dst := none, op := Go.Op.store 26 (Go.Operand.tmp 17) (Go.Operand.tmp 60), type := 0, pos := _, after := _, guard := none } : Oper)) rfl (fun KK hK => ?_) AllReadyH.nil)
            have hneb6 : ¬ b5 = b6 := by omega
            obtain ⟨p0, p1, p2, p3⟩ := hb6.two
            have hBn : Below w9.heap.size w9 (((Vb5).setCell ⟨b6, 0, none⟩ (.int .i64 cb)).setCell ⟨b6, 1, none⟩ (.int .i64 db)) := (hBc.setCell (p := ⟨b6, 0, none⟩) hgeb6 _).setCell (p := ⟨b6, 1, none⟩) hgeb6 _
            have hbn : Blk (((Vb5).setCell ⟨b6, 0, none⟩ (.int .i64 cb)).setCell ⟨b6, 1, none⟩ (.int .i64 db)) b6 26 [.int .i64 cb, .int .i64 db] := (hb6.set 0 _).set 1 _
            have hon := (hb5.other (p := ⟨b6, 0, none⟩) hneb6 (.int .i64 cb)).other (p := ⟨b6, 1, none⟩) hneb6 (.int .i64 db)
            go_simp
            refine hK.out _ _ (hS _ hBn) (fun hHeld => ?_)
            clear hK
            try simp only [Act.put, List.setIfInBounds_toArray, List.set_cons_zero, List.set_cons_succ]
            clear p0 p1 p2 p3 hb6 hb5 hBc
            have hBc := hBn
            have hb6 := hbn
            have hb5 := hon
            clear hBn hbn hon
            generalize ((Vb5).setCell ⟨b6, 0, none⟩ (.int .i64 cb)).setCell ⟨b6, 1, none⟩ (.int .i64 db) = Vb6 at *
            refine wpAnyH_done (by kernel_rfl) ?_ _
            go_wp2
            go_meet
            exact ⟨b5, b6, rfl, rfl, hb5, hb6, hBc⟩
          have hab6 := balloc (Wf) (.cells #[.int .i64 0, .int .i64 0] 26)
          have hgeb6 : w9.heap.size ≤ (Wf).heap.size := hBc.size
          have hltb6 : b5 < (Wf).heap.size := hb5.lt
          replace hb5 := hb5.alloc (.cells #[.int .i64 0, .int .i64 0] 26)
          replace hBc := bcat2 hBc hab6
          have hb6 : Blk ((Wf).alloc (.cells #[.int .i64 0, .int .i64 0] 26)) (Wf).heap.size 26 [.int .i64 0, .int .i64 0] := blk0 _ _
          clear hab6
          go_simp
          refine hK.out _ _ (hS _ hBc) (fun hHeld => ?_)
          clear hK
          try simp only [Act.put, List.setIfInBounds_toArray, List.set_cons_zero, List.set_cons_succ]
          generalize (Wf).alloc (.cells #[.int .i64 0, .int .i64 0] 26) = Wb6 at *
          generalize (Wf).heap.size = b6 at *
          refine wpAnyH_ready (rs := [4]) (by kernel_rfl) (by simp) (AllReadyH.cons (o := ({ dst := some 60, op := Go.Op.call { callee := Go.Callee.value (Go.Operand.func 19), args := #[Go.Operand.tmp 58, Go.Operand.tmp 59], argTypes := #[22, 22] }, type := 26, pos := _, after := _, guard := none } : Oper)) rfl (fun KK hK => ?_) AllReadyH.nil)
          go_simp
          refine (HWS.out _ _ _ (hsv.below hBc) (hsu.below hBc)).mono ?_
          rintro xWg Wg ⟨rfl, hlWg⟩
          replace hBc := bcat2 hBc hlWg
          replace hb5 := hb5.of_eq (hlWg.block _ hb5.lt)
          replace hb6 := hb6.of_eq (hlWg.block _ hb6.lt)
          try go_wp2_with fail
          refine hK.out _ _ (hS _ hBc) (fun hHeld => ?_)
          clear hK
          try simp only [Act.put, List.setIfInBounds_toArray, List.set_cons_zero, List.set_cons_succ]
          refine wpAnyH_ready (rs := [7]) (by kernel_rfl) (by simp) (AllReadyH.cons (o := ({ dst := none, op := Go.Op.store 26 (Go.Operand.tmp 16) (Go.Operand.tmp 57), type := 0, pos := _, after := _, guard := none } : Oper)) rfl (fun KK hK => ?_) AllReadyH.nil)
          have hneb5 : ¬ b6 = b5 := by omega
          obtain ⟨p0, p1, p2, p3⟩ := hb5.two
          have hBn : Below w9.heap.size w9 (((Wg).setCell ⟨b5, 0, none⟩ (.int .i64 ca)).setCell ⟨b5, 1, none⟩ (.int .i64 da)) := (hBc.setCell (p := ⟨b5, 0, none⟩) hgeb5 _).setCell (p := ⟨b5, 1, none⟩) hgeb5 _
          have hbn : Blk (((Wg).setCell ⟨b5, 0, none⟩ (.int .i64 ca)).setCell ⟨b5, 1, none⟩ (.int .i64 da)) b5 26 [.int .i64 ca, .int .i64 da] := (hb5.set 0 _).set 1 _
          have hon := (hb6.other (p := ⟨b5, 0, none⟩) hneb5 (.int .i64 ca)).other (p := ⟨b5, 1, none⟩) hneb5 (.int .i64 da)
          go_simp
          refine hK.out _ _ (hS _ hBn) (fun hHeld => ?_)
          clear hK
          try simp only [Act.put, List.setIfInBounds_toArray, List.set_cons_zero, List.set_cons_succ]
          clear p0 p1 p2 p3 hb5 hb6 hBc
          have hBc := hBn
          have hb5 := hbn
          have hb6 := hon
          clear hBn hbn hon
          generalize ((Wg).setCell ⟨b5, 0, none⟩ (.int .i64 ca)).setCell ⟨b5, 1, none⟩ (.int .i64 da) = Vb5 at *
          refine wpAnyH_ready (rs := [8]) (by kernel_rfl) (by simp) (AllReadyH.cons (o := ({ dst := none, op := Go.Op.store 26 (Go.Operand.tmp 17) (Go.Operand.tmp 60), type := 0, pos := _, after := _, guard := none } : Oper)) rfl (fun KK hK => ?_) AllReadyH.nil)
          have hneb6 : ¬ b5 = b6 := by omega
          obtain ⟨p0, p1, p2, p3⟩ := hb6.two
          have hBn : Below w9.heap.size w9 (((Vb5).setCell ⟨b6, 0, none⟩ (.int .i64 cb)).setCell ⟨b6, 1, none⟩ (.int .i64 db)) := (hBc.setCell (p := ⟨b6, 0, none⟩) hgeb6 _).setCell (p := ⟨b6, 1, none⟩) hgeb6 _
          have hbn : Blk (((Vb5).setCell ⟨b6, 0, none⟩ (.int .i64 cb)).setCell ⟨b6, 1, none⟩ (.int .i64 db)) b6 26 [.int .i64 cb, .int .i64 db] := (hb6.set 0 _).set 1 _
          have hon := (hb5.other (p := ⟨b6, 0, none⟩) hneb6 (.int .i64 cb)).other (p := ⟨b6, 1, none⟩) hneb6 (.int .i64 db)
          go_simp
          refine hK.out _ _ (hS _ hBn) (fun hHeld => ?_)
          clear hK
          try simp only [Act.put, List.setIfInBounds_toArray, List.set_cons_zero, List.set_cons_succ]
          clear p0 p1 p2 p3 hb6 hb5 hBc
          have hBc := hBn
          have hb6 := hbn
          have hb5 := hon
          clear hBn hbn hon
          generalize ((Vb5).setCell ⟨b6, 0, none⟩ (.int .i64 cb)).setCell ⟨b6, 1, none⟩ (.int .i64 db) = Vb6 at *
          refine wpAnyH_done (by kernel_rfl) ?_ _
          go_wp2
          go_meet
          exact ⟨b5, b6, rfl, rfl, hb5, hb6, hBc⟩
       · as_aux_lemma =>
          have hab6 := balloc (Wb5) (.cells #[.int .i64 0, .int .i64 0] 26)
          have hgeb6 : w9.heap.size ≤ (Wb5).heap.size := hBc.size
          have hltb6 : b5 < (Wb5).heap.size := hb5.lt
          replace hb5 := hb5.alloc (.cells #[.int .i64 0, .int .i64 0] 26)
          replace hBc := bcat2 hBc hab6
          have hb6 : Blk ((Wb5).alloc (.cells #[.int .i64 0, .int .i64 0] 26)) (Wb5).heap.size 26 [.int .i64 0, .int .i64 0] := blk0 _ _
          clear hab6
          go_simp
          refine hK.out _ _ (hS _ hBc) (fun hHeld => ?_)
          clear hK
          try simp only [Act.put, List.setIfInBounds_toArray, List.set_cons_zero, List.set_cons_succ]
          generalize (Wb5).alloc (.cells #[.int .i64 0, .int .i64 0] 26) = Wb6 at *
          generalize (Wb5).heap.size = b6 at *
          refine wpAnyH_ready (rs := [1]) (by kernel_rfl) (by simp) (AllReadyH.cons (o := ({ dst := some 57, op := Go.Op.call { callee := Go.Callee.value (Go.Operand.func 18), args := #[Go.Operand.tmp 56], argTypes := #[22] }, type := 26, pos := _, after := _, guard := none } : Oper)) rfl (fun KK hK => ?_) AllReadyH.nil)
          go_simp
          refine (HWF.out _ _ (hsv.below hBc)).mono ?_
          rintro xWf Wf ⟨rfl, hlWf⟩
          replace hBc := bcat2 hBc hlWf
          replace hb5 := hb5.of_eq (hlWf.block _ hb5.lt)
          replace hb6 := hb6.of_eq (hlWf.block _ hb6.lt)
          try go_wp2_with fail
          refine hK.out _ _ (hS _ hBc) (fun hHeld => ?_)
          clear hK
          try simp only [Act.put, List.setIfInBounds_toArray, List.set_cons_zero, List.set_cons_succ]
          refine wpAnyH_ready (rs := [4]) (by kernel_rfl) (by simp) (AllReadyH.cons (o := ({ dst := some 60, op := Go.Op.call { callee := Go.Callee.value (Go.Operand.func 19), args := #[Go.Operand.tmp 58, Go.Operand.tmp 59], argTypes := #[22, 22] }, type := 26, pos := _, after := _, guard := none } : Oper)) rfl (fun KK hK => ?_) AllReadyH.nil)
          go_simp
          refine (HWS.out _ _ _ (hsv.below hBc) (hsu.below hBc)).mono ?_
          rintro xWg Wg ⟨rfl, hlWg⟩
          replace hBc := bcat2 hBc hlWg
          replace hb5 := hb5.of_eq (hlWg.block _ hb5.lt)
          replace hb6 := hb6.of_eq (hlWg.block _ hb6.lt)
          try go_wp2_with fail
          refine hK.out _ _ (hS _ hBc) (fun hHeld => ?_)
          clear hK
          try simp only [Act.put, List.setIfInBounds_toArray, List.set_cons_zero, List.set_cons_succ]
          refine wpAnyH_ready (rs := [7]) (by kernel_rfl) (by simp) (AllReadyH.cons (o := ({ dst := none, op := Go.Op.store 26 (Go.Operand.tmp 16) (Go.Operand.tmp 57), type := 0, pos := _, after := _, guard := none } : Oper)) rfl (fun KK hK => ?_) AllReadyH.nil)
          have hneb5 : ¬ b6 = b5 := by omega
          obtain ⟨p0, p1, p2, p3⟩ := hb5.two
          have hBn : Below w9.heap.size w9 (((Wg).setCell ⟨b5, 0, none⟩ (.int .i64 ca)).setCell ⟨b5, 1, none⟩ (.int .i64 da)) := (hBc.setCell (p := ⟨b5, 0, none⟩) hgeb5 _).setCell (p := ⟨b5, 1, none⟩) hgeb5 _
          have hbn : Blk (((Wg).setCell ⟨b5, 0, none⟩ (.int .i64 ca)).setCell ⟨b5, 1, none⟩ (.int .i64 da)) b5 26 [.int .i64 ca, .int .i64 da] := (hb5.set 0 _).set 1 _
          have hon := (hb6.other (p := ⟨b5, 0, none⟩) hneb5 (.int .i64 ca)).other (p := ⟨b5, 1, none⟩) hneb5 (.int .i64 da)
          go_simp
          refine hK.out _ _ (hS _ hBn) (fun hHeld => ?_)
          clear hK
          try simp only [Act.put, List.setIfInBounds_toArray, List.set_cons_zero, List.set_cons_succ]
          clear p0 p1 p2 p3 hb5 hb6 hBc
          have hBc := hBn
          have hb5 := hbn
          have hb6 := hon
          clear hBn hbn hon
          generalize ((Wg).setCell ⟨b5, 0, none⟩ (.int .i64 ca)).setCell ⟨b5, 1, none⟩ (.int .i64 da) = Vb5 at *
          refine wpAnyH_ready (rs := [8]) (by kernel_rfl) (by simp) (AllReadyH.cons (o := ({ dst := none, op := Go.Op.store 26 (Go.Operand.tmp 17) (Go.Operand.tmp 60), type := 0, pos := _, after := _, guard := none } : Oper)) rfl (fun KK hK => ?_) AllReadyH.nil)
          have hneb6 : ¬ b5 = b6 := by omega
          obtain ⟨p0, p1, p2, p3⟩ := hb6.two
          have hBn : Below w9.heap.size w9 (((Vb5).setCell ⟨b6, 0, none⟩ (.int .i64 cb)).setCell ⟨b6, 1, none⟩ (.int .i64 db)) := (hBc.setCell (p := ⟨b6, 0, none⟩) hgeb6 _).setCell (p := ⟨b6, 1, none⟩) hgeb6 _
          have hbn : Blk (((Vb5).setCell ⟨b6, 0, none⟩ (.int .i64 cb)).setCell ⟨b6, 1, none⟩ (.int .i64 db)) b6 26 [.int .i64 cb, .int .i64 db] := (hb6.set 0 _).set 1 _
          have hon := (hb5.other (p := ⟨b6, 0, none⟩) hneb6 (.int .i64 cb)).other (p := ⟨b6, 1, none⟩) hneb6 (.int .i64 db)
          go_simp
          refine hK.out _ _ (hS _ hBn) (fun hHeld => ?_)
          clear hK
          try simp only [Act.put, List.setIfInBounds_toArray, List.set_cons_zero, List.set_cons_succ]
          clear p0 p1 p2 p3 hb6 hb5 hBc
          have hBc := hBn
          have hb6 := hbn
          have hb5 := hon
          clear hBn hbn hon
          generalize ((Vb5).setCell ⟨b6, 0, none⟩ (.int .i64 cb)).setCell ⟨b6, 1, none⟩ (.int .i64 db) = Vb6 at *
          refine wpAnyH_done (by kernel_rfl) ?_ _
          go_wp2
          go_meet
          exact ⟨b5, b6, rfl, rfl, hb5, hb6, hBc⟩
    · as_aux_lemma =>
       have hab6 := balloc (wd) (.cells #[.int .i64 0, .int .i64 0] 26)
       have hgeb6 : w9.heap.size ≤ (wd).heap.size := hBc.size
       replace hBc := bcat2 hBc hab6
       have hb6 : Blk ((wd).alloc (.cells #[.int .i64 0, .int .i64 0] 26)) (wd).heap.size 26 [.int .i64 0, .int .i64 0] := blk0 _ _
       clear hab6
       go_simp
       refine hK.out _ _ (hS _ hBc) (fun hHeld => ?_)
       clear hK
       try simp only [Act.put, List.setIfInBounds_toArray, List.set_cons_zero, List.set_cons_succ]
       generalize (wd).alloc (.cells #[.int .i64 0, .int .i64 0] 26) = Wb6 at *
       generalize (wd).heap.size = b6 at *
       refine wpAnyH_ready (rs := [1, 5]) (by kernel_rfl) (by simp) (AllReadyH.cons (o := ({ dst := some 57, op := Go.Op.call { callee := Go.Callee.value (Go.Operand.func 18), args := #[Go.Operand.tmp 56], argTypes := #[22] }, type := 26, pos := _, after := _, guard := none } : Oper)) rfl (fun KK hK => ?_) (AllReadyH.cons (o := ({ dst := some 16, op := Go.Op.alloc 26, type := 0, pos := _, after := _, guard := none } : Oper)) rfl (fun KK hK => ?_) AllReadyH.nil))
       · as_aux_lemma =>
          go_simp
          refine (HWF.out _ _ (hsv.below hBc)).mono ?_
          rintro xWf Wf ⟨rfl, hlWf⟩
          replace hBc := bcat2 hBc hlWf
          replace hb6 := hb6.of_eq (hlWf.block _ hb6.lt)
          try go_wp2_with fail
          refine hK.out _ _ (hS _ hBc) (fun hHeld => ?_)
          clear hK
          try simp only [Act.put, List.setIfInBounds_toArray, List.set_cons_zero, List.set_cons_succ]
          refine wpAnyH_ready (rs := [4, 5]) (by kernel_rfl) (by simp) (AllReadyH.cons (o := ({ dst := some 60, op := Go.Op.call { callee := Go.Callee.value (Go.Operand.func 19), args := #[Go.Operand.tmp 58, Go.Operand.tmp 59], argTypes := #[22, 22] }, type := 26, pos := _, after := _, guard := none } : Oper)) rfl (fun KK hK => ?_) (AllReadyH.cons (o := ({ dst := some 16, op := Go.Op.alloc 26, type := 0, pos := _, after := _, guard := none } : Oper)) rfl (fun KK hK => ?_) AllReadyH.nil))
          · go_simp
            refine (HWS.out _ _ _ (hsv.below hBc) (hsu.below hBc)).mono ?_
            rintro xWg Wg ⟨rfl, hlWg⟩
            replace hBc := bcat2 hBc hlWg
            replace hb6 := hb6.of_eq (hlWg.block _ hb6.lt)
            try go_wp2_with fail
            refine hK.out _ _ (hS _ hBc) (fun hHeld => ?_)
            clear hK
            try simp only [Act.put, List.setIfInBounds_toArray, List.set_cons_zero, List.set_cons_succ]
            refine wpAnyH_ready (rs := [5]) (by kernel_rfl) (by simp) (AllReadyH.cons (o := ({ dst := some 16, op := Go.Op.alloc 26, type := 0, pos := _, after := _, guard := none } : Oper)) rfl (fun KK hK => ?_) AllReadyH.nil)
            have hab5 := balloc (Wg) (.cells #[.int .i64 0, .int .i64 0] 26)
            have hgeb5 : w9.heap.size ≤ (Wg).heap.size := hBc.size
            have hltb5 : b6 < (Wg).heap.size := hb6.lt
            replace hb6 := hb6.alloc (.cells #[.int .i64 0, .int .i64 0] 26)
            replace hBc := bcat2 hBc hab5
            have hb5 : Blk ((Wg).alloc (.cells #[.int .i64 0, .int .i64 0] 26)) (Wg).heap.size 26 [.int .i64 0, .int .i64 0] := blk0 _ _
            clear hab5
            go_simp
            refine hK.out _ _ (hS _ hBc) (fun hHeld => ?_)
            clear hK
            try simp only [Act.put, List.setIfInBounds_toArray, List.set_cons_zero, List.set_cons_succ]
            generalize (Wg).alloc (.cells #[.int .i64 0, .int .i64 0] 26) = Wb5 at *
            generalize (Wg).heap.size = b5 at *
            refine wpAnyH_ready (rs := [7]) (by kernel_rfl) (by simp) (AllReadyH.cons (o := ({ dst := none, op := Go.Op.store 26 (Go.Operand.tmp 16) (Go.Operand.tmp 57), type := 0, pos := _, after := _, guard := none } : Oper)) rfl (fun KK hK => ?_) AllReadyH.nil)
            have hneb5 : ¬ b6 = b5 := by omega
            obtain ⟨p0, p1, p2, p3⟩ := hb5.two
            have hBn : Below w9.heap.size w9 (((Wb5).setCell ⟨b5, 0, none⟩ (.int .i64 ca)).setCell ⟨b5, 1, none⟩ (.int .i64 da)) := (hBc.setCell (p := ⟨b5, 0, none⟩) hgeb5 _).setCell (p := ⟨b5, 1, none⟩) hgeb5 _
            have hbn : Blk (((Wb5).setCell ⟨b5, 0, none⟩ (.int .i64 ca)).setCell ⟨b5, 1, none⟩ (.int .i64 da)) b5 26 [.int .i64 ca, .int .i64 da] := (hb5.set 0 _).set 1 _
            have hon := (hb6.other (p := ⟨b5, 0, none⟩) hneb5 (.int .i64 ca)).other (p := ⟨b5, 1, none⟩) hneb5 (.int .i64 da)
            go_simp
            refine hK.out _ _ (hS _ hBn) (fun hHeld => ?_)
            clear hK
            try simp only [Act.put, List.setIfInBounds_toArray, List.set_cons_zero, List.set_cons_succ]
            clear p0 p1 p2 p3 hb5 hb6 hBc
            have hBc := hBn
            have hb5 := hbn
            have hb6 := hon
            clear hBn hbn hon
            generalize ((Wb5).setCell ⟨b5, 0, none⟩ (.int .i64 ca)).setCell ⟨b5, 1, none⟩ (.int .i64 da) = Vb5 at *
            refine wpAnyH_ready (rs := [8]) (by kernel_rfl) (by simp) (AllReadyH.cons (o := ({ dst := none, op := Go.Op.store 26 (Go.Operand.tmp 17) (Go.Operand.tmp 60), type := 0, pos := _, after := _, guard := none } : Oper)) rfl (fun KK hK => ?_) AllReadyH.nil)
            have hneb6 : ¬ b5 = b6 := by omega
            obtain ⟨p0, p1, p2, p3⟩ := hb6.two
            have hBn : Below w9.heap.size w9 (((Vb5).setCell ⟨b6, 0, none⟩ (.int .i64 cb)).setCell ⟨b6, 1, none⟩ (.int .i64 db)) := (hBc.setCell (p := ⟨b6, 0, none⟩) hgeb6 _).setCell (p := ⟨b6, 1, none⟩) hgeb6 _
            have hbn : Blk (((Vb5).setCell ⟨b6, 0, none⟩ (.int .i64 cb)).setCell ⟨b6, 1, none⟩ (.int .i64 db)) b6 26 [.int .i64 cb, .int .i64 db] := (hb6.set 0 _).set 1 _
            have hon := (hb5.other (p := ⟨b6, 0, none⟩) hneb6 (.int .i64 cb)).other (p := ⟨b6, 1, none⟩) hneb6 (.int .i64 db)
            go_simp
            refine hK.out _ _ (hS _ hBn) (fun hHeld => ?_)
            clear hK
            try simp only [Act.put, List.setIfInBounds_toArray, List.set_cons_zero, List.set_cons_succ]
            clear p0 p1 p2 p3 hb6 hb5 hBc
            have hBc := hBn
            have hb6 := hbn
            have hb5 := hon
            clear hBn hbn hon
            generalize ((Vb5).setCell ⟨b6, 0, none⟩ (.int .i64 cb)).setCell ⟨b6, 1, none⟩ (.int .i64 db) = Vb6 at *
            refine wpAnyH_done (by kernel_rfl) ?_ _
            go_wp2
            go_meet
            exact ⟨b5, b6, rfl, rfl, hb5, hb6, hBc⟩
          have hab5 := balloc (Wf) (.cells #[.int .i64 0, .int .i64 0] 26)
          have hgeb5 : w9.heap.size ≤ (Wf).heap.size := hBc.size
          have hltb5 : b6 < (Wf).heap.size := hb6.lt
          replace hb6 := hb6.alloc (.cells #[.int .i64 0, .int .i64 0] 26)
          replace hBc := bcat2 hBc hab5
          have hb5 : Blk ((Wf).alloc (.cells #[.int .i64 0, .int .i64 0] 26)) (Wf).heap.size 26 [.int .i64 0, .int .i64 0] := blk0 _ _
          clear hab5
          go_simp
          refine hK.out _ _ (hS _ hBc) (fun hHeld => ?_)
          clear hK
          try simp only [Act.put, List.setIfInBounds_toArray, List.set_cons_zero, List.set_cons_succ]
          generalize (Wf).alloc (.cells #[.int .i64 0, .int .i64 0] 26) = Wb5 at *
          generalize (Wf).heap.size = b5 at *
          refine wpAnyH_ready (rs := [4]) (by kernel_rfl) (by simp) (AllReadyH.cons (o := ({ dst := some 60, op := Go.Op.call { callee := Go.Callee.value (Go.Operand.func 19), args := #[Go.Operand.tmp 58, Go.Operand.tmp 59], argTypes := #[22, 22] }, type := 26, pos := _, after := _, guard := none } : Oper)) rfl (fun KK hK => ?_) AllReadyH.nil)
          go_simp
          refine (HWS.out _ _ _ (hsv.below hBc) (hsu.below hBc)).mono ?_
          rintro xWg Wg ⟨rfl, hlWg⟩
          replace hBc := bcat2 hBc hlWg
          replace hb5 := hb5.of_eq (hlWg.block _ hb5.lt)
          replace hb6 := hb6.of_eq (hlWg.block _ hb6.lt)
          try go_wp2_with fail
          refine hK.out _ _ (hS _ hBc) (fun hHeld => ?_)
          clear hK
          try simp only [Act.put, List.setIfInBounds_toArray, List.set_cons_zero, List.set_cons_succ]
          refine wpAnyH_ready (rs := [7]) (by kernel_rfl) (by simp) (AllReadyH.cons (o := ({ dst := none, op := Go.Op.store 26 (Go.Operand.tmp 16) (Go.Operand.tmp 57), type := 0, pos := _, after := _, guard := none } : Oper)) rfl (fun KK hK => ?_) AllReadyH.nil)
          have hneb5 : ¬ b6 = b5 := by omega
          obtain ⟨p0, p1, p2, p3⟩ := hb5.two
          have hBn : Below w9.heap.size w9 (((Wg).setCell ⟨b5, 0, none⟩ (.int .i64 ca)).setCell ⟨b5, 1, none⟩ (.int .i64 da)) := (hBc.setCell (p := ⟨b5, 0, none⟩) hgeb5 _).setCell (p := ⟨b5, 1, none⟩) hgeb5 _
          have hbn : Blk (((Wg).setCell ⟨b5, 0, none⟩ (.int .i64 ca)).setCell ⟨b5, 1, none⟩ (.int .i64 da)) b5 26 [.int .i64 ca, .int .i64 da] := (hb5.set 0 _).set 1 _
          have hon := (hb6.other (p := ⟨b5, 0, none⟩) hneb5 (.int .i64 ca)).other (p := ⟨b5, 1, none⟩) hneb5 (.int .i64 da)
          go_simp
          refine hK.out _ _ (hS _ hBn) (fun hHeld => ?_)
          clear hK
          try simp only [Act.put, List.setIfInBounds_toArray, List.set_cons_zero, List.set_cons_succ]
          clear p0 p1 p2 p3 hb5 hb6 hBc
          have hBc := hBn
          have hb5 := hbn
          have hb6 := hon
          clear hBn hbn hon
          generalize ((Wg).setCell ⟨b5, 0, none⟩ (.int .i64 ca)).setCell ⟨b5, 1, none⟩ (.int .i64 da) = Vb5 at *
          refine wpAnyH_ready (rs := [8]) (by kernel_rfl) (by simp) (AllReadyH.cons (o := ({ dst := none, op := Go.Op.store 26 (Go.Operand.tmp 17) (Go.Operand.tmp 60), type := 0, pos := _, after := _, guard := none } : Oper)) rfl (fun KK hK => ?_) AllReadyH.nil)
          have hneb6 : ¬ b5 = b6 := by omega
          obtain ⟨p0, p1, p2, p3⟩ := hb6.two
          have hBn : Below w9.heap.size w9 (((Vb5).setCell ⟨b6, 0, none⟩ (.int .i64 cb)).setCell ⟨b6, 1, none⟩ (.int .i64 db)) := (hBc.setCell (p := ⟨b6, 0, none⟩) hgeb6 _).setCell (p := ⟨b6, 1, none⟩) hgeb6 _
          have hbn : Blk (((Vb5).setCell ⟨b6, 0, none⟩ (.int .i64 cb)).setCell ⟨b6, 1, none⟩ (.int .i64 db)) b6 26 [.int .i64 cb, .int .i64 db] := (hb6.set 0 _).set 1 _
          have hon := (hb5.other (p := ⟨b6, 0, none⟩) hneb6 (.int .i64 cb)).other (p := ⟨b6, 1, none⟩) hneb6 (.int .i64 db)
          go_simp
          refine hK.out _ _ (hS _ hBn) (fun hHeld => ?_)
          clear hK
          try simp only [Act.put, List.setIfInBounds_toArray, List.set_cons_zero, List.set_cons_succ]
          clear p0 p1 p2 p3 hb6 hb5 hBc
          have hBc := hBn
          have hb6 := hbn
          have hb5 := hon
          clear hBn hbn hon
          generalize ((Vb5).setCell ⟨b6, 0, none⟩ (.int .i64 cb)).setCell ⟨b6, 1, none⟩ (.int .i64 db) = Vb6 at *
          refine wpAnyH_done (by kernel_rfl) ?_ _
          go_wp2
          go_meet
          exact ⟨b5, b6, rfl, rfl, hb5, hb6, hBc⟩
       · as_aux_lemma =>
          have hab5 := balloc (Wb6) (.cells #[.int .i64 0, .int .i64 0] 26)
          have hgeb5 : w9.heap.size ≤ (Wb6).heap.size := hBc.size
          have hltb5 : b6 < (Wb6).heap.size := hb6.lt
          replace hb6 := hb6.alloc (.cells #[.int .i64 0, .int .i64 0] 26)
          replace hBc := bcat2 hBc hab5
          have hb5 : Blk ((Wb6).alloc (.cells #[.int .i64 0, .int .i64 0] 26)) (Wb6).heap.size 26 [.int .i64 0, .int .i64 0] := blk0 _ _
          clear hab5
          go_simp
          refine hK.out _ _ (hS _ hBc) (fun hHeld => ?_)
          clear hK
          try simp only [Act.put, List.setIfInBounds_toArray, List.set_cons_zero, List.set_cons_succ]
          generalize (Wb6).alloc (.cells #[.int .i64 0, .int .i64 0] 26) = Wb5 at *
          generalize (Wb6).heap.size = b5 at *
          refine wpAnyH_ready (rs := [1]) (by kernel_rfl) (by simp) (AllReadyH.cons (o := ({ dst := some 57, op := Go.Op.call { callee := Go.Callee.value (Go.Operand.func 18), args := #[Go.Operand.tmp 56], argTypes := #[22] }, type := 26, pos := _, after := _, guard := none } : Oper)) rfl (fun KK hK => ?_) AllReadyH.nil)
          go_simp
          refine (HWF.out _ _ (hsv.below hBc)).mono ?_
          rintro xWf Wf ⟨rfl, hlWf⟩
          replace hBc := bcat2 hBc hlWf
          replace hb5 := hb5.of_eq (hlWf.block _ hb5.lt)
          replace hb6 := hb6.of_eq (hlWf.block _ hb6.lt)
          try go_wp2_with fail
          refine hK.out _ _ (hS _ hBc) (fun hHeld => ?_)
          clear hK
          try simp only [Act.put, List.setIfInBounds_toArray, List.set_cons_zero, List.set_cons_succ]
          refine wpAnyH_ready (rs := [4]) (by kernel_rfl) (by simp) (AllReadyH.cons (o := ({ dst := some 60, op := Go.Op.call { callee := Go.Callee.value (Go.Operand.func 19), args := #[Go.Operand.tmp 58, Go.Operand.tmp 59], argTypes := #[22, 22] }, type := 26, pos := _, after := _, guard := none } : Oper)) rfl (fun KK hK => ?_) AllReadyH.nil)
          go_simp
          refine (HWS.out _ _ _ (hsv.below hBc) (hsu.below hBc)).mono ?_
          rintro xWg Wg ⟨rfl, hlWg⟩
          replace hBc := bcat2 hBc hlWg
          replace hb5 := hb5.of_eq (hlWg.block _ hb5.lt)
          replace hb6 := hb6.of_eq (hlWg.block _ hb6.lt)
          try go_wp2_with fail
          refine hK.out _ _ (hS _ hBc) (fun hHeld => ?_)
          clear hK
          try simp only [Act.put, List.setIfInBounds_toArray, List.set_cons_zero, List.set_cons_succ]
          refine wpAnyH_ready (rs := [7]) (by kernel_rfl) (by simp) (AllReadyH.cons (o := ({ dst := none, op := Go.Op.store 26 (Go.Operand.tmp 16) (Go.Operand.tmp 57), type := 0, pos := _, after := _, guard := none } : Oper)) rfl (fun KK hK => ?_) AllReadyH.nil)
          have hneb5 : ¬ b6 = b5 := by omega
          obtain ⟨p0, p1, p2, p3⟩ := hb5.two
          have hBn : Below w9.heap.size w9 (((Wg).setCell ⟨b5, 0, none⟩ (.int .i64 ca)).setCell ⟨b5, 1, none⟩ (.int .i64 da)) := (hBc.setCell (p := ⟨b5, 0, none⟩) hgeb5 _).setCell (p := ⟨b5, 1, none⟩) hgeb5 _
          have hbn : Blk (((Wg).setCell ⟨b5, 0, none⟩ (.int .i64 ca)).setCell ⟨b5, 1, none⟩ (.int .i64 da)) b5 26 [.int .i64 ca, .int .i64 da] := (hb5.set 0 _).set 1 _
          have hon := (hb6.other (p := ⟨b5, 0, none⟩) hneb5 (.int .i64 ca)).other (p := ⟨b5, 1, none⟩) hneb5 (.int .i64 da)
          go_simp
          refine hK.out _ _ (hS _ hBn) (fun hHeld => ?_)
          clear hK
          try simp only [Act.put, List.setIfInBounds_toArray, List.set_cons_zero, List.set_cons_succ]
          clear p0 p1 p2 p3 hb5 hb6 hBc
          have hBc := hBn
          have hb5 := hbn
          have hb6 := hon
          clear hBn hbn hon
          generalize ((Wg).setCell ⟨b5, 0, none⟩ (.int .i64 ca)).setCell ⟨b5, 1, none⟩ (.int .i64 da) = Vb5 at *
          refine wpAnyH_ready (rs := [8]) (by kernel_rfl) (by simp) (AllReadyH.cons (o := ({ dst := none, op := Go.Op.store 26 (Go.Operand.tmp 17) (Go.Operand.tmp 60), type := 0, pos := _, after := _, guard := none } : Oper)) rfl (fun KK hK => ?_) AllReadyH.nil)
          have hneb6 : ¬ b5 = b6 := by omega
          obtain ⟨p0, p1, p2, p3⟩ := hb6.two
          have hBn : Below w9.heap.size w9 (((Vb5).setCell ⟨b6, 0, none⟩ (.int .i64 cb)).setCell ⟨b6, 1, none⟩ (.int .i64 db)) := (hBc.setCell (p := ⟨b6, 0, none⟩) hgeb6 _).setCell (p := ⟨b6, 1, none⟩) hgeb6 _
          have hbn : Blk (((Vb5).setCell ⟨b6, 0, none⟩ (.int .i64 cb)).setCell ⟨b6, 1, none⟩ (.int .i64 db)) b6 26 [.int .i64 cb, .int .i64 db] := (hb6.set 0 _).set 1 _
          have hon := (hb5.other (p := ⟨b6, 0, none⟩) hneb6 (.int .i64 cb)).other (p := ⟨b6, 1, none⟩) hneb6 (.int .i64 db)
          go_simp
          refine hK.out _ _ (hS _ hBn) (fun hHeld => ?_)
          clear hK
          try simp only [Act.put, List.setIfInBounds_toArray, List.set_cons_zero, List.set_cons_succ]
          clear p0 p1 p2 p3 hb6 hb5 hBc
          have hBc := hBn
          have hb6 := hbn
          have hb5 := hon
          clear hBn hbn hon
          generalize ((Vb5).setCell ⟨b6, 0, none⟩ (.int .i64 cb)).setCell ⟨b6, 1, none⟩ (.int .i64 db) = Vb6 at *
          refine wpAnyH_done (by kernel_rfl) ?_ _
          go_wp2
          go_meet
          exact ⟨b5, b6, rfl, rfl, hb5, hb6, hBc⟩
  obtain ⟨b5, b6, rfl, rfl, hb5, hb6, hb8⟩ := hcut
  clear hS hS0 hBc
  replace hsv := hsv.below hb8
  replace hsu := hsu.below hb8
  replace hsx := hsx.below hb8
  replace hsy := hsy.below hb8
  replace hsr := fun h => (hsr h).below hb8
  replace hsm := fun h => (hsm h).below hb8
  replace hsi := fun h => (hsi h).below hb8
  replace hx2 := Boxed.below hx2 hb8
  replace hx3 := Boxed.below hx3 hb8
  replace b7 : Blk (wc) w2.heap.size 26 [.int .i64 ca, .int .i64 da] := Blk.of_eq b7 (hb8.block _ b7.lt)
  replace b9 : Blk (wc) w5.heap.size 26 [.int .i64 ca, .int .i64 da] := Blk.of_eq b9 (hb8.block _ b9.lt)
  replace b11 : Blk (wc) w8.heap.size 26 [.int .i64 cb, .int .i64 db] := Blk.of_eq b11 (hb8.block _ b11.lt)
  replace b13 : Blk (wc) w11.heap.size 26 [.int .i64 ca, .int .i64 da] := Blk.of_eq b13 (hb8.block _ b13.lt)
  replace b15 : Blk (wc) w14.heap.size 26 [.int .i64 cb, .int .i64 db] := Blk.of_eq b15 (hb8.block _ b15.lt)
  replace hB := bcat hB hb8 hge
  replace hge := hB.size
  have hS : ∀ W, Below wc.heap.size wc W → (Below wc.heap.size wc W ∧ W.cell? ⟨w2.heap.size, 0, none⟩ = some (.int .i64 ca) ∧ W.cell? ⟨w2.heap.size, 1, none⟩ = some (.int .i64 da) ∧ W.cell? ⟨w14.heap.size, 0, none⟩ = some (.int .i64 cb) ∧ W.cell? ⟨w14.heap.size, 1, none⟩ = some (.int .i64 db) ∧ W.cell? ⟨b5, 0, none⟩ = some (.int .i64 ca) ∧ W.cell? ⟨b5, 1, none⟩ = some (.int .i64 da) ∧ W.cell? ⟨b6, 0, none⟩ = some (.int .i64 cb) ∧ W.cell? ⟨b6, 1, none⟩ = some (.int .i64 db) ∧ W.cell? ⟨w.heap.size, 0, none⟩ = some (.slice va vs.length vc) ∧ W.cell? ⟨w.heap.size + 1, 0, none⟩ = some (.slice ua us.length uc)) := fun W h => by
    obtain ⟨e1, e2, _, _⟩ := (b7.of_eq (h.block _ b7.lt)).two
    obtain ⟨e3, e4, _, _⟩ := (b15.of_eq (h.block _ b15.lt)).two
    obtain ⟨e5, e6, _, _⟩ := (hb5.of_eq (h.block _ hb5.lt)).two
    obtain ⟨e7, e8, _, _⟩ := (hb6.of_eq (h.block _ hb6.lt)).two
    exact ⟨h, e1, e2, e3, e4, e5, e6, e7, e8, (Boxed.below hx2 h).cell, (Boxed.below hx3 h).cell⟩
  have hBc : Below wc.heap.size wc wc.drew := bdrew (Below.refl _ _)
  have hS0 := hS _ hBc
  have hlen : vs.length + us.length ≤ 1000000 ∧ us.length + vs.length ≤ 1000000 := by omega
  go_wp2_with fail
  go_cut [98] (fun s98 wx => s98 = .bool false ∧ Below wc.heap.size wc wx)
  case first =>
    by_cases hcb : cb = 0
    · have hke : kv = E := by rw [← HKV.out, decide_eq_true hcb]; rfl
      obtain ⟨hwv, hwu⟩ := HBW.out hcb
      have HWV := hide hwv
      have HWU := hide hwu
      subst hke
      subst hcb
      clear hwv hwu
      refine wp_region_held_drew (S := fun W => Below wc.heap.size wc W ∧ W.cell? ⟨w2.heap.size, 0, none⟩ = some (.int .i64 ca) ∧ W.cell? ⟨w2.heap.size, 1, none⟩ = some (.int .i64 da) ∧ W.cell? ⟨w14.heap.size, 0, none⟩ = some (.int .i64 0) ∧ W.cell? ⟨w14.heap.size, 1, none⟩ = some (.int .i64 db) ∧ W.cell? ⟨b5, 0, none⟩ = some (.int .i64 ca) ∧ W.cell? ⟨b5, 1, none⟩ = some (.int .i64 da) ∧ W.cell? ⟨b6, 0, none⟩ = some (.int .i64 0) ∧ W.cell? ⟨b6, 1, none⟩ = some (.int .i64 db) ∧ W.cell? ⟨w.heap.size, 0, none⟩ = some (.slice va vs.length vc) ∧ W.cell? ⟨w.heap.size + 1, 0, none⟩ = some (.slice ua us.length uc)) (by kernel_rfl) hS0 (fun hHeld => ?_)
      generalize wc.drew = wd at *
      refine wpAnyH_take (i := 0) (oi := ({ dst := some 61, op := Go.Op.load 26 (Go.Operand.tmp 7), type := 26, pos := _, after := _, guard := none } : Oper)) (v := ?_) rfl (by kernel_rfl) (by kernel_rfl) (by kernel_rfl) (fun _ _ _ h => h) (Or.inl ⟨by rfl, ?_⟩) (by assumption) ?_
      rotate_left
      · (intro w hSw; (try dsimp only at hSw); go_simp; try with_reducible rfl)
      simp only [Act.put, List.setIfInBounds_toArray, List.set_cons_zero, List.set_cons_succ]
      refine wpAnyH_take (i := 1) (oi := ({ dst := some 62, op := Go.Op.load 26 (Go.Operand.tmp 16), type := 26, pos := _, after := _, guard := none } : Oper)) (v := ?_) rfl (by kernel_rfl) (by kernel_rfl) (by kernel_rfl) (fun _ _ _ h => h) (Or.inl ⟨by rfl, ?_⟩) (by assumption) ?_
      rotate_left
      · (intro w hSw; (try dsimp only at hSw); go_simp; try with_reducible rfl)
      simp only [Act.put, List.setIfInBounds_toArray, List.set_cons_zero, List.set_cons_succ]
      refine wpAnyH_take (i := 2) (oi := ({ dst := some 63, op := Go.Op.binOp Go.BinOp.neq 26 (Go.Operand.tmp 61) (Go.Operand.tmp 62) 26, type := 4, pos := _, after := _, guard := none } : Oper)) (v := ?_) rfl (by kernel_rfl) (by kernel_rfl) (by kernel_rfl) (fun _ _ _ h => h) (Or.inl ⟨by rfl, ?_⟩) (by assumption) ?_
      rotate_left
      · (intro w hSw; (try dsimp only at hSw); go_simp; try with_reducible rfl)
      simp only [Act.put, List.setIfInBounds_toArray, List.set_cons_zero, List.set_cons_succ]
      refine wpAnyH_take (i := 3) (oi := ({ dst := some 64, op := Go.Op.move (Go.Operand.tmp 63), type := 4, pos := _, after := _, guard := none } : Oper)) (v := ?_) rfl (by kernel_rfl) (by kernel_rfl) (by kernel_rfl) (fun _ _ _ h => h) (Or.inl ⟨by rfl, ?_⟩) (by assumption) ?_
      rotate_left
      · (intro w hSw; (try dsimp only at hSw); go_simp; try with_reducible rfl)
      simp only [Act.put, List.setIfInBounds_toArray, List.set_cons_zero, List.set_cons_succ]
      refine wpAnyH_take (i := 4) (oi := ({ dst := some 65, op := Go.Op.move (Go.Operand.tmp 5), type := 22, pos := _, after := _, guard := some (3, false) } : Oper)) (v := ?_) rfl (by kernel_rfl) (by kernel_rfl) (by kernel_rfl) (fun _ _ _ h => h) (Or.inl ⟨by rfl, ?_⟩) (by assumption) ?_
      rotate_left
      · (intro w hSw; (try dsimp only at hSw); go_simp; try with_reducible rfl)
      simp only [Act.put, List.setIfInBounds_toArray, List.set_cons_zero, List.set_cons_succ]
      refine wpAnyH_take (i := 5) (oi := ({ dst := some 66, op := Go.Op.load 22 (Go.Operand.tmp 2), type := 22, pos := _, after := _, guard := some (3, false) } : Oper)) (v := ?_) rfl (by kernel_rfl) (by kernel_rfl) (by kernel_rfl) (fun _ _ _ h => h) (Or.inl ⟨by rfl, ?_⟩) (by assumption) ?_
      rotate_left
      · (intro w hSw; (try dsimp only at hSw); go_simp; try with_reducible rfl)
      simp only [Act.put, List.setIfInBounds_toArray, List.set_cons_zero, List.set_cons_succ]
      refine wpAnyH_ready (rs := [6]) (by kernel_rfl) (by simp) (AllReadyH.cons (o := ({ dst := some 67, op := Go.Op.call { callee := Go.Callee.value (Go.Operand.func 20), args := #[Go.Operand.tmp 65, Go.Operand.tmp 66], argTypes := #[22, 22] }, type := 4, pos := _, after := _, guard := some (3, false) } : Oper)) rfl (fun KK hK => ?_) AllReadyH.nil)
      go_simp
      refine (ints_true _ _ _ _ _ (hsx.below hBc) (hsv.below hBc) rfl).mono ?_
      rintro xWi Wi ⟨rfl, hlWi⟩
      replace hBc := bcat2 hBc hlWi
      try go_wp2_with fail
      refine hK.out _ _ (hS _ hBc) (fun hHeld => ?_)
      clear hK
      try simp only [Act.put, List.setIfInBounds_toArray, List.set_cons_zero, List.set_cons_succ]
      refine wpAnyH_take (i := 7) (oi := ({ dst := some 68, op := Go.Op.unOp Go.UnOp.not 4 (Go.Operand.tmp 67), type := 4, pos := _, after := _, guard := some (3, false) } : Oper)) (v := ?_) rfl (by kernel_rfl) (by kernel_rfl) (by kernel_rfl) (fun _ _ _ h => h) (Or.inl ⟨by rfl, ?_⟩) (by assumption) ?_
      rotate_left
      · (intro w hSw; (try dsimp only at hSw); go_simp; try with_reducible rfl)
      simp only [Act.put, List.setIfInBounds_toArray, List.set_cons_zero, List.set_cons_succ]
      refine wpAnyH_take (i := 8) (oi := ({ dst := some 69, op := Go.Op.pick (Go.Operand.tmp 64) (Go.Operand.const (Go.Value.bool true)) (Go.Operand.tmp 68), type := 4, pos := _, after := _, guard := none } : Oper)) (v := ?_) rfl (by kernel_rfl) (by kernel_rfl) (by kernel_rfl) (fun _ _ _ h => h) (Or.inl ⟨by rfl, ?_⟩) (by assumption) ?_
      rotate_left
      · (intro w hSw; (try dsimp only at hSw); go_simp; try with_reducible rfl)
      simp only [Act.put, List.setIfInBounds_toArray, List.set_cons_zero, List.set_cons_succ]
      refine wpAnyH_take (i := 9) (oi := ({ dst := some 70, op := Go.Op.move (Go.Operand.tmp 69), type := 4, pos := _, after := _, guard := none } : Oper)) (v := ?_) rfl (by kernel_rfl) (by kernel_rfl) (by kernel_rfl) (fun _ _ _ h => h) (Or.inl ⟨by rfl, ?_⟩) (by assumption) ?_
      rotate_left
      · (intro w hSw; (try dsimp only at hSw); go_simp; try with_reducible rfl)
      simp only [Act.put, List.setIfInBounds_toArray, List.set_cons_zero, List.set_cons_succ]
      refine wpAnyH_take (i := 10) (oi := ({ dst := some 71, op := Go.Op.move (Go.Operand.tmp 6), type := 22, pos := _, after := _, guard := some (9, false) } : Oper)) (v := ?_) rfl (by kernel_rfl) (by kernel_rfl) (by kernel_rfl) (fun _ _ _ h => h) (Or.inl ⟨by rfl, ?_⟩) (by assumption) ?_
      rotate_left
      · (intro w hSw; (try dsimp only at hSw); go_simp; try with_reducible rfl)
      simp only [Act.put, List.setIfInBounds_toArray, List.set_cons_zero, List.set_cons_succ]
      refine wpAnyH_take (i := 11) (oi := ({ dst := some 72, op := Go.Op.load 22 (Go.Operand.tmp 3), type := 22, pos := _, after := _, guard := some (9, false) } : Oper)) (v := ?_) rfl (by kernel_rfl) (by kernel_rfl) (by kernel_rfl) (fun _ _ _ h => h) (Or.inl ⟨by rfl, ?_⟩) (by assumption) ?_
      rotate_left
      · (intro w hSw; (try dsimp only at hSw); go_simp; try with_reducible rfl)
      simp only [Act.put, List.setIfInBounds_toArray, List.set_cons_zero, List.set_cons_succ]
      refine wpAnyH_ready (rs := [12]) (by kernel_rfl) (by simp) (AllReadyH.cons (o := ({ dst := some 73, op := Go.Op.call { callee := Go.Callee.value (Go.Operand.func 20), args := #[Go.Operand.tmp 71, Go.Operand.tmp 72], argTypes := #[22, 22] }, type := 4, pos := _, after := _, guard := some (9, false) } : Oper)) rfl (fun KK hK => ?_) AllReadyH.nil)
      go_simp
      refine (ints_true _ _ _ _ _ (hsy.below hBc) (hsu.below hBc) rfl).mono ?_
      rintro xWj Wj ⟨rfl, hlWj⟩
      replace hBc := bcat2 hBc hlWj
      try go_wp2_with fail
      refine hK.out _ _ (hS _ hBc) (fun hHeld => ?_)
      clear hK
      try simp only [Act.put, List.setIfInBounds_toArray, List.set_cons_zero, List.set_cons_succ]
      refine wpAnyH_take (i := 13) (oi := ({ dst := some 74, op := Go.Op.unOp Go.UnOp.not 4 (Go.Operand.tmp 73), type := 4, pos := _, after := _, guard := some (9, false) } : Oper)) (v := ?_) rfl (by kernel_rfl) (by kernel_rfl) (by kernel_rfl) (fun _ _ _ h => h) (Or.inl ⟨by rfl, ?_⟩) (by assumption) ?_
      rotate_left
      · (intro w hSw; (try dsimp only at hSw); go_simp; try with_reducible rfl)
      simp only [Act.put, List.setIfInBounds_toArray, List.set_cons_zero, List.set_cons_succ]
      refine wpAnyH_take (i := 14) (oi := ({ dst := some 75, op := Go.Op.pick (Go.Operand.tmp 70) (Go.Operand.const (Go.Value.bool true)) (Go.Operand.tmp 74), type := 4, pos := _, after := _, guard := none } : Oper)) (v := ?_) rfl (by kernel_rfl) (by kernel_rfl) (by kernel_rfl) (fun _ _ _ h => h) (Or.inl ⟨by rfl, ?_⟩) (by assumption) ?_
      rotate_left
      · (intro w hSw; (try dsimp only at hSw); go_simp; try with_reducible rfl)
      simp only [Act.put, List.setIfInBounds_toArray, List.set_cons_zero, List.set_cons_succ]
      refine wpAnyH_take (i := 15) (oi := ({ dst := some 76, op := Go.Op.move (Go.Operand.tmp 75), type := 4, pos := _, after := _, guard := none } : Oper)) (v := ?_) rfl (by kernel_rfl) (by kernel_rfl) (by kernel_rfl) (fun _ _ _ h => h) (Or.inl ⟨by rfl, ?_⟩) (by assumption) ?_
      rotate_left
      · (intro w hSw; (try dsimp only at hSw); go_simp; try with_reducible rfl)
      simp only [Act.put, List.setIfInBounds_toArray, List.set_cons_zero, List.set_cons_succ]
      refine wpAnyH_take (i := 16) (oi := ({ dst := some 77, op := Go.Op.load 26 (Go.Operand.tmp 15), type := 26, pos := _, after := _, guard := some (15, false) } : Oper)) (v := ?_) rfl (by kernel_rfl) (by kernel_rfl) (by kernel_rfl) (fun _ _ _ h => h) (Or.inl ⟨by rfl, ?_⟩) (by assumption) ?_
      rotate_left
      · (intro w hSw; (try dsimp only at hSw); go_simp; try with_reducible rfl)
      simp only [Act.put, List.setIfInBounds_toArray, List.set_cons_zero, List.set_cons_succ]
      refine wpAnyH_take (i := 17) (oi := ({ dst := some 78, op := Go.Op.load 26 (Go.Operand.tmp 17), type := 26, pos := _, after := _, guard := some (15, false) } : Oper)) (v := ?_) rfl (by kernel_rfl) (by kernel_rfl) (by kernel_rfl) (fun _ _ _ h => h) (Or.inl ⟨by rfl, ?_⟩) (by assumption) ?_
      rotate_left
      · (intro w hSw; (try dsimp only at hSw); go_simp; try with_reducible rfl)
      simp only [Act.put, List.setIfInBounds_toArray, List.set_cons_zero, List.set_cons_succ]
      refine wpAnyH_take (i := 18) (oi := ({ dst := some 79, op := Go.Op.binOp Go.BinOp.neq 26 (Go.Operand.tmp 77) (Go.Operand.tmp 78) 26, type := 4, pos := _, after := _, guard := some (15, false) } : Oper)) (v := ?_) rfl (by kernel_rfl) (by kernel_rfl) (by kernel_rfl) (fun _ _ _ h => h) (Or.inl ⟨by rfl, ?_⟩) (by assumption) ?_
      rotate_left
      · (intro w hSw; (try dsimp only at hSw); go_simp; try with_reducible rfl)
      simp only [Act.put, List.setIfInBounds_toArray, List.set_cons_zero, List.set_cons_succ]
      refine wpAnyH_take (i := 19) (oi := ({ dst := some 80, op := Go.Op.pick (Go.Operand.tmp 76) (Go.Operand.const (Go.Value.bool true)) (Go.Operand.tmp 79), type := 4, pos := _, after := _, guard := none } : Oper)) (v := ?_) rfl (by kernel_rfl) (by kernel_rfl) (by kernel_rfl) (fun _ _ _ h => h) (Or.inl ⟨by rfl, ?_⟩) (by assumption) ?_
      rotate_left
      · (intro w hSw; (try dsimp only at hSw); go_simp; try with_reducible rfl)
      simp only [Act.put, List.setIfInBounds_toArray, List.set_cons_zero, List.set_cons_succ]
      refine wpAnyH_take (i := 20) (oi := ({ dst := some 81, op := Go.Op.move (Go.Operand.tmp 80), type := 4, pos := _, after := _, guard := none } : Oper)) (v := ?_) rfl (by kernel_rfl) (by kernel_rfl) (by kernel_rfl) (fun _ _ _ h => h) (Or.inl ⟨by rfl, ?_⟩) (by assumption) ?_
      rotate_left
      · (intro w hSw; (try dsimp only at hSw); go_simp; try with_reducible rfl)
      simp only [Act.put, List.setIfInBounds_toArray, List.set_cons_zero, List.set_cons_succ]
      refine wpAnyH_take (i := 21) (oi := ({ dst := some 82, op := Go.Op.move (Go.Operand.tmp 14), type := 4, pos := _, after := _, guard := some (20, false) } : Oper)) (v := ?_) rfl (by kernel_rfl) (by kernel_rfl) (by kernel_rfl) (fun _ _ _ h => h) (Or.inl ⟨by rfl, ?_⟩) (by assumption) ?_
      rotate_left
      · (intro w hSw; (try dsimp only at hSw); go_simp; try with_reducible rfl)
      simp only [Act.put, List.setIfInBounds_toArray, List.set_cons_zero, List.set_cons_succ]
      refine wpAnyH_take (i := 22) (oi := ({ dst := some 83, op := Go.Op.fieldAddr 26 (Go.Operand.tmp 17) 0, type := 0, pos := _, after := _, guard := some (20, false) } : Oper)) (v := ?_) rfl (by kernel_rfl) (by kernel_rfl) (by kernel_rfl) (fun _ _ _ h => h) (Or.inl ⟨by rfl, ?_⟩) (by assumption) ?_
      rotate_left
      · (intro w hSw; (try dsimp only at hSw); go_simp; try with_reducible rfl)
      simp only [Act.put, List.setIfInBounds_toArray, List.set_cons_zero, List.set_cons_succ]
      refine wpAnyH_take (i := 23) (oi := ({ dst := some 84, op := Go.Op.load 3 (Go.Operand.tmp 83), type := 3, pos := _, after := _, guard := some (20, false) } : Oper)) (v := ?_) rfl (by kernel_rfl) (by kernel_rfl) (by kernel_rfl) (fun _ _ _ h => h) (Or.inl ⟨by rfl, ?_⟩) (by assumption) ?_
      rotate_left
      · (intro w hSw; (try dsimp only at hSw); go_simp; try with_reducible rfl)
      simp only [Act.put, List.setIfInBounds_toArray, List.set_cons_zero, List.set_cons_succ]
      refine wpAnyH_take (i := 24) (oi := ({ dst := some 85, op := Go.Op.binOp Go.BinOp.eql 3 (Go.Operand.tmp 84) (Go.Operand.const (Go.Value.int Go.IntKind.i64 0)) 3, type := 4, pos := _, after := _, guard := some (20, false) } : Oper)) (v := ?_) rfl (by kernel_rfl) (by kernel_rfl) (by kernel_rfl) (fun _ _ _ h => h) (Or.inl ⟨by rfl, ?_⟩) (by assumption) ?_
      rotate_left
      · (intro w hSw; (try dsimp only at hSw); go_simp; try with_reducible rfl)
      simp only [Act.put, List.setIfInBounds_toArray, List.set_cons_zero, List.set_cons_succ]
      refine wpAnyH_take (i := 25) (oi := ({ dst := some 86, op := Go.Op.move (Go.Operand.tmp 85), type := 4, pos := _, after := _, guard := some (20, false) } : Oper)) (v := ?_) rfl (by kernel_rfl) (by kernel_rfl) (by kernel_rfl) (fun _ _ _ h => h) (Or.inl ⟨by rfl, ?_⟩) (by assumption) ?_
      rotate_left
      · (intro w hSw; (try dsimp only at hSw); go_simp; try with_reducible rfl)
      simp only [Act.put, List.setIfInBounds_toArray, List.set_cons_zero, List.set_cons_succ]
      refine wpAnyH_take (i := 26) (oi := ({ dst := some 87, op := Go.Op.load 22 (Go.Operand.tmp 2), type := 22, pos := _, after := _, guard := some (25, true) } : Oper)) (v := ?_) rfl (by kernel_rfl) (by kernel_rfl) (by kernel_rfl) (fun _ _ _ h => h) (Or.inl ⟨by rfl, ?_⟩) (by assumption) ?_
      rotate_left
      · (intro w hSw; (try dsimp only at hSw); go_simp; try with_reducible rfl)
      simp only [Act.put, List.setIfInBounds_toArray, List.set_cons_zero, List.set_cons_succ]
      refine wpAnyH_take (i := 27) (oi := ({ dst := some 88, op := Go.Op.load 22 (Go.Operand.tmp 3), type := 22, pos := _, after := _, guard := some (25, true) } : Oper)) (v := ?_) rfl (by kernel_rfl) (by kernel_rfl) (by kernel_rfl) (fun _ _ _ h => h) (Or.inl ⟨by rfl, ?_⟩) (by assumption) ?_
      rotate_left
      · (intro w hSw; (try dsimp only at hSw); go_simp; try with_reducible rfl)
      simp only [Act.put, List.setIfInBounds_toArray, List.set_cons_zero, List.set_cons_succ]
      refine wpAnyH_take (i := 30) (oi := ({ dst := some 91, op := Go.Op.load 22 (Go.Operand.tmp 3), type := 22, pos := _, after := _, guard := some (25, true) } : Oper)) (v := ?_) rfl (by kernel_rfl) (by kernel_rfl) (by kernel_rfl) (fun _ _ _ h => h) (Or.inl ⟨by rfl, ?_⟩) (by assumption) ?_
      rotate_left
      · (intro w hSw; (try dsimp only at hSw); go_simp; try with_reducible rfl)
      simp only [Act.put, List.setIfInBounds_toArray, List.set_cons_zero, List.set_cons_succ]
      refine wpAnyH_take (i := 31) (oi := ({ dst := some 92, op := Go.Op.load 22 (Go.Operand.tmp 2), type := 22, pos := _, after := _, guard := some (25, true) } : Oper)) (v := ?_) rfl (by kernel_rfl) (by kernel_rfl) (by kernel_rfl) (fun _ _ _ h => h) (Or.inl ⟨by rfl, ?_⟩) (by assumption) ?_
      rotate_left
      · (intro w hSw; (try dsimp only at hSw); go_simp; try with_reducible rfl)
      simp only [Act.put, List.setIfInBounds_toArray, List.set_cons_zero, List.set_cons_succ]
      refine wpAnyH_ready (rs := [28, 32]) (by kernel_rfl) (by simp) (AllReadyH.cons (o := ({ dst := some 89, op := Go.Op.buildSlice 54 2 #[(0, Go.Operand.tmp 87), (1, Go.Operand.tmp 88)], type := 54, pos := _, after := _, guard := some (25, true) } : Oper)) rfl (fun KK hK => ?_) (AllReadyH.cons (o := ({ dst := some 93, op := Go.Op.buildSlice 54 2 #[(0, Go.Operand.tmp 91), (1, Go.Operand.tmp 92)], type := 54, pos := _, after := _, guard := some (25, true) } : Oper)) rfl (fun KK hK => ?_) AllReadyH.nil))
      · have hap := balloc (Wj) (.cells #[.slice va vs.length vc, .slice ua us.length uc] 22)
        have hLp : SlW ((Wj).alloc (.cells #[.slice va vs.length vc, .slice ua us.length uc] 22)) (.slice (some ⟨(Wj).heap.size, 0, none⟩) 2 2) [vs, us] := SlW.two (hsv.below hBc) (hsu.below hBc)
        replace hBc := bcat2 hBc hap
        clear hap
        go_simp
        refine hK.out _ _ (hS _ hBc) (fun hHeld => ?_)
        clear hK
        try simp only [Act.put, List.setIfInBounds_toArray, List.set_cons_zero, List.set_cons_succ]
        generalize (Wj).alloc (.cells #[.slice va vs.length vc, .slice ua us.length uc] 22) = WLp at *
        generalize (Wj).heap.size = lp at *
        refine wpAnyH_ready (rs := [29, 32]) (by kernel_rfl) (by simp) (AllReadyH.cons (o := ({ dst := some 90, op := Go.Op.call { callee := Go.Callee.value (Go.Operand.func 21), args := #[Go.Operand.tmp 89], argTypes := #[54] }, type := 22, pos := _, after := _, guard := some (25, true) } : Oper)) rfl (fun KK hK => ?_) (AllReadyH.cons (o := ({ dst := some 93, op := Go.Op.buildSlice 54 2 #[(0, Go.Operand.tmp 91), (1, Go.Operand.tmp 92)], type := 54, pos := _, after := _, guard := some (25, true) } : Oper)) rfl (fun KK hK => ?_) AllReadyH.nil))
        · go_simp
          refine (behind2' hLp HWV.out.lt HWU.out.lt hlen.1).mono ?_
          rintro xp Wbp ⟨rp, rfl, hrp, hlp⟩
          replace hLp := hLp.below hlp
          replace hBc := bcat2 hBc hlp
          have hsp := hrp.sl (hsv.below hBc).pos
          obtain ⟨rpa, rpb, rfl⟩ := hrp.slice
          try go_wp2_with fail
          refine hK.out _ _ (hS _ hBc) (fun hHeld => ?_)
          clear hK
          try simp only [Act.put, List.setIfInBounds_toArray, List.set_cons_zero, List.set_cons_succ]
          refine wpAnyH_ready (rs := [32]) (by kernel_rfl) (by simp) (AllReadyH.cons (o := ({ dst := some 93, op := Go.Op.buildSlice 54 2 #[(0, Go.Operand.tmp 91), (1, Go.Operand.tmp 92)], type := 54, pos := _, after := _, guard := some (25, true) } : Oper)) rfl (fun KK hK => ?_) AllReadyH.nil)
          have haq := balloc (Wbp) (.cells #[.slice ua us.length uc, .slice va vs.length vc] 22)
          have hLq : SlW ((Wbp).alloc (.cells #[.slice ua us.length uc, .slice va vs.length vc] 22)) (.slice (some ⟨(Wbp).heap.size, 0, none⟩) 2 2) [us, vs] := SlW.two (hsu.below hBc) (hsv.below hBc)
          replace hsp := hsp.below haq
          replace hBc := bcat2 hBc haq
          clear haq
          go_simp
          refine hK.out _ _ (hS _ hBc) (fun hHeld => ?_)
          clear hK
          try simp only [Act.put, List.setIfInBounds_toArray, List.set_cons_zero, List.set_cons_succ]
          generalize (Wbp).alloc (.cells #[.slice ua us.length uc, .slice va vs.length vc] 22) = WLq at *
          generalize (Wbp).heap.size = lq at *
          refine wpAnyH_ready (rs := [33]) (by kernel_rfl) (by simp) (AllReadyH.cons (o := ({ dst := some 94, op := Go.Op.call { callee := Go.Callee.value (Go.Operand.func 21), args := #[Go.Operand.tmp 93], argTypes := #[54] }, type := 22, pos := _, after := _, guard := some (25, true) } : Oper)) rfl (fun KK hK => ?_) AllReadyH.nil)
          go_simp
          refine (behind2' hLq HWU.out.lt HWV.out.lt hlen.2).mono ?_
          rintro xq Wbq ⟨rq, rfl, hrq, hlq⟩
          replace hsp := hsp.below hlq
          replace hLq := hLq.below hlq
          replace hBc := bcat2 hBc hlq
          have hsq := hrq.sl (hsv.below hBc).pos
          obtain ⟨rqa, rqb, rfl⟩ := hrq.slice
          try go_wp2_with fail
          refine hK.out _ _ (hS _ hBc) (fun hHeld => ?_)
          clear hK
          try simp only [Act.put, List.setIfInBounds_toArray, List.set_cons_zero, List.set_cons_succ]
          refine wpAnyH_ready (rs := [34]) (by kernel_rfl) (by simp) (AllReadyH.cons (o := ({ dst := some 95, op := Go.Op.call { callee := Go.Callee.value (Go.Operand.func 20), args := #[Go.Operand.tmp 90, Go.Operand.tmp 94], argTypes := #[22, 22] }, type := 4, pos := _, after := _, guard := some (25, true) } : Oper)) rfl (fun KK hK => ?_) AllReadyH.nil)
          have HI := ints_any _ _ _ _ _ hsp hsq
          rw [HEE.out] at HI
          go_simp
          refine HI.mono ?_
          rintro xz Wz ⟨rfl, hlz⟩
          replace hBc := bcat2 hBc hlz
          try go_wp2_with fail
          refine hK.out _ _ (hS _ hBc) (fun hHeld => ?_)
          clear hK
          try simp only [Act.put, List.setIfInBounds_toArray, List.set_cons_zero, List.set_cons_succ]
          refine wpAnyH_take (i := 35) (oi := ({ dst := some 96, op := Go.Op.pick (Go.Operand.tmp 86) (Go.Operand.tmp 95) (Go.Operand.const (Go.Value.bool false)), type := 4, pos := _, after := _, guard := some (20, false) } : Oper)) (v := ?_) rfl (by kernel_rfl) (by kernel_rfl) (by kernel_rfl) (fun _ _ _ h => h) (Or.inl ⟨by rfl, ?_⟩) (by assumption) ?_
          rotate_left
          · (intro w hSw; (try dsimp only at hSw); go_simp; try with_reducible rfl)
          simp only [Act.put, List.setIfInBounds_toArray, List.set_cons_zero, List.set_cons_succ]
          refine wpAnyH_take (i := 36) (oi := ({ dst := some 97, op := Go.Op.binOp Go.BinOp.neq 4 (Go.Operand.tmp 82) (Go.Operand.tmp 96) 4, type := 4, pos := _, after := _, guard := some (20, false) } : Oper)) (v := ?_) rfl (by kernel_rfl) (by kernel_rfl) (by kernel_rfl) (fun _ _ _ h => h) (Or.inl ⟨by rfl, ?_⟩) (by assumption) ?_
          rotate_left
          · (intro w hSw; (try dsimp only at hSw); go_simp; try with_reducible rfl)
          simp only [Act.put, List.setIfInBounds_toArray, List.set_cons_zero, List.set_cons_succ]
          refine wpAnyH_take (i := 37) (oi := ({ dst := some 98, op := Go.Op.pick (Go.Operand.tmp 81) (Go.Operand.const (Go.Value.bool true)) (Go.Operand.tmp 97), type := 4, pos := _, after := _, guard := none } : Oper)) (v := ?_) rfl (by kernel_rfl) (by kernel_rfl) (by kernel_rfl) (fun _ _ _ h => h) (Or.inl ⟨by rfl, ?_⟩) (by assumption) ?_
          rotate_left
          · (intro w hSw; (try dsimp only at hSw); go_simp; try with_reducible rfl)
          simp only [Act.put, List.setIfInBounds_toArray, List.set_cons_zero, List.set_cons_succ]
          refine wpAnyH_done (by kernel_rfl) ?_ _
          go_wp2
          go_meet
          exact ⟨by simp, hBc⟩
        have haq := balloc (WLp) (.cells #[.slice ua us.length uc, .slice va vs.length vc] 22)
        have hLq : SlW ((WLp).alloc (.cells #[.slice ua us.length uc, .slice va vs.length vc] 22)) (.slice (some ⟨(WLp).heap.size, 0, none⟩) 2 2) [us, vs] := SlW.two (hsu.below hBc) (hsv.below hBc)
        replace hLp := hLp.below haq
        replace hBc := bcat2 hBc haq
        clear haq
        go_simp
        refine hK.out _ _ (hS _ hBc) (fun hHeld => ?_)
        clear hK
        try simp only [Act.put, List.setIfInBounds_toArray, List.set_cons_zero, List.set_cons_succ]
        generalize (WLp).alloc (.cells #[.slice ua us.length uc, .slice va vs.length vc] 22) = WLq at *
        generalize (WLp).heap.size = lq at *
        refine wpAnyH_ready (rs := [29]) (by kernel_rfl) (by simp) (AllReadyH.cons (o := ({ dst := some 90, op := Go.Op.call { callee := Go.Callee.value (Go.Operand.func 21), args := #[Go.Operand.tmp 89], argTypes := #[54] }, type := 22, pos := _, after := _, guard := some (25, true) } : Oper)) rfl (fun KK hK => ?_) AllReadyH.nil)
        go_simp
        refine (behind2' hLp HWV.out.lt HWU.out.lt hlen.1).mono ?_
        rintro xp Wbp ⟨rp, rfl, hrp, hlp⟩
        replace hLp := hLp.below hlp
        replace hLq := hLq.below hlp
        replace hBc := bcat2 hBc hlp
        have hsp := hrp.sl (hsv.below hBc).pos
        obtain ⟨rpa, rpb, rfl⟩ := hrp.slice
        try go_wp2_with fail
        refine hK.out _ _ (hS _ hBc) (fun hHeld => ?_)
        clear hK
        try simp only [Act.put, List.setIfInBounds_toArray, List.set_cons_zero, List.set_cons_succ]
        refine wpAnyH_ready (rs := [33]) (by kernel_rfl) (by simp) (AllReadyH.cons (o := ({ dst := some 94, op := Go.Op.call { callee := Go.Callee.value (Go.Operand.func 21), args := #[Go.Operand.tmp 93], argTypes := #[54] }, type := 22, pos := _, after := _, guard := some (25, true) } : Oper)) rfl (fun KK hK => ?_) AllReadyH.nil)
        go_simp
        refine (behind2' hLq HWU.out.lt HWV.out.lt hlen.2).mono ?_
        rintro xq Wbq ⟨rq, rfl, hrq, hlq⟩
        replace hLq := hLq.below hlq
        replace hsp := hsp.below hlq
        replace hBc := bcat2 hBc hlq
        have hsq := hrq.sl (hsv.below hBc).pos
        obtain ⟨rqa, rqb, rfl⟩ := hrq.slice
        try go_wp2_with fail
        refine hK.out _ _ (hS _ hBc) (fun hHeld => ?_)
        clear hK
        try simp only [Act.put, List.setIfInBounds_toArray, List.set_cons_zero, List.set_cons_succ]
        refine wpAnyH_ready (rs := [34]) (by kernel_rfl) (by simp) (AllReadyH.cons (o := ({ dst := some 95, op := Go.Op.call { callee := Go.Callee.value (Go.Operand.func 20), args := #[Go.Operand.tmp 90, Go.Operand.tmp 94], argTypes := #[22, 22] }, type := 4, pos := _, after := _, guard := some (25, true) } : Oper)) rfl (fun KK hK => ?_) AllReadyH.nil)
        have HI := ints_any _ _ _ _ _ hsp hsq
        rw [HEE.out] at HI
        go_simp
        refine HI.mono ?_
        rintro xz Wz ⟨rfl, hlz⟩
        replace hBc := bcat2 hBc hlz
        try go_wp2_with fail
        refine hK.out _ _ (hS _ hBc) (fun hHeld => ?_)
        clear hK
        try simp only [Act.put, List.setIfInBounds_toArray, List.set_cons_zero, List.set_cons_succ]
        refine wpAnyH_take (i := 35) (oi := ({ dst := some 96, op := Go.Op.pick (Go.Operand.tmp 86) (Go.Operand.tmp 95) (Go.Operand.const (Go.Value.bool false)), type := 4, pos := _, after := _, guard := some (20, false) } : Oper)) (v := ?_) rfl (by kernel_rfl) (by kernel_rfl) (by kernel_rfl) (fun _ _ _ h => h) (Or.inl ⟨by rfl, ?_⟩) (by assumption) ?_
        rotate_left
        · (intro w hSw; (try dsimp only at hSw); go_simp; try with_reducible rfl)
        simp only [Act.put, List.setIfInBounds_toArray, List.set_cons_zero, List.set_cons_succ]
        refine wpAnyH_take (i := 36) (oi := ({ dst := some 97, op := Go.Op.binOp Go.BinOp.neq 4 (Go.Operand.tmp 82) (Go.Operand.tmp 96) 4, type := 4, pos := _, after := _, guard := some (20, false) } : Oper)) (v := ?_) rfl (by kernel_rfl) (by kernel_rfl) (by kernel_rfl) (fun _ _ _ h => h) (Or.inl ⟨by rfl, ?_⟩) (by assumption) ?_
        rotate_left
        · (intro w hSw; (try dsimp only at hSw); go_simp; try with_reducible rfl)
        simp only [Act.put, List.setIfInBounds_toArray, List.set_cons_zero, List.set_cons_succ]
        refine wpAnyH_take (i := 37) (oi := ({ dst := some 98, op := Go.Op.pick (Go.Operand.tmp 81) (Go.Operand.const (Go.Value.bool true)) (Go.Operand.tmp 97), type := 4, pos := _, after := _, guard := none } : Oper)) (v := ?_) rfl (by kernel_rfl) (by kernel_rfl) (by kernel_rfl) (fun _ _ _ h => h) (Or.inl ⟨by rfl, ?_⟩) (by assumption) ?_
        rotate_left
        · (intro w hSw; (try dsimp only at hSw); go_simp; try with_reducible rfl)
        simp only [Act.put, List.setIfInBounds_toArray, List.set_cons_zero, List.set_cons_succ]
        refine wpAnyH_done (by kernel_rfl) ?_ _
        go_wp2
        go_meet
        exact ⟨by simp, hBc⟩
      have haq := balloc (Wj) (.cells #[.slice ua us.length uc, .slice va vs.length vc] 22)
      have hLq : SlW ((Wj).alloc (.cells #[.slice ua us.length uc, .slice va vs.length vc] 22)) (.slice (some ⟨(Wj).heap.size, 0, none⟩) 2 2) [us, vs] := SlW.two (hsu.below hBc) (hsv.below hBc)
      replace hBc := bcat2 hBc haq
      clear haq
      go_simp
      refine hK.out _ _ (hS _ hBc) (fun hHeld => ?_)
      clear hK
      try simp only [Act.put, List.setIfInBounds_toArray, List.set_cons_zero, List.set_cons_succ]
      generalize (Wj).alloc (.cells #[.slice ua us.length uc, .slice va vs.length vc] 22) = WLq at *
      generalize (Wj).heap.size = lq at *
      refine wpAnyH_ready (rs := [28]) (by kernel_rfl) (by simp) (AllReadyH.cons (o := ({ dst := some 89, op := Go.Op.buildSlice 54 2 #[(0, Go.Operand.tmp 87), (1, Go.Operand.tmp 88)], type := 54, pos := _, after := _, guard := some (25, true) } : Oper)) rfl (fun KK hK => ?_) AllReadyH.nil)
      have hap := balloc (WLq) (.cells #[.slice va vs.length vc, .slice ua us.length uc] 22)
      have hLp : SlW ((WLq).alloc (.cells #[.slice va vs.length vc, .slice ua us.length uc] 22)) (.slice (some ⟨(WLq).heap.size, 0, none⟩) 2 2) [vs, us] := SlW.two (hsv.below hBc) (hsu.below hBc)
      replace hLq := hLq.below hap
      replace hBc := bcat2 hBc hap
      clear hap
      go_simp
      refine hK.out _ _ (hS _ hBc) (fun hHeld => ?_)
      clear hK
      try simp only [Act.put, List.setIfInBounds_toArray, List.set_cons_zero, List.set_cons_succ]
      generalize (WLq).alloc (.cells #[.slice va vs.length vc, .slice ua us.length uc] 22) = WLp at *
      generalize (WLq).heap.size = lp at *
      refine wpAnyH_ready (rs := [29]) (by kernel_rfl) (by simp) (AllReadyH.cons (o := ({ dst := some 90, op := Go.Op.call { callee := Go.Callee.value (Go.Operand.func 21), args := #[Go.Operand.tmp 89], argTypes := #[54] }, type := 22, pos := _, after := _, guard := some (25, true) } : Oper)) rfl (fun KK hK => ?_) AllReadyH.nil)
      go_simp
      refine (behind2' hLp HWV.out.lt HWU.out.lt hlen.1).mono ?_
      rintro xp Wbp ⟨rp, rfl, hrp, hlp⟩
      replace hLq := hLq.below hlp
      replace hLp := hLp.below hlp
      replace hBc := bcat2 hBc hlp
      have hsp := hrp.sl (hsv.below hBc).pos
      obtain ⟨rpa, rpb, rfl⟩ := hrp.slice
      try go_wp2_with fail
      refine hK.out _ _ (hS _ hBc) (fun hHeld => ?_)
      clear hK
      try simp only [Act.put, List.setIfInBounds_toArray, List.set_cons_zero, List.set_cons_succ]
      refine wpAnyH_ready (rs := [33]) (by kernel_rfl) (by simp) (AllReadyH.cons (o := ({ dst := some 94, op := Go.Op.call { callee := Go.Callee.value (Go.Operand.func 21), args := #[Go.Operand.tmp 93], argTypes := #[54] }, type := 22, pos := _, after := _, guard := some (25, true) } : Oper)) rfl (fun KK hK => ?_) AllReadyH.nil)
      go_simp
      refine (behind2' hLq HWU.out.lt HWV.out.lt hlen.2).mono ?_
      rintro xq Wbq ⟨rq, rfl, hrq, hlq⟩
      replace hLq := hLq.below hlq
      replace hsp := hsp.below hlq
      replace hBc := bcat2 hBc hlq
      have hsq := hrq.sl (hsv.below hBc).pos
      obtain ⟨rqa, rqb, rfl⟩ := hrq.slice
      try go_wp2_with fail
      refine hK.out _ _ (hS _ hBc) (fun hHeld => ?_)
      clear hK
      try simp only [Act.put, List.setIfInBounds_toArray, List.set_cons_zero, List.set_cons_succ]
      refine wpAnyH_ready (rs := [34]) (by kernel_rfl) (by simp) (AllReadyH.cons (o := ({ dst := some 95, op := Go.Op.call { callee := Go.Callee.value (Go.Operand.func 20), args := #[Go.Operand.tmp 90, Go.Operand.tmp 94], argTypes := #[22, 22] }, type := 4, pos := _, after := _, guard := some (25, true) } : Oper)) rfl (fun KK hK => ?_) AllReadyH.nil)
      have HI := ints_any _ _ _ _ _ hsp hsq
      rw [HEE.out] at HI
      go_simp
      refine HI.mono ?_
      rintro xz Wz ⟨rfl, hlz⟩
      replace hBc := bcat2 hBc hlz
      try go_wp2_with fail
      refine hK.out _ _ (hS _ hBc) (fun hHeld => ?_)
      clear hK
      try simp only [Act.put, List.setIfInBounds_toArray, List.set_cons_zero, List.set_cons_succ]
      refine wpAnyH_take (i := 35) (oi := ({ dst := some 96, op := Go.Op.pick (Go.Operand.tmp 86) (Go.Operand.tmp 95) (Go.Operand.const (Go.Value.bool false)), type := 4, pos := _, after := _, guard := some (20, false) } : Oper)) (v := ?_) rfl (by kernel_rfl) (by kernel_rfl) (by kernel_rfl) (fun _ _ _ h => h) (Or.inl ⟨by rfl, ?_⟩) (by assumption) ?_
      rotate_left
      · (intro w hSw; (try dsimp only at hSw); go_simp; try with_reducible rfl)
      simp only [Act.put, List.setIfInBounds_toArray, List.set_cons_zero, List.set_cons_succ]
      refine wpAnyH_take (i := 36) (oi := ({ dst := some 97, op := Go.Op.binOp Go.BinOp.neq 4 (Go.Operand.tmp 82) (Go.Operand.tmp 96) 4, type := 4, pos := _, after := _, guard := some (20, false) } : Oper)) (v := ?_) rfl (by kernel_rfl) (by kernel_rfl) (by kernel_rfl) (fun _ _ _ h => h) (Or.inl ⟨by rfl, ?_⟩) (by assumption) ?_
      rotate_left
      · (intro w hSw; (try dsimp only at hSw); go_simp; try with_reducible rfl)
      simp only [Act.put, List.setIfInBounds_toArray, List.set_cons_zero, List.set_cons_succ]
      refine wpAnyH_take (i := 37) (oi := ({ dst := some 98, op := Go.Op.pick (Go.Operand.tmp 81) (Go.Operand.const (Go.Value.bool true)) (Go.Operand.tmp 97), type := 4, pos := _, after := _, guard := none } : Oper)) (v := ?_) rfl (by kernel_rfl) (by kernel_rfl) (by kernel_rfl) (fun _ _ _ h => h) (Or.inl ⟨by rfl, ?_⟩) (by assumption) ?_
      rotate_left
      · (intro w hSw; (try dsimp only at hSw); go_simp; try with_reducible rfl)
      simp only [Act.put, List.setIfInBounds_toArray, List.set_cons_zero, List.set_cons_succ]
      refine wpAnyH_done (by kernel_rfl) ?_ _
      go_wp2
      go_meet
      exact ⟨by simp, hBc⟩
    · have hke : kv = false := by rw [← HKV.out, decide_eq_false hcb]; rfl
      have hcbb : (cb == 0) = false := by simpa using hcb
      have HCN := hide hcb
      subst hke
      clear hcb
      refine wp_region_held_drew (S := fun W => Below wc.heap.size wc W ∧ W.cell? ⟨w2.heap.size, 0, none⟩ = some (.int .i64 ca) ∧ W.cell? ⟨w2.heap.size, 1, none⟩ = some (.int .i64 da) ∧ W.cell? ⟨w14.heap.size, 0, none⟩ = some (.int .i64 cb) ∧ W.cell? ⟨w14.heap.size, 1, none⟩ = some (.int .i64 db) ∧ W.cell? ⟨b5, 0, none⟩ = some (.int .i64 ca) ∧ W.cell? ⟨b5, 1, none⟩ = some (.int .i64 da) ∧ W.cell? ⟨b6, 0, none⟩ = some (.int .i64 cb) ∧ W.cell? ⟨b6, 1, none⟩ = some (.int .i64 db) ∧ W.cell? ⟨w.heap.size, 0, none⟩ = some (.slice va vs.length vc) ∧ W.cell? ⟨w.heap.size + 1, 0, none⟩ = some (.slice ua us.length uc)) (by kernel_rfl) hS0 (fun hHeld => ?_)
      generalize wc.drew = wd at *
      refine wpAnyH_take (i := 0) (oi := ({ dst := some 61, op := Go.Op.load 26 (Go.Operand.tmp 7), type := 26, pos := _, after := _, guard := none } : Oper)) (v := ?_) rfl (by kernel_rfl) (by kernel_rfl) (by kernel_rfl) (fun _ _ _ h => h) (Or.inl ⟨by rfl, ?_⟩) (by assumption) ?_
      rotate_left
      · (intro w hSw; (try dsimp only at hSw); go_simp; try with_reducible rfl)
      simp only [Act.put, List.setIfInBounds_toArray, List.set_cons_zero, List.set_cons_succ]
      refine wpAnyH_take (i := 1) (oi := ({ dst := some 62, op := Go.Op.load 26 (Go.Operand.tmp 16), type := 26, pos := _, after := _, guard := none } : Oper)) (v := ?_) rfl (by kernel_rfl) (by kernel_rfl) (by kernel_rfl) (fun _ _ _ h => h) (Or.inl ⟨by rfl, ?_⟩) (by assumption) ?_
      rotate_left
      · (intro w hSw; (try dsimp only at hSw); go_simp; try with_reducible rfl)
      simp only [Act.put, List.setIfInBounds_toArray, List.set_cons_zero, List.set_cons_succ]
      refine wpAnyH_take (i := 2) (oi := ({ dst := some 63, op := Go.Op.binOp Go.BinOp.neq 26 (Go.Operand.tmp 61) (Go.Operand.tmp 62) 26, type := 4, pos := _, after := _, guard := none } : Oper)) (v := ?_) rfl (by kernel_rfl) (by kernel_rfl) (by kernel_rfl) (fun _ _ _ h => h) (Or.inl ⟨by rfl, ?_⟩) (by assumption) ?_
      rotate_left
      · (intro w hSw; (try dsimp only at hSw); go_simp; try with_reducible rfl)
      simp only [Act.put, List.setIfInBounds_toArray, List.set_cons_zero, List.set_cons_succ]
      refine wpAnyH_take (i := 3) (oi := ({ dst := some 64, op := Go.Op.move (Go.Operand.tmp 63), type := 4, pos := _, after := _, guard := none } : Oper)) (v := ?_) rfl (by kernel_rfl) (by kernel_rfl) (by kernel_rfl) (fun _ _ _ h => h) (Or.inl ⟨by rfl, ?_⟩) (by assumption) ?_
      rotate_left
      · (intro w hSw; (try dsimp only at hSw); go_simp; try with_reducible rfl)
      simp only [Act.put, List.setIfInBounds_toArray, List.set_cons_zero, List.set_cons_succ]
      refine wpAnyH_take (i := 4) (oi := ({ dst := some 65, op := Go.Op.move (Go.Operand.tmp 5), type := 22, pos := _, after := _, guard := some (3, false) } : Oper)) (v := ?_) rfl (by kernel_rfl) (by kernel_rfl) (by kernel_rfl) (fun _ _ _ h => h) (Or.inl ⟨by rfl, ?_⟩) (by assumption) ?_
      rotate_left
      · (intro w hSw; (try dsimp only at hSw); go_simp; try with_reducible rfl)
      simp only [Act.put, List.setIfInBounds_toArray, List.set_cons_zero, List.set_cons_succ]
      refine wpAnyH_take (i := 5) (oi := ({ dst := some 66, op := Go.Op.load 22 (Go.Operand.tmp 2), type := 22, pos := _, after := _, guard := some (3, false) } : Oper)) (v := ?_) rfl (by kernel_rfl) (by kernel_rfl) (by kernel_rfl) (fun _ _ _ h => h) (Or.inl ⟨by rfl, ?_⟩) (by assumption) ?_
      rotate_left
      · (intro w hSw; (try dsimp only at hSw); go_simp; try with_reducible rfl)
      simp only [Act.put, List.setIfInBounds_toArray, List.set_cons_zero, List.set_cons_succ]
      refine wpAnyH_ready (rs := [6]) (by kernel_rfl) (by simp) (AllReadyH.cons (o := ({ dst := some 67, op := Go.Op.call { callee := Go.Callee.value (Go.Operand.func 20), args := #[Go.Operand.tmp 65, Go.Operand.tmp 66], argTypes := #[22, 22] }, type := 4, pos := _, after := _, guard := some (3, false) } : Oper)) rfl (fun KK hK => ?_) AllReadyH.nil)
      go_simp
      refine (ints_true _ _ _ _ _ (hsx.below hBc) (hsv.below hBc) rfl).mono ?_
      rintro xWi Wi ⟨rfl, hlWi⟩
      replace hBc := bcat2 hBc hlWi
      try go_wp2_with fail
      refine hK.out _ _ (hS _ hBc) (fun hHeld => ?_)
      clear hK
      try simp only [Act.put, List.setIfInBounds_toArray, List.set_cons_zero, List.set_cons_succ]
      refine wpAnyH_take (i := 7) (oi := ({ dst := some 68, op := Go.Op.unOp Go.UnOp.not 4 (Go.Operand.tmp 67), type := 4, pos := _, after := _, guard := some (3, false) } : Oper)) (v := ?_) rfl (by kernel_rfl) (by kernel_rfl) (by kernel_rfl) (fun _ _ _ h => h) (Or.inl ⟨by rfl, ?_⟩) (by assumption) ?_
      rotate_left
      · (intro w hSw; (try dsimp only at hSw); go_simp; try with_reducible rfl)
      simp only [Act.put, List.setIfInBounds_toArray, List.set_cons_zero, List.set_cons_succ]
      refine wpAnyH_take (i := 8) (oi := ({ dst := some 69, op := Go.Op.pick (Go.Operand.tmp 64) (Go.Operand.const (Go.Value.bool true)) (Go.Operand.tmp 68), type := 4, pos := _, after := _, guard := none } : Oper)) (v := ?_) rfl (by kernel_rfl) (by kernel_rfl) (by kernel_rfl) (fun _ _ _ h => h) (Or.inl ⟨by rfl, ?_⟩) (by assumption) ?_
      rotate_left
      · (intro w hSw; (try dsimp only at hSw); go_simp; try with_reducible rfl)
      simp only [Act.put, List.setIfInBounds_toArray, List.set_cons_zero, List.set_cons_succ]
      refine wpAnyH_take (i := 9) (oi := ({ dst := some 70, op := Go.Op.move (Go.Operand.tmp 69), type := 4, pos := _, after := _, guard := none } : Oper)) (v := ?_) rfl (by kernel_rfl) (by kernel_rfl) (by kernel_rfl) (fun _ _ _ h => h) (Or.inl ⟨by rfl, ?_⟩) (by assumption) ?_
      rotate_left
      · (intro w hSw; (try dsimp only at hSw); go_simp; try with_reducible rfl)
      simp only [Act.put, List.setIfInBounds_toArray, List.set_cons_zero, List.set_cons_succ]
      refine wpAnyH_take (i := 10) (oi := ({ dst := some 71, op := Go.Op.move (Go.Operand.tmp 6), type := 22, pos := _, after := _, guard := some (9, false) } : Oper)) (v := ?_) rfl (by kernel_rfl) (by kernel_rfl) (by kernel_rfl) (fun _ _ _ h => h) (Or.inl ⟨by rfl, ?_⟩) (by assumption) ?_
      rotate_left
      · (intro w hSw; (try dsimp only at hSw); go_simp; try with_reducible rfl)
      simp only [Act.put, List.setIfInBounds_toArray, List.set_cons_zero, List.set_cons_succ]
      refine wpAnyH_take (i := 11) (oi := ({ dst := some 72, op := Go.Op.load 22 (Go.Operand.tmp 3), type := 22, pos := _, after := _, guard := some (9, false) } : Oper)) (v := ?_) rfl (by kernel_rfl) (by kernel_rfl) (by kernel_rfl) (fun _ _ _ h => h) (Or.inl ⟨by rfl, ?_⟩) (by assumption) ?_
      rotate_left
      · (intro w hSw; (try dsimp only at hSw); go_simp; try with_reducible rfl)
      simp only [Act.put, List.setIfInBounds_toArray, List.set_cons_zero, List.set_cons_succ]
      refine wpAnyH_ready (rs := [12]) (by kernel_rfl) (by simp) (AllReadyH.cons (o := ({ dst := some 73, op := Go.Op.call { callee := Go.Callee.value (Go.Operand.func 20), args := #[Go.Operand.tmp 71, Go.Operand.tmp 72], argTypes := #[22, 22] }, type := 4, pos := _, after := _, guard := some (9, false) } : Oper)) rfl (fun KK hK => ?_) AllReadyH.nil)
      go_simp
      refine (ints_true _ _ _ _ _ (hsy.below hBc) (hsu.below hBc) rfl).mono ?_
      rintro xWj Wj ⟨rfl, hlWj⟩
      replace hBc := bcat2 hBc hlWj
      try go_wp2_with fail
      refine hK.out _ _ (hS _ hBc) (fun hHeld => ?_)
      clear hK
      try simp only [Act.put, List.setIfInBounds_toArray, List.set_cons_zero, List.set_cons_succ]
      refine wpAnyH_take (i := 13) (oi := ({ dst := some 74, op := Go.Op.unOp Go.UnOp.not 4 (Go.Operand.tmp 73), type := 4, pos := _, after := _, guard := some (9, false) } : Oper)) (v := ?_) rfl (by kernel_rfl) (by kernel_rfl) (by kernel_rfl) (fun _ _ _ h => h) (Or.inl ⟨by rfl, ?_⟩) (by assumption) ?_
      rotate_left
      · (intro w hSw; (try dsimp only at hSw); go_simp; try with_reducible rfl)
      simp only [Act.put, List.setIfInBounds_toArray, List.set_cons_zero, List.set_cons_succ]
      refine wpAnyH_take (i := 14) (oi := ({ dst := some 75, op := Go.Op.pick (Go.Operand.tmp 70) (Go.Operand.const (Go.Value.bool true)) (Go.Operand.tmp 74), type := 4, pos := _, after := _, guard := none } : Oper)) (v := ?_) rfl (by kernel_rfl) (by kernel_rfl) (by kernel_rfl) (fun _ _ _ h => h) (Or.inl ⟨by rfl, ?_⟩) (by assumption) ?_
      rotate_left
      · (intro w hSw; (try dsimp only at hSw); go_simp; try with_reducible rfl)
      simp only [Act.put, List.setIfInBounds_toArray, List.set_cons_zero, List.set_cons_succ]
      refine wpAnyH_take (i := 15) (oi := ({ dst := some 76, op := Go.Op.move (Go.Operand.tmp 75), type := 4, pos := _, after := _, guard := none } : Oper)) (v := ?_) rfl (by kernel_rfl) (by kernel_rfl) (by kernel_rfl) (fun _ _ _ h => h) (Or.inl ⟨by rfl, ?_⟩) (by assumption) ?_
      rotate_left
      · (intro w hSw; (try dsimp only at hSw); go_simp; try with_reducible rfl)
      simp only [Act.put, List.setIfInBounds_toArray, List.set_cons_zero, List.set_cons_succ]
      refine wpAnyH_take (i := 16) (oi := ({ dst := some 77, op := Go.Op.load 26 (Go.Operand.tmp 15), type := 26, pos := _, after := _, guard := some (15, false) } : Oper)) (v := ?_) rfl (by kernel_rfl) (by kernel_rfl) (by kernel_rfl) (fun _ _ _ h => h) (Or.inl ⟨by rfl, ?_⟩) (by assumption) ?_
      rotate_left
      · (intro w hSw; (try dsimp only at hSw); go_simp; try with_reducible rfl)
      simp only [Act.put, List.setIfInBounds_toArray, List.set_cons_zero, List.set_cons_succ]
      refine wpAnyH_take (i := 17) (oi := ({ dst := some 78, op := Go.Op.load 26 (Go.Operand.tmp 17), type := 26, pos := _, after := _, guard := some (15, false) } : Oper)) (v := ?_) rfl (by kernel_rfl) (by kernel_rfl) (by kernel_rfl) (fun _ _ _ h => h) (Or.inl ⟨by rfl, ?_⟩) (by assumption) ?_
      rotate_left
      · (intro w hSw; (try dsimp only at hSw); go_simp; try with_reducible rfl)
      simp only [Act.put, List.setIfInBounds_toArray, List.set_cons_zero, List.set_cons_succ]
      refine wpAnyH_take (i := 18) (oi := ({ dst := some 79, op := Go.Op.binOp Go.BinOp.neq 26 (Go.Operand.tmp 77) (Go.Operand.tmp 78) 26, type := 4, pos := _, after := _, guard := some (15, false) } : Oper)) (v := ?_) rfl (by kernel_rfl) (by kernel_rfl) (by kernel_rfl) (fun _ _ _ h => h) (Or.inl ⟨by rfl, ?_⟩) (by assumption) ?_
      rotate_left
      · (intro w hSw; (try dsimp only at hSw); go_simp; try with_reducible rfl)
      simp only [Act.put, List.setIfInBounds_toArray, List.set_cons_zero, List.set_cons_succ]
      refine wpAnyH_take (i := 19) (oi := ({ dst := some 80, op := Go.Op.pick (Go.Operand.tmp 76) (Go.Operand.const (Go.Value.bool true)) (Go.Operand.tmp 79), type := 4, pos := _, after := _, guard := none } : Oper)) (v := ?_) rfl (by kernel_rfl) (by kernel_rfl) (by kernel_rfl) (fun _ _ _ h => h) (Or.inl ⟨by rfl, ?_⟩) (by assumption) ?_
      rotate_left
      · (intro w hSw; (try dsimp only at hSw); go_simp; try with_reducible rfl)
      simp only [Act.put, List.setIfInBounds_toArray, List.set_cons_zero, List.set_cons_succ]
      refine wpAnyH_take (i := 20) (oi := ({ dst := some 81, op := Go.Op.move (Go.Operand.tmp 80), type := 4, pos := _, after := _, guard := none } : Oper)) (v := ?_) rfl (by kernel_rfl) (by kernel_rfl) (by kernel_rfl) (fun _ _ _ h => h) (Or.inl ⟨by rfl, ?_⟩) (by assumption) ?_
      rotate_left
      · (intro w hSw; (try dsimp only at hSw); go_simp; try with_reducible rfl)
      simp only [Act.put, List.setIfInBounds_toArray, List.set_cons_zero, List.set_cons_succ]
      refine wpAnyH_take (i := 21) (oi := ({ dst := some 82, op := Go.Op.move (Go.Operand.tmp 14), type := 4, pos := _, after := _, guard := some (20, false) } : Oper)) (v := ?_) rfl (by kernel_rfl) (by kernel_rfl) (by kernel_rfl) (fun _ _ _ h => h) (Or.inl ⟨by rfl, ?_⟩) (by assumption) ?_
      rotate_left
      · (intro w hSw; (try dsimp only at hSw); go_simp; try with_reducible rfl)
      simp only [Act.put, List.setIfInBounds_toArray, List.set_cons_zero, List.set_cons_succ]
      refine wpAnyH_take (i := 22) (oi := ({ dst := some 83, op := Go.Op.fieldAddr 26 (Go.Operand.tmp 17) 0, type := 0, pos := _, after := _, guard := some (20, false) } : Oper)) (v := ?_) rfl (by kernel_rfl) (by kernel_rfl) (by kernel_rfl) (fun _ _ _ h => h) (Or.inl ⟨by rfl, ?_⟩) (by assumption) ?_
      rotate_left
      · (intro w hSw; (try dsimp only at hSw); go_simp; try with_reducible rfl)
      simp only [Act.put, List.setIfInBounds_toArray, List.set_cons_zero, List.set_cons_succ]
      refine wpAnyH_take (i := 23) (oi := ({ dst := some 84, op := Go.Op.load 3 (Go.Operand.tmp 83), type := 3, pos := _, after := _, guard := some (20, false) } : Oper)) (v := ?_) rfl (by kernel_rfl) (by kernel_rfl) (by kernel_rfl) (fun _ _ _ h => h) (Or.inl ⟨by rfl, ?_⟩) (by assumption) ?_
      rotate_left
      · (intro w hSw; (try dsimp only at hSw); go_simp; try with_reducible rfl)
      simp only [Act.put, List.setIfInBounds_toArray, List.set_cons_zero, List.set_cons_succ]
      refine wpAnyH_take (i := 24) (oi := ({ dst := some 85, op := Go.Op.binOp Go.BinOp.eql 3 (Go.Operand.tmp 84) (Go.Operand.const (Go.Value.int Go.IntKind.i64 0)) 3, type := 4, pos := _, after := _, guard := some (20, false) } : Oper)) (v := ?_) rfl (by kernel_rfl) (by kernel_rfl) (by kernel_rfl) (fun _ _ _ h => h) (Or.inl ⟨by rfl, ?_⟩) (by assumption) ?_
      rotate_left
      · (intro w hSw; (try dsimp only at hSw); go_simp; try with_reducible rfl)
      simp only [Act.put, List.setIfInBounds_toArray, List.set_cons_zero, List.set_cons_succ]
      refine wpAnyH_take (i := 25) (oi := ({ dst := some 86, op := Go.Op.move (Go.Operand.tmp 85), type := 4, pos := _, after := _, guard := some (20, false) } : Oper)) (v := ?_) rfl (by kernel_rfl) (by kernel_rfl) (by kernel_rfl) (fun _ _ _ h => h) (Or.inl ⟨by rfl, ?_⟩) (by assumption) ?_
      rotate_left
      · (intro w hSw; (try dsimp only at hSw); go_simp; try with_reducible rfl)
      simp only [Act.put, List.setIfInBounds_toArray, List.set_cons_zero, List.set_cons_succ]
      refine wpAnyH_take (i := 26) (oi := ({ dst := some 87, op := Go.Op.load 22 (Go.Operand.tmp 2), type := 22, pos := _, after := _, guard := some (25, true) } : Oper)) (v := undef) rfl (by kernel_rfl) (by kernel_rfl) (by kernel_rfl) (fun _ _ _ h => h) (Or.inr ⟨by rfl, rfl⟩) (by assumption) ?_
      simp only [Act.put, List.setIfInBounds_toArray, List.set_cons_zero, List.set_cons_succ]
      refine wpAnyH_take (i := 27) (oi := ({ dst := some 88, op := Go.Op.load 22 (Go.Operand.tmp 3), type := 22, pos := _, after := _, guard := some (25, true) } : Oper)) (v := undef) rfl (by kernel_rfl) (by kernel_rfl) (by kernel_rfl) (fun _ _ _ h => h) (Or.inr ⟨by rfl, rfl⟩) (by assumption) ?_
      simp only [Act.put, List.setIfInBounds_toArray, List.set_cons_zero, List.set_cons_succ]
      refine wpAnyH_take (i := 28) (oi := ({ dst := some 89, op := Go.Op.buildSlice 54 2 #[(0, Go.Operand.tmp 87), (1, Go.Operand.tmp 88)], type := 54, pos := _, after := _, guard := some (25, true) } : Oper)) (v := undef) rfl (by kernel_rfl) (by kernel_rfl) (by kernel_rfl) (fun _ _ _ h => h) (Or.inr ⟨by rfl, rfl⟩) (by assumption) ?_
      simp only [Act.put, List.setIfInBounds_toArray, List.set_cons_zero, List.set_cons_succ]
      refine wpAnyH_take (i := 29) (oi := ({ dst := some 90, op := Go.Op.call { callee := Go.Callee.value (Go.Operand.func 21), args := #[Go.Operand.tmp 89], argTypes := #[54] }, type := 22, pos := _, after := _, guard := some (25, true) } : Oper)) (v := undef) rfl (by kernel_rfl) (by kernel_rfl) (by kernel_rfl) (fun _ _ _ h => h) (Or.inr ⟨by rfl, rfl⟩) (by assumption) ?_
      simp only [Act.put, List.setIfInBounds_toArray, List.set_cons_zero, List.set_cons_succ]
      refine wpAnyH_take (i := 30) (oi := ({ dst := some 91, op := Go.Op.load 22 (Go.Operand.tmp 3), type := 22, pos := _, after := _, guard := some (25, true) } : Oper)) (v := undef) rfl (by kernel_rfl) (by kernel_rfl) (by kernel_rfl) (fun _ _ _ h => h) (Or.inr ⟨by rfl, rfl⟩) (by assumption) ?_
      simp only [Act.put, List.setIfInBounds_toArray, List.set_cons_zero, List.set_cons_succ]
      refine wpAnyH_take (i := 31) (oi := ({ dst := some 92, op := Go.Op.load 22 (Go.Operand.tmp 2), type := 22, pos := _, after := _, guard := some (25, true) } : Oper)) (v := undef) rfl (by kernel_rfl) (by kernel_rfl) (by kernel_rfl) (fun _ _ _ h => h) (Or.inr ⟨by rfl, rfl⟩) (by assumption) ?_
      simp only [Act.put, List.setIfInBounds_toArray, List.set_cons_zero, List.set_cons_succ]
      refine wpAnyH_take (i := 32) (oi := ({ dst := some 93, op := Go.Op.buildSlice 54 2 #[(0, Go.Operand.tmp 91), (1, Go.Operand.tmp 92)], type := 54, pos := _, after := _, guard := some (25, true) } : Oper)) (v := undef) rfl (by kernel_rfl) (by kernel_rfl) (by kernel_rfl) (fun _ _ _ h => h) (Or.inr ⟨by rfl, rfl⟩) (by assumption) ?_
      simp only [Act.put, List.setIfInBounds_toArray, List.set_cons_zero, List.set_cons_succ]
      refine wpAnyH_take (i := 33) (oi := ({ dst := some 94, op := Go.Op.call { callee := Go.Callee.value (Go.Operand.func 21), args := #[Go.Operand.tmp 93], argTypes := #[54] }, type := 22, pos := _, after := _, guard := some (25, true) } : Oper)) (v := undef) rfl (by kernel_rfl) (by kernel_rfl) (by kernel_rfl) (fun _ _ _ h => h) (Or.inr ⟨by rfl, rfl⟩) (by assumption) ?_
      simp only [Act.put, List.setIfInBounds_toArray, List.set_cons_zero, List.set_cons_succ]
      refine wpAnyH_take (i := 34) (oi := ({ dst := some 95, op := Go.Op.call { callee := Go.Callee.value (Go.Operand.func 20), args := #[Go.Operand.tmp 90, Go.Operand.tmp 94], argTypes := #[22, 22] }, type := 4, pos := _, after := _, guard := some (25, true) } : Oper)) (v := undef) rfl (by kernel_rfl) (by kernel_rfl) (by kernel_rfl) (fun _ _ _ h => h) (Or.inr ⟨by rfl, rfl⟩) (by assumption) ?_
      simp only [Act.put, List.setIfInBounds_toArray, List.set_cons_zero, List.set_cons_succ]
      refine wpAnyH_take (i := 35) (oi := ({ dst := some 96, op := Go.Op.pick (Go.Operand.tmp 86) (Go.Operand.tmp 95) (Go.Operand.const (Go.Value.bool false)), type := 4, pos := _, after := _, guard := some (20, false) } : Oper)) (v := ?_) rfl (by kernel_rfl) (by kernel_rfl) (by kernel_rfl) (fun _ _ _ h => h) (Or.inl ⟨by rfl, ?_⟩) (by assumption) ?_
      rotate_left
      · (intro w hSw; (try dsimp only at hSw); go_simp; try with_reducible rfl)
      simp only [Act.put, List.setIfInBounds_toArray, List.set_cons_zero, List.set_cons_succ]
      refine wpAnyH_take (i := 36) (oi := ({ dst := some 97, op := Go.Op.binOp Go.BinOp.neq 4 (Go.Operand.tmp 82) (Go.Operand.tmp 96) 4, type := 4, pos := _, after := _, guard := some (20, false) } : Oper)) (v := ?_) rfl (by kernel_rfl) (by kernel_rfl) (by kernel_rfl) (fun _ _ _ h => h) (Or.inl ⟨by rfl, ?_⟩) (by assumption) ?_
      rotate_left
      · (intro w hSw; (try dsimp only at hSw); go_simp; try with_reducible rfl)
      simp only [Act.put, List.setIfInBounds_toArray, List.set_cons_zero, List.set_cons_succ]
      refine wpAnyH_take (i := 37) (oi := ({ dst := some 98, op := Go.Op.pick (Go.Operand.tmp 81) (Go.Operand.const (Go.Value.bool true)) (Go.Operand.tmp 97), type := 4, pos := _, after := _, guard := none } : Oper)) (v := ?_) rfl (by kernel_rfl) (by kernel_rfl) (by kernel_rfl) (fun _ _ _ h => h) (Or.inl ⟨by rfl, ?_⟩) (by assumption) ?_
      rotate_left
      · (intro w hSw; (try dsimp only at hSw); go_simp; try with_reducible rfl)
      simp only [Act.put, List.setIfInBounds_toArray, List.set_cons_zero, List.set_cons_succ]
      refine wpAnyH_done (by kernel_rfl) ?_ _
      go_wp2
      go_meet
      exact ⟨by simp, hBc⟩
  obtain ⟨rfl, hb7⟩ := hcut
  clear hS hS0 hBc
  replace hsv := hsv.below hb7
  replace hsu := hsu.below hb7
  replace hsx := hsx.below hb7
  replace hsy := hsy.below hb7
  replace hsr := fun h => (hsr h).below hb7
  replace hsm := fun h => (hsm h).below hb7
  replace hsi := fun h => (hsi h).below hb7
  replace hx2 := Boxed.below hx2 hb7
  replace hx3 := Boxed.below hx3 hb7
  replace b9 : Blk (wc) w5.heap.size 26 [.int .i64 ca, .int .i64 da] := Blk.of_eq b9 (hb7.block _ b9.lt)
  replace b11 : Blk (wc) w8.heap.size 26 [.int .i64 cb, .int .i64 db] := Blk.of_eq b11 (hb7.block _ b11.lt)
  replace b13 : Blk (wc) w11.heap.size 26 [.int .i64 ca, .int .i64 da] := Blk.of_eq b13 (hb7.block _ b13.lt)
  replace hb5 : Blk (wc) b5 26 [.int .i64 ca, .int .i64 da] := Blk.of_eq hb5 (hb7.block _ hb5.lt)
  replace hb6 : Blk (wc) b6 26 [.int .i64 cb, .int .i64 db] := Blk.of_eq hb6 (hb7.block _ hb6.lt)
  replace hB := bcat hB hb7 hge
  replace hge := hB.size
  obtain ⟨b961a, b961b, b961c, b961d⟩ := b9.two
  obtain ⟨b1161a, b1161b, b1161c, b1161d⟩ := b11.two
  obtain ⟨b1361a, b1361b, b1361c, b1361d⟩ := b13.two
  obtain ⟨hb561a, hb561b, hb561c, hb561d⟩ := hb5.two
  obtain ⟨hb661a, hb661b, hb661c, hb661d⟩ := hb6.two
  go_wp2_with fail
  clear b961a b961b b961c b961d b1161a b1161b b1161c b1161d b1361a b1361b b1361c b1361d hb561a hb561b hb561c hb561d hb661a hb661b hb661c hb661d
  refine (las_any 23 #[.pointer (some ⟨w.heap.size, 0, none⟩)] rr (red vs) ca da _ HCA.out hsr HRN.out (fun _ => by kernel_rfl) (fun h W hW => rc1_ok w.heap.size _ vs W (Boxed.below hx2 hW) (hsv.below hW) (HAW.out h).lt (HAW.out h).len)).mono ?_
  rintro x w62 ⟨rfl, hb62⟩
  replace hsv := hsv.below hb62
  replace hsu := hsu.below hb62
  replace hsx := hsx.below hb62
  replace hsy := hsy.below hb62
  replace hsr := fun h => (hsr h).below hb62
  replace hsm := fun h => (hsm h).below hb62
  replace hsi := fun h => (hsi h).below hb62
  replace hx2 := Boxed.below hx2 hb62
  replace hx3 := Boxed.below hx3 hb62
  replace b9 : Blk (w62) w5.heap.size 26 [.int .i64 ca, .int .i64 da] := Blk.of_eq b9 (hb62.block _ b9.lt)
  replace b11 : Blk (w62) w8.heap.size 26 [.int .i64 cb, .int .i64 db] := Blk.of_eq b11 (hb62.block _ b11.lt)
  replace b13 : Blk (w62) w11.heap.size 26 [.int .i64 ca, .int .i64 da] := Blk.of_eq b13 (hb62.block _ b13.lt)
  replace hb5 : Blk (w62) b5 26 [.int .i64 ca, .int .i64 da] := Blk.of_eq hb5 (hb62.block _ hb5.lt)
  replace hb6 : Blk (w62) b6 26 [.int .i64 cb, .int .i64 db] := Blk.of_eq hb6 (hb62.block _ hb6.lt)
  replace hB := bcat hB hb62 hge
  replace hge := hB.size
  obtain ⟨b963a, b963b, b963c, b963d⟩ := b9.two
  obtain ⟨b1163a, b1163b, b1163c, b1163d⟩ := b11.two
  obtain ⟨b1363a, b1363b, b1363c, b1363d⟩ := b13.two
  obtain ⟨hb563a, hb563b, hb563c, hb563d⟩ := hb5.two
  obtain ⟨hb663a, hb663b, hb663c, hb663d⟩ := hb6.two
  go_wp2_with fail
  clear b963a b963b b963c b963d b1163a b1163b b1163c b1163d b1363a b1363b b1363c b1363d hb563a hb563b hb563c hb563d hb663a hb663b hb663c hb663d
  refine (las_any 25 #[.pointer (some ⟨w.heap.size, 0, none⟩), .pointer (some ⟨w.heap.size + 1, 0, none⟩)] rm (red (vs ++ us)) cb db _ HCB.out hsm HMN.out (fun _ => by kernel_rfl) (fun h W hW => rc2_ok w.heap.size (w.heap.size + 1) _ _ vs us W (Boxed.below hx2 hW) (Boxed.below hx3 hW) (hsv.below hW) (hsu.below hW) (HBW.out h).1.lt (HBW.out h).2.lt (HBW.out h).1.len (HBW.out h).2.len)).mono ?_
  rintro x w64 ⟨rfl, hb64⟩
  replace hsv := hsv.below hb64
  replace hsu := hsu.below hb64
  replace hsx := hsx.below hb64
  replace hsy := hsy.below hb64
  replace hsr := fun h => (hsr h).below hb64
  replace hsm := fun h => (hsm h).below hb64
  replace hsi := fun h => (hsi h).below hb64
  replace hx2 := Boxed.below hx2 hb64
  replace hx3 := Boxed.below hx3 hb64
  replace b9 : Blk (w64) w5.heap.size 26 [.int .i64 ca, .int .i64 da] := Blk.of_eq b9 (hb64.block _ b9.lt)
  replace b11 : Blk (w64) w8.heap.size 26 [.int .i64 cb, .int .i64 db] := Blk.of_eq b11 (hb64.block _ b11.lt)
  replace b13 : Blk (w64) w11.heap.size 26 [.int .i64 ca, .int .i64 da] := Blk.of_eq b13 (hb64.block _ b13.lt)
  replace hb5 : Blk (w64) b5 26 [.int .i64 ca, .int .i64 da] := Blk.of_eq hb5 (hb64.block _ hb5.lt)
  replace hb6 : Blk (w64) b6 26 [.int .i64 cb, .int .i64 db] := Blk.of_eq hb6 (hb64.block _ hb6.lt)
  replace hB := bcat hB hb64 hge
  replace hge := hB.size
  obtain ⟨b965a, b965b, b965c, b965d⟩ := b9.two
  obtain ⟨b1165a, b1165b, b1165c, b1165d⟩ := b11.two
  obtain ⟨b1365a, b1365b, b1365c, b1365d⟩ := b13.two
  obtain ⟨hb565a, hb565b, hb565c, hb565d⟩ := hb5.two
  obtain ⟨hb665a, hb665b, hb665c, hb665d⟩ := hb6.two
  go_wp2_with fail
  clear b965a b965b b965c b965d b1165a b1165b b1165c b1165d b1365a b1365b b1365c b1365d hb565a hb565b hb565c hb565d hb665a hb665b hb665c hb665d
  refine (las_any 26 #[.pointer (some ⟨w.heap.size, 0, none⟩)] ri (red (wi vs)) ca da _ HCA.out hsi HNN.out (fun _ => by kernel_rfl) (fun h W hW => rc3_ok w.heap.size _ vs W (Boxed.below hx2 hW) (hsv.below hW) (HAW.out h).lt (HAW.out h).len)).mono ?_
  rintro x w66 ⟨rfl, hb66⟩
  replace hsv := hsv.below hb66
  replace hsu := hsu.below hb66
  replace hsx := hsx.below hb66
  replace hsy := hsy.below hb66
  replace hsr := fun h => (hsr h).below hb66
  replace hsm := fun h => (hsm h).below hb66
  replace hsi := fun h => (hsi h).below hb66
  replace hx2 := Boxed.below hx2 hb66
  replace hx3 := Boxed.below hx3 hb66
  replace b9 : Blk (w66) w5.heap.size 26 [.int .i64 ca, .int .i64 da] := Blk.of_eq b9 (hb66.block _ b9.lt)
  replace b11 : Blk (w66) w8.heap.size 26 [.int .i64 cb, .int .i64 db] := Blk.of_eq b11 (hb66.block _ b11.lt)
  replace b13 : Blk (w66) w11.heap.size 26 [.int .i64 ca, .int .i64 da] := Blk.of_eq b13 (hb66.block _ b13.lt)
  replace hb5 : Blk (w66) b5 26 [.int .i64 ca, .int .i64 da] := Blk.of_eq hb5 (hb66.block _ hb5.lt)
  replace hb6 : Blk (w66) b6 26 [.int .i64 cb, .int .i64 db] := Blk.of_eq hb6 (hb66.block _ hb6.lt)
  replace hB := bcat hB hb66 hge
  replace hge := hB.size
  obtain ⟨b967a, b967b, b967c, b967d⟩ := b9.two
  obtain ⟨b1167a, b1167b, b1167c, b1167d⟩ := b11.two
  obtain ⟨b1367a, b1367b, b1367c, b1367d⟩ := b13.two
  obtain ⟨hb567a, hb567b, hb567c, hb567d⟩ := hb5.two
  obtain ⟨hb667a, hb667b, hb667c, hb667d⟩ := hb6.two
  go_wp2
  clear b967a b967b b967c b967d b1167a b1167b b1167c b1167d b1367a b1367b b1367c b1367d hb567a hb567b hb567c hb567d hb667a hb667b hb667c hb667d
  go_ret
  exact ⟨rfl, hB⟩

theorem reckons_law (v u : Value) (vs us : List Int) (w : World) (hv : SlA w v vs) (hu : SlA w u us) (hb1 : vs.length ≤ 17592186044416) (hb2 : us.length ≤ 17592186044416) :
    Calls Try.prog 3 #[v, u] w fun e w' => e = .returned (.bool true) ∧ Below w.heap.size w w' := by
  by_cases h0 : vs.length ≤ 5000
  · by_cases hl : us.length ≤ 5000
    · exact rk_good v u vs us w hv hu h0 hl
    · exact rk_long2 v u vs us w hv hu h0 (by omega) hb2
  · exact rk_long1 v u vs us w hv hu (by omega) hb1

end Go.Proofs.Ytakmfhnigpmngaa
