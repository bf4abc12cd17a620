/- PermPowers returns true at every list and two numbers. -/
import Derived.Test.YtjchmhngfnlbhaaDoorPo3
import Derived.Test.YtjchmhngfnlbhaaDoorPwm
import Derived.Test.YtjchmhngfnlbhaaDoorSla
import Derived.Test.YtjchmhngfnlbhaaDoorPow
import Derived.Test.YtjchmhngfnlbhaaDoorOrd
import Derived.Test.YtjchmhngfnlbhaaDoorThen
namespace Go.Proofs.YtjchmhngfnlbhaaDoor
open Go Go.RowKit Go.Shelf

theorem pow_l (u : Value) (zs : List Int) (n : Int) (w : World) (hu : Sl w u zs) (hp : IsPerm zs) (hl : zs.length ≤ 1000) :
    Calls Tryd.prog 34 #[u, .int .i64 n] w fun e w' => (∃ a c, e = .returned (.tuple #[.slice a zs.length c, .agg #[.int .i64 0, .int .i64 0]]) ∧ Sl w' (.slice a zs.length c) (powZ zs n)) ∧ Below w.heap.size w w' := by
  refine (pow_ok u zs n w hu hp hl).mono ?_
  rintro e w' ⟨r, rfl, h1, h2⟩
  obtain ⟨a, c, rfl⟩ := h1.shp
  rw [powZ_len] at h1 ⊢
  exact ⟨⟨a, c, rfl, h1⟩, h2⟩
theorem then_p (u v : Value) (xs ys : List Int) (w : World) (hu : Sl w u xs) (hv : Sl w v ys) (hx : IsPerm xs) (hl : xs.length = ys.length) (h1000 : xs.length ≤ 1000) :
    Calls Tryd.prog 28 #[u, v] w fun e w' => (∃ a n c, e = .returned (.slice a n c) ∧ Sl w' (.slice a n c) (mulL xs ys)) ∧ Below w.heap.size w w' := by
  have h0 := hu.psz
  refine (then_ok u v xs ys w hu hv hx hl h1000).mono ?_
  rintro e w' ⟨r, rfl, h1, h2⟩
  have h3 := h1.sl (by have := h2.size; omega)
  obtain ⟨a, c, rfl⟩ := h3.shp
  exact ⟨⟨a, _, c, rfl, h3⟩, h2⟩
theorem stays_l (n : Nat) (w : World) (hn : n ≤ 1000) (h0 : 0 < w.heap.size) :
    Calls Tryd.prog 37 #[.int .i64 n] w fun e w' => (∃ a m c, e = .returned (.slice a m c) ∧ Sl w' (.slice a m c) (idL n)) ∧ Below w.heap.size w w' := by
  refine (stays_any n w hn h0).mono ?_
  rintro e w' ⟨r, rfl, h1, h2⟩
  obtain ⟨a, c, rfl⟩ := h1.shp
  exact ⟨⟨a, _, c, rfl, h1⟩, h2⟩
theorem sign_pos (b m n : Nat) (w : World) (hb : BigZ w b (n : Int) m) (hn : 0 < n) :
    Calls Tryd.prog 36 #[.pointer (some ⟨b, 0, none⟩)] w fun e w' => e = .returned (.int .i64 1) ∧ Below w.heap.size w w' := by
  refine (zsign_ok b m (n : Int) w hb).mono ?_
  rintro e w' ⟨rfl, rfl⟩
  rw [if_neg (by omega), if_neg (by omega)]
  exact ⟨rfl, Below.refl _ _⟩
theorem lcm_fold_le : ∀ (l : List Nat) (a : Nat), 0 < a → (∀ k, k ∈ l → 0 < k ∧ k ≤ 1000) → l.foldl Nat.lcm a ≤ a * 1000 ^ l.length
  | [], a, _, _ => by simp
  | k :: l, a, ha, h => by
    obtain ⟨h1, h2⟩ := h k (by simp)
    have hle : Nat.lcm a k ≤ a * 1000 := Nat.le_trans (Nat.le_of_dvd (Nat.mul_pos ha h1) (Nat.lcm_dvd (Nat.dvd_mul_right a k) (Nat.dvd_mul_left k a))) (Nat.mul_le_mul_left a h2)
    have ih := lcm_fold_le l (Nat.lcm a k) (Nat.lcm_pos ha h1) (fun q hq => h q (by simp [hq]))
    rw [List.foldl_cons, List.length_cons, Nat.pow_succ]
    refine Nat.le_trans ih ?_
    rw [Nat.mul_comm (1000 ^ l.length) 1000, ← Nat.mul_assoc]
    exact Nat.mul_le_mul_right _ hle
theorem lcm_dec {xs : List Int} (hp : IsPerm xs) (hl : xs.length ≤ 1000) : 0 < lcmL (lens xs) ∧ (Lib.decDigits (lcmL (lens xs))).length ≤ 20000 := by
  have hk : ∀ k, k ∈ lens xs → 0 < k ∧ k ≤ 1000 := fun k h => by have := lens_pos hp h; omega
  refine ⟨lcmL_pos fun k h => (hk k h).1, ?_⟩
  have h1 := lcm_fold_le (lens xs) 1 (by omega) hk
  have h2 : (lens xs).length ≤ 1000 := by have := cyc_len xs; simp only [lens, List.length_map]; omega
  have h3 : lcmL (lens xs) < 10 ^ (3 * (lens xs).length + 1) := by
    rw [Nat.pow_succ, Nat.pow_mul]
    have e : lcmL (lens xs) ≤ 1000 ^ (lens xs).length := by unfold lcmL; omega
    have h0 : 0 < 1000 ^ (lens xs).length := Nat.pow_pos (by omega)
    show lcmL (lens xs) < 1000 ^ (lens xs).length * 10
    omega
  have := dec_le _ _ h3
  omega

set_option maxRecDepth 100000 in
set_option maxHeartbeats 8000000 in
theorem powers_bad (u : Value) (xs : List Int) (a b : Int) (w : World) (hu : Sl w u xs) (htab : Tab w.heap.size w) (h : (fault xs).1 ≠ 0) :
    Calls Tryd.prog 8 #[u, .int .i64 a, .int .i64 b] w fun e w' => e = .returned (.bool true) ∧ Below w.heap.size w w' := by
  obtain ⟨ua, uc, hue⟩ := hu.shp
  subst hue
  have HTab := hide (fun (W : World) (h : Below w.heap.size w W) => (htab.below h).mono h.size)
  have hB := Below.refl w.heap.size w
  have hge := hB.size
  have hp := fun (r : Value) (W : World) (a : Sl W r xs) => permFault_any r xs W a
  obtain ⟨c, d, hcd⟩ : ∃ c d, fault xs = (c, d) := ⟨_, _, rfl⟩
  rw [hcd] at hp h
  have hcb : (c != 0) = true := by simpa using h
  have hcn : ¬ c = 0 := h
  have hfd := fun (W : World) => field25 c d W
  have HP := hide hp
  clear hp hcd h htab
  go_enter Tryd.func8, Tryd.ntmps8
  go_wp2_with fail
  refine (begun_any _ (HTab.out _ hB)).mono ?_
  rintro x w2 ⟨rfl, hb2⟩
  replace hu := hu.below hb2
  replace hB := bcat hB hb2 hge
  replace hge := hB.size
  go_wp2_with fail
  refine (HP.out _ _ hu).mono ?_
  rintro x w4 ⟨rfl, hb4⟩
  replace hu := hu.below hb4
  replace hB := bcat hB hb4 hge
  replace hge := hB.size
  go_wp2
  go_ret
  exact ⟨rfl, hB⟩

set_option maxRecDepth 100000 in
set_option maxHeartbeats 8000000 in
theorem powers_a1 (u : Value) (xs : List Int) (a b : Int) (w : World) (hu : Sl w u xs) (htab : Tab w.heap.size w) (h : (fault xs).1 = 0) (k0 : 1000000000 < a) :
    Calls Tryd.prog 8 #[u, .int .i64 a, .int .i64 b] w fun e w' => e = .returned (.bool true) ∧ Below w.heap.size w w' := by
  obtain ⟨ua, uc, hue⟩ := hu.shp
  subst hue
  have HTab := hide (fun (W : World) (h : Below w.heap.size w W) => (htab.below h).mono h.size)
  have hB := Below.refl w.heap.size w
  have hge := hB.size
  obtain ⟨px, l1000⟩ := fault_perm h
  have hf := fault_of_perm px l1000
  have hp := fun (r : Value) (W : World) (a : Sl W r xs) => permFault_any r xs W a
  rw [hf] at hp
  have HP := hide hp
  have HX := hide px
  have H1000 := hide l1000
  have hfd := fun (W : World) => field25 0 0 W
  clear hp hf px l1000 h htab
  have kd0 : decide (1000000000 < a) = true := decide_eq_true k0
  go_enter Tryd.func8, Tryd.ntmps8
  go_wp2_with fail
  refine (begun_any _ (HTab.out _ hB)).mono ?_
  rintro x w2 ⟨rfl, hb2⟩
  replace hu := hu.below hb2
  replace hB := bcat hB hb2 hge
  replace hge := hB.size
  go_wp2_with fail
  refine (HP.out _ _ hu).mono ?_
  rintro x w4 ⟨rfl, hb4⟩
  replace hu := hu.below hb4
  replace hB := bcat hB hb4 hge
  replace hge := hB.size
  go_wp2
  go_ret
  exact ⟨rfl, hB⟩

set_option maxRecDepth 100000 in
set_option maxHeartbeats 8000000 in
theorem powers_a2 (u : Value) (xs : List Int) (a b : Int) (w : World) (hu : Sl w u xs) (htab : Tab w.heap.size w) (h : (fault xs).1 = 0) (k0 : ¬ 1000000000 < a) (k1 : a < -1000000000) :
    Calls Tryd.prog 8 #[u, .int .i64 a, .int .i64 b] w fun e w' => e = .returned (.bool true) ∧ Below w.heap.size w w' := by
  obtain ⟨ua, uc, hue⟩ := hu.shp
  subst hue
  have HTab := hide (fun (W : World) (h : Below w.heap.size w W) => (htab.below h).mono h.size)
  have hB := Below.refl w.heap.size w
  have hge := hB.size
  obtain ⟨px, l1000⟩ := fault_perm h
  have hf := fault_of_perm px l1000
  have hp := fun (r : Value) (W : World) (a : Sl W r xs) => permFault_any r xs W a
  rw [hf] at hp
  have HP := hide hp
  have HX := hide px
  have H1000 := hide l1000
  have hfd := fun (W : World) => field25 0 0 W
  clear hp hf px l1000 h htab
  have kd0 : decide (1000000000 < a) = false := decide_eq_false k0
  have kd1 : decide (a < -1000000000) = true := decide_eq_true k1
  go_enter Tryd.func8, Tryd.ntmps8
  go_wp2_with fail
  refine (begun_any _ (HTab.out _ hB)).mono ?_
  rintro x w2 ⟨rfl, hb2⟩
  replace hu := hu.below hb2
  replace hB := bcat hB hb2 hge
  replace hge := hB.size
  go_wp2_with fail
  refine (HP.out _ _ hu).mono ?_
  rintro x w4 ⟨rfl, hb4⟩
  replace hu := hu.below hb4
  replace hB := bcat hB hb4 hge
  replace hge := hB.size
  go_wp2
  go_ret
  exact ⟨rfl, hB⟩

set_option maxRecDepth 100000 in
set_option maxHeartbeats 8000000 in
theorem powers_b1 (u : Value) (xs : List Int) (a b : Int) (w : World) (hu : Sl w u xs) (htab : Tab w.heap.size w) (h : (fault xs).1 = 0) (k0 : ¬ 1000000000 < a) (k1 : ¬ a < -1000000000) (k2 : 1000000000 < b) :
    Calls Tryd.prog 8 #[u, .int .i64 a, .int .i64 b] w fun e w' => e = .returned (.bool true) ∧ Below w.heap.size w w' := by
  obtain ⟨ua, uc, hue⟩ := hu.shp
  subst hue
  have HTab := hide (fun (W : World) (h : Below w.heap.size w W) => (htab.below h).mono h.size)
  have hB := Below.refl w.heap.size w
  have hge := hB.size
  obtain ⟨px, l1000⟩ := fault_perm h
  have hf := fault_of_perm px l1000
  have hp := fun (r : Value) (W : World) (a : Sl W r xs) => permFault_any r xs W a
  rw [hf] at hp
  have HP := hide hp
  have HX := hide px
  have H1000 := hide l1000
  have hfd := fun (W : World) => field25 0 0 W
  clear hp hf px l1000 h htab
  have kd0 : decide (1000000000 < a) = false := decide_eq_false k0
  have kd1 : decide (a < -1000000000) = false := decide_eq_false k1
  have kd2 : decide (1000000000 < b) = true := decide_eq_true k2
  go_enter Tryd.func8, Tryd.ntmps8
  go_wp2_with fail
  refine (begun_any _ (HTab.out _ hB)).mono ?_
  rintro x w2 ⟨rfl, hb2⟩
  replace hu := hu.below hb2
  replace hB := bcat hB hb2 hge
  replace hge := hB.size
  go_wp2_with fail
  refine (HP.out _ _ hu).mono ?_
  rintro x w4 ⟨rfl, hb4⟩
  replace hu := hu.below hb4
  replace hB := bcat hB hb4 hge
  replace hge := hB.size
  go_wp2
  go_ret
  exact ⟨rfl, hB⟩

set_option maxRecDepth 100000 in
set_option maxHeartbeats 8000000 in
theorem powers_b2 (u : Value) (xs : List Int) (a b : Int) (w : World) (hu : Sl w u xs) (htab : Tab w.heap.size w) (h : (fault xs).1 = 0) (k0 : ¬ 1000000000 < a) (k1 : ¬ a < -1000000000) (k2 : ¬ 1000000000 < b) (k3 : b < -1000000000) :
    Calls Tryd.prog 8 #[u, .int .i64 a, .int .i64 b] w fun e w' => e = .returned (.bool true) ∧ Below w.heap.size w w' := by
  obtain ⟨ua, uc, hue⟩ := hu.shp
  subst hue
  have HTab := hide (fun (W : World) (h : Below w.heap.size w W) => (htab.below h).mono h.size)
  have hB := Below.refl w.heap.size w
  have hge := hB.size
  obtain ⟨px, l1000⟩ := fault_perm h
  have hf := fault_of_perm px l1000
  have hp := fun (r : Value) (W : World) (a : Sl W r xs) => permFault_any r xs W a
  rw [hf] at hp
  have HP := hide hp
  have HX := hide px
  have H1000 := hide l1000
  have hfd := fun (W : World) => field25 0 0 W
  clear hp hf px l1000 h htab
  have kd0 : decide (1000000000 < a) = false := decide_eq_false k0
  have kd1 : decide (a < -1000000000) = false := decide_eq_false k1
  have kd2 : decide (1000000000 < b) = false := decide_eq_false k2
  have kd3 : decide (b < -1000000000) = true := decide_eq_true k3
  go_enter Tryd.func8, Tryd.ntmps8
  go_wp2_with fail
  refine (begun_any _ (HTab.out _ hB)).mono ?_
  rintro x w2 ⟨rfl, hb2⟩
  replace hu := hu.below hb2
  replace hB := bcat hB hb2 hge
  replace hge := hB.size
  go_wp2_with fail
  refine (HP.out _ _ hu).mono ?_
  rintro x w4 ⟨rfl, hb4⟩
  replace hu := hu.below hb4
  replace hB := bcat hB hb4 hge
  replace hge := hB.size
  go_wp2
  go_ret
  exact ⟨rfl, hB⟩

set_option maxRecDepth 100000 in
set_option maxHeartbeats 8000000 in
theorem powers_good (u : Value) (xs : List Int) (a b : Int) (w : World) (hu : Sl w u xs) (htab : Tab w.heap.size w) (h : (fault xs).1 = 0) (k0 : ¬ 1000000000 < a) (k1 : ¬ a < -1000000000) (k2 : ¬ 1000000000 < b) (k3 : ¬ b < -1000000000) :
    Calls Tryd.prog 8 #[u, .int .i64 a, .int .i64 b] w fun e w' => e = .returned (.bool true) ∧ Below w.heap.size w w' := by
  obtain ⟨ua, uc, hue⟩ := hu.shp
  subst hue
  have HTab := hide (fun (W : World) (h : Below w.heap.size w W) => (htab.below h).mono h.size)
  have hB := Below.refl w.heap.size w
  have hge := hB.size
  obtain ⟨px, l1000⟩ := fault_perm h
  have hf := fault_of_perm px l1000
  have hp := fun (r : Value) (W : World) (a : Sl W r xs) => permFault_any r xs W a
  rw [hf] at hp
  have HP := hide hp
  have HX := hide px
  have H1000 := hide l1000
  have hfd := fun (W : World) => field25 0 0 W
  have hpm : ∀ (r : Value) (cz : List Int) (W : World), Sl W r cz → IsPerm cz → cz.length = xs.length → Calls Tryd.prog 13 #[r] W fun e w' => e = .returned (.agg #[.int .i64 0, .int .i64 0]) ∧ Below W.heap.size W w' := fun r cz W a p l => by
    have := permFault_any r cz W a
    rw [fault_of_perm p (by omega)] at this
    exact this
  have HPM := hide hpm
  obtain ⟨hlp, hld⟩ := lcm_dec px l1000
  obtain ⟨n, hn⟩ : ∃ n, lcmL (lens xs) = n := ⟨_, rfl⟩
  have hsti := powZ_still px a
  have ho := fun (r : Value) (W : World) (a : Sl W r xs) (t : Tab W.heap.size W) => order_ok r xs W a px l1000 t
  rw [hn] at hlp hld hsti ho
  obtain ⟨hdig, hdv⟩ := Dig.of_dec hlp hld
  obtain ⟨st, hste⟩ : ∃ st, (⟨(Lib.decDigits n).toArray⟩ : ByteArray) = st := ⟨_, rfl⟩
  rw [hste] at hdig hdv ho
  have hdg := fun (W : World) => digits_ok st W hdig
  rw [hdv] at hdg
  obtain ⟨sb, hsb⟩ : ∃ sb, decide (powZ xs a = idL xs.length) = sb := ⟨_, rfl⟩
  have hi := fun (r s : Value) (W : World) (h1 : Sl W r (powZ xs a)) (h2 : Sl W s (idL xs.length)) => ints_any r s _ _ W h1 h2
  rw [hsb] at hi
  have HO := hide ho
  have HDG := hide hdg
  have HI := hide hi
  have HN := hide hlp
  have HSB : Hid (sb = true ↔ n ∣ a.natAbs) := hide (by rw [← hsb, decide_eq_true_iff, hsti, Int.ofNat_dvd_left])
  have HAB : Hid (-1000000000 ≤ a ∧ a ≤ 1000000000) := hide (by omega)
  have kd0 : decide (1000000000 < a) = false := decide_eq_false k0
  have kd1 : decide (a < -1000000000) = false := decide_eq_false k1
  have kd2 : decide (1000000000 < b) = false := decide_eq_false k2
  have kd3 : decide (b < -1000000000) = false := decide_eq_false k3
  have hwab : IntKind.i64.wrap (a + b) = a + b := by rw [IntKind.wrap_i64]; omega
  clear hpm hld hn hsti ho hdig hdv hste hdg hsb hi hlp
  clear hp hf px l1000 h htab
  go_enter Tryd.func8, Tryd.ntmps8
  go_wp2_with fail
  refine (begun_any _ (HTab.out _ hB)).mono ?_
  rintro x w2 ⟨rfl, hb2⟩
  replace hu := hu.below hb2
  replace hB := bcat hB hb2 hge
  replace hge := hB.size
  go_wp2_with fail
  refine (HP.out _ _ hu).mono ?_
  rintro x w4 ⟨rfl, hb4⟩
  replace hu := hu.below hb4
  replace hB := bcat hB hb4 hge
  replace hge := hB.size
  go_wp2_with fail
  refine (pow_l _ xs a _ hu HX.out H1000.out).mono ?_
  rintro x w6 ⟨⟨xa, xc, rfl, hx⟩, hb6⟩
  replace hu := hu.below hb6
  replace hB := bcat hB hb6 hge
  replace hge := hB.size
  have hb7 : Below w6.heap.size w6 (w6.alloc (.cells #[.int .i64 0, .int .i64 0] 26)) := balloc w6 _
  replace hu := hu.below hb7
  replace hx := hx.below hb7
  replace hB := bcat hB hb7 hge
  replace hge := hB.size
  have b1 : Two (w6.alloc (.cells #[.int .i64 0, .int .i64 0] 26)) w6.heap.size := Two.new w6
  obtain ⟨_, b18a, b18b, b18c, b18d, b18e, b18f⟩ := id b1
  go_wp2_with fail
  clear b18a b18b b18c b18d b18e b18f
  refine (pow_l _ xs b _ hu HX.out H1000.out).mono ?_
  rintro x w9 ⟨⟨ya, yc, rfl, hy⟩, hb9⟩
  replace hu := hu.below hb9
  replace hx := hx.below hb9
  replace b1 := Two.below b1 hb9
  replace hB := bcat hB hb9 hge
  replace hge := hB.size
  have hb10 : Below w9.heap.size w9 (w9.alloc (.cells #[.int .i64 0, .int .i64 0] 26)) := balloc w9 _
  replace hu := hu.below hb10
  replace hx := hx.below hb10
  replace hy := hy.below hb10
  replace b1 := Two.below b1 hb10
  replace hB := bcat hB hb10 hge
  replace hge := hB.size
  have b2 : Two (w9.alloc (.cells #[.int .i64 0, .int .i64 0] 26)) w9.heap.size := Two.new w9
  obtain ⟨_, b111a, b111b, b111c, b111d, b111e, b111f⟩ := id b1
  obtain ⟨_, b211a, b211b, b211c, b211d, b211e, b211f⟩ := id b2
  go_wp2_with fail
  clear b111a b111b b111c b111d b111e b111f b211a b211b b211c b211d b211e b211f
  refine (pow_l _ xs (a + b) _ hu HX.out H1000.out).mono ?_
  rintro x w12 ⟨⟨za, zc, rfl, hz⟩, hb12⟩
  replace hu := hu.below hb12
  replace hx := hx.below hb12
  replace hy := hy.below hb12
  replace b1 := Two.below b1 hb12
  replace b2 := Two.below b2 hb12
  replace hB := bcat hB hb12 hge
  replace hge := hB.size
  have hb13 : Below w12.heap.size w12 (w12.alloc (.cells #[.int .i64 0, .int .i64 0] 26)) := balloc w12 _
  replace hu := hu.below hb13
  replace hx := hx.below hb13
  replace hy := hy.below hb13
  replace hz := hz.below hb13
  replace b1 := Two.below b1 hb13
  replace b2 := Two.below b2 hb13
  replace hB := bcat hB hb13 hge
  replace hge := hB.size
  have b3 : Two (w12.alloc (.cells #[.int .i64 0, .int .i64 0] 26)) w12.heap.size := Two.new w12
  obtain ⟨_, b114a, b114b, b114c, b114d, b114e, b114f⟩ := id b1
  obtain ⟨_, b214a, b214b, b214c, b214d, b214e, b214f⟩ := id b2
  obtain ⟨_, b314a, b314b, b314c, b314d, b314e, b314f⟩ := id b3
  go_wp2_with fail
  clear b114a b114b b114c b114d b114e b114f b214a b214b b214c b214d b214e b214f b314a b314b b314c b314d b314e b314f
  refine (HPM.out _ _ _ hy (powZ_perm HX.out b) (powZ_len xs b)).mono ?_
  rintro x w15 ⟨rfl, hb15⟩
  replace hu := hu.below hb15
  replace hx := hx.below hb15
  replace hy := hy.below hb15
  replace hz := hz.below hb15
  replace b1 := Two.below b1 hb15
  replace b2 := Two.below b2 hb15
  replace b3 := Two.below b3 hb15
  replace hB := bcat hB hb15 hge
  replace hge := hB.size
  obtain ⟨_, b116a, b116b, b116c, b116d, b116e, b116f⟩ := id b1
  obtain ⟨_, b216a, b216b, b216c, b216d, b216e, b216f⟩ := id b2
  obtain ⟨_, b316a, b316b, b316c, b316d, b316e, b316f⟩ := id b3
  go_wp2_with fail
  clear b116a b116b b116c b116d b116e b116f b216a b216b b216c b216d b216e b216f b316a b316b b316c b316d b316e b316f
  refine (HPM.out _ _ _ hx (powZ_perm HX.out a) (powZ_len xs a)).mono ?_
  rintro x w17 ⟨rfl, hb17⟩
  replace hu := hu.below hb17
  replace hx := hx.below hb17
  replace hy := hy.below hb17
  replace hz := hz.below hb17
  replace b1 := Two.below b1 hb17
  replace b2 := Two.below b2 hb17
  replace b3 := Two.below b3 hb17
  replace hB := bcat hB hb17 hge
  replace hge := hB.size
  obtain ⟨_, b118a, b118b, b118c, b118d, b118e, b118f⟩ := id b1
  obtain ⟨_, b218a, b218b, b218c, b218d, b218e, b218f⟩ := id b2
  obtain ⟨_, b318a, b318b, b318c, b318d, b318e, b318f⟩ := id b3
  go_wp2_with fail
  clear b118a b118b b118c b118d b118e b118f b218a b218b b218c b218d b218e b218f b318a b318b b318c b318d b318e b318f
  refine (then_p _ _ (powZ xs a) (powZ xs b) _ hx hy (powZ_perm HX.out a) (by rw [powZ_len, powZ_len]) (by rw [powZ_len]; exact H1000.out)).mono ?_
  rintro x w19 ⟨⟨ta, tn, tc, rfl, ht⟩, hb19⟩
  replace hu := hu.below hb19
  replace hx := hx.below hb19
  replace hy := hy.below hb19
  replace hz := hz.below hb19
  replace b1 := Two.below b1 hb19
  replace b2 := Two.below b2 hb19
  replace b3 := Two.below b3 hb19
  replace hB := bcat hB hb19 hge
  replace hge := hB.size
  obtain ⟨_, b120a, b120b, b120c, b120d, b120e, b120f⟩ := id b1
  obtain ⟨_, b220a, b220b, b220c, b220d, b220e, b220f⟩ := id b2
  obtain ⟨_, b320a, b320b, b320c, b320d, b320e, b320f⟩ := id b3
  go_wp2_with fail
  clear b120a b120b b120c b120d b120e b120f b220a b220b b220c b220d b220e b220f b320a b320b b320c b320d b320e b320f
  refine (ints_true _ _ _ _ _ ht hz (powZ_add HX.out a b)).mono ?_
  rintro x w21 ⟨rfl, hb21⟩
  replace hu := hu.below hb21
  replace hx := hx.below hb21
  replace hy := hy.below hb21
  replace hz := hz.below hb21
  replace ht := ht.below hb21
  replace b1 := Two.below b1 hb21
  replace b2 := Two.below b2 hb21
  replace b3 := Two.below b3 hb21
  replace hB := bcat hB hb21 hge
  replace hge := hB.size
  obtain ⟨_, b122a, b122b, b122c, b122d, b122e, b122f⟩ := id b1
  obtain ⟨_, b222a, b222b, b222c, b222d, b222e, b222f⟩ := id b2
  obtain ⟨_, b322a, b322b, b322c, b322d, b322e, b322f⟩ := id b3
  go_wp2_with fail
  clear b122a b122b b122c b122d b122e b122f b222a b222b b222c b222d b222e b222f b322a b322b b322c b322d b322e b322f
  refine (HO.out _ _ hu (HTab.out _ hB)).mono ?_
  rintro x w23 ⟨rfl, hb23⟩
  replace hu := hu.below hb23
  replace hx := hx.below hb23
  replace hy := hy.below hb23
  replace hz := hz.below hb23
  replace ht := ht.below hb23
  replace b1 := Two.below b1 hb23
  replace b2 := Two.below b2 hb23
  replace b3 := Two.below b3 hb23
  replace hB := bcat hB hb23 hge
  replace hge := hB.size
  have hb24 : Below w23.heap.size w23 (w23.alloc (.cells #[.int .i64 0, .int .i64 0] 26)) := balloc w23 _
  replace hu := hu.below hb24
  replace hx := hx.below hb24
  replace hy := hy.below hb24
  replace hz := hz.below hb24
  replace ht := ht.below hb24
  replace b1 := Two.below b1 hb24
  replace b2 := Two.below b2 hb24
  replace b3 := Two.below b3 hb24
  replace hB := bcat hB hb24 hge
  replace hge := hB.size
  have b4 : Two (w23.alloc (.cells #[.int .i64 0, .int .i64 0] 26)) w23.heap.size := Two.new w23
  obtain ⟨_, b125a, b125b, b125c, b125d, b125e, b125f⟩ := id b1
  obtain ⟨_, b225a, b225b, b225c, b225d, b225e, b225f⟩ := id b2
  obtain ⟨_, b325a, b325b, b325c, b325d, b325e, b325f⟩ := id b3
  obtain ⟨_, b425a, b425b, b425c, b425d, b425e, b425f⟩ := id b4
  go_wp2_with fail
  clear b125a b125b b125c b125d b125e b125f b225a b225b b225c b225d b225e b225f b325a b325b b325c b325d b325e b325f b425a b425b b425c b425d b425e b425f
  refine (HDG.out _).mono ?_
  rintro x w26 ⟨⟨ob, rfl, hob⟩, hb26⟩
  replace hu := hu.below hb26
  replace hx := hx.below hb26
  replace hy := hy.below hb26
  replace hz := hz.below hb26
  replace ht := ht.below hb26
  replace b1 := Two.below b1 hb26
  replace b2 := Two.below b2 hb26
  replace b3 := Two.below b3 hb26
  replace b4 := Two.below b4 hb26
  replace hB := bcat hB hb26 hge
  replace hge := hB.size
  obtain ⟨_, b127a, b127b, b127c, b127d, b127e, b127f⟩ := id b1
  obtain ⟨_, b227a, b227b, b227c, b227d, b227e, b227f⟩ := id b2
  obtain ⟨_, b327a, b327b, b327c, b327d, b327e, b327f⟩ := id b3
  obtain ⟨_, b427a, b427b, b427c, b427d, b427e, b427f⟩ := id b4
  go_wp2_with fail
  clear b127a b127b b127c b127d b127e b127f b227a b227b b227c b227d b227e b227f b327a b327b b327c b327d b327e b327f b427a b427b b427c b427d b427e b427f
  refine (sign_pos _ _ n _ hob HN.out).mono ?_
  rintro x w28 ⟨rfl, hb28⟩
  replace hu := hu.below hb28
  replace hx := hx.below hb28
  replace hy := hy.below hb28
  replace hz := hz.below hb28
  replace ht := ht.below hb28
  replace hob := hob.below hb28
  replace b1 := Two.below b1 hb28
  replace b2 := Two.below b2 hb28
  replace b3 := Two.below b3 hb28
  replace b4 := Two.below b4 hb28
  replace hB := bcat hB hb28 hge
  replace hge := hB.size
  obtain ⟨_, b129a, b129b, b129c, b129d, b129e, b129f⟩ := id b1
  obtain ⟨_, b229a, b229b, b229c, b229d, b229e, b229f⟩ := id b2
  obtain ⟨_, b329a, b329b, b329c, b329d, b329e, b329f⟩ := id b3
  obtain ⟨_, b429a, b429b, b429c, b429d, b429e, b429f⟩ := id b4
  go_wp2_with fail
  clear b129a b129b b129c b129d b129e b129f b229a b229b b229c b229d b229e b229f b329a b329b b329c b329d b329e b329f b429a b429b b429c b429d b429e b429f
  refine (stays_l xs.length _ H1000.out hu.psz).mono ?_
  rintro x w30 ⟨⟨sa, sn, sc, rfl, hs⟩, hb30⟩
  replace hu := hu.below hb30
  replace hx := hx.below hb30
  replace hy := hy.below hb30
  replace hz := hz.below hb30
  replace ht := ht.below hb30
  replace hob := hob.below hb30
  replace b1 := Two.below b1 hb30
  replace b2 := Two.below b2 hb30
  replace b3 := Two.below b3 hb30
  replace b4 := Two.below b4 hb30
  replace hB := bcat hB hb30 hge
  replace hge := hB.size
  obtain ⟨_, b131a, b131b, b131c, b131d, b131e, b131f⟩ := id b1
  obtain ⟨_, b231a, b231b, b231c, b231d, b231e, b231f⟩ := id b2
  obtain ⟨_, b331a, b331b, b331c, b331d, b331e, b331f⟩ := id b3
  obtain ⟨_, b431a, b431b, b431c, b431d, b431e, b431f⟩ := id b4
  go_wp2_with fail
  clear b131a b131b b131c b131d b131e b131f b231a b231b b231c b231d b231e b231f b331a b331b b331c b331d b331e b331f b431a b431b b431c b431d b431e b431f
  refine (HI.out _ _ _ hx hs).mono ?_
  rintro x w32 ⟨rfl, hb32⟩
  replace hu := hu.below hb32
  replace hx := hx.below hb32
  replace hy := hy.below hb32
  replace hz := hz.below hb32
  replace ht := ht.below hb32
  replace hob := hob.below hb32
  replace hs := hs.below hb32
  replace b1 := Two.below b1 hb32
  replace b2 := Two.below b2 hb32
  replace b3 := Two.below b3 hb32
  replace b4 := Two.below b4 hb32
  replace hB := bcat hB hb32 hge
  replace hge := hB.size
  clear b1 b2 b3 b4 hx hy hz ht hs hu
  have hbA : Below w32.heap.size w32 (w32.alloc (.cells #[.bool false, .slice none 0 0] 57)) := balloc w32 _
  have hZA : Blk (w32.alloc (.cells #[.bool false, .slice none 0 0] 57)) w32.heap.size 57 [.bool false, .slice none 0 0] := World.alloc_heap_new w32 _
  have HZA := hide (And.intro hbA (And.intro hZA hob))
  have HBC := hide hB
  clear hbA hZA hob hB
  go_wp2_with fail
  refine (big_ok a _ (by have := HAB.out; omega) (by have := HAB.out; omega)).mono ?_
  rintro e wq ⟨⟨bb, rfl, hbb, hbz⟩, hbq⟩
  obtain ⟨hbA, hZA, hob⟩ := HZA.out
  have hZq : Blk wq w32.heap.size 57 [.bool false, .slice none 0 0] := hZA.of_eq (hbq.block _ hZA.lt)
  have hbAq := bcat2 hbA hbq
  have HM := hide (mod_z w32.heap.size bb ob 2 80000 n a _ _ wq hZq hbz (hob.below hbAq) HN.out (by have := HAB.out; omega) (by omega))
  have HBA := hide (bcat2 HBC.out hbAq)
  clear hbA hZA hob hZq hbAq hbq hbz
  go_wp2_with fail
  refine HM.out.mono ?_
  rintro e wr ⟨rfl, ⟨r, hr, hr0, hrn⟩, hf⟩
  have HRN := hide hrn
  have HF : Hid (Below w.heap.size w wr) := hide (HBA.out.trans (hf w.heap.size HBC.out.size (by have := HBA.out.size; exact this)))
  have HSG := hide (zsign_ok w32.heap.size _ r wr hr)
  have HR0 := hide hr0
  clear hrn hf hr hr0
  by_cases hrz : r = 0
  · have hst : sb = true := HSB.out.2 (HRN.out.1 hrz)
    subst hst
    rw [if_pos hrz] at HSG
    clear hrz
    go_wp2_with fail
    refine HSG.out.mono ?_
    rintro e w9 ⟨rfl, rfl⟩
    go_wp2
    go_ret
    exact ⟨rfl, HF.out⟩
  · have hst : sb = false := by
      cases sb with
      | false => rfl
      | true => exact absurd (HRN.out.2 (HSB.out.1 rfl)) hrz
    subst hst
    rw [if_neg hrz, if_neg (by have := HR0.out; omega)] at HSG
    clear hrz
    go_wp2_with fail
    refine HSG.out.mono ?_
    rintro e w9 ⟨rfl, rfl⟩
    go_wp2
    go_ret
    exact ⟨rfl, HF.out⟩
theorem powers_law (u : Value) (xs : List Int) (a b : Int) (w : World) (hu : Sl w u xs) (_ : -9223372036854775808 ≤ a) (_ : a ≤ 9223372036854775807) (_ : -9223372036854775808 ≤ b) (_ : b ≤ 9223372036854775807) (htab : Tab w.heap.size w) :
    Calls Tryd.prog 8 #[u, .int .i64 a, .int .i64 b] w fun e w' => e = .returned (.bool true) ∧ Below w.heap.size w w' := by
  by_cases h : (fault xs).1 = 0
  · by_cases k0 : 1000000000 < a
    · exact powers_a1 u xs a b w hu htab h k0
    · by_cases k1 : a < -1000000000
      · exact powers_a2 u xs a b w hu htab h k0 k1
      · by_cases k2 : 1000000000 < b
        · exact powers_b1 u xs a b w hu htab h k0 k1 k2
        · by_cases k3 : b < -1000000000
          · exact powers_b2 u xs a b w hu htab h k0 k1 k2 k3
          · exact powers_good u xs a b w hu htab h k0 k1 k2 k3
  · exact powers_bad u xs a b w hu htab h
end Go.Proofs.YtjchmhngfnlbhaaDoor
