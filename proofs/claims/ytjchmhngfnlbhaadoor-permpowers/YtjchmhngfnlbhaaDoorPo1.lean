/- The statements' big numbers: Sign; QuoRem, DivMod and Mod of a number of one word by whatever number above nought. -/
import Derived.Test.YtjchmhngfnlbhaaDoorBz
namespace Go.Proofs.YtjchmhngfnlbhaaDoor
open Go Go.RowKit

theorem can_small {la : List Nat} (ha : Can la) (h : wv la < 4294967296) : la.length ≤ 1 := by
  rcases Nat.lt_or_ge 1 la.length with hl | hl
  · have h1 := ha.ge (by intro e; subst e; simp at hl)
    have h2 : 4294967296 ^ 1 ≤ 4294967296 ^ (la.length - 1) := Nat.pow_le_pow_right (by omega) (by omega)
    omega
  · exact hl

set_option maxRecDepth 100000 in
set_option maxHeartbeats 4000000 in
theorem div_less (u v : Value) (la lb : List Nat) (w : World) (hu : WSl w u la) (hv : WSl w v lb) (ha : Can la) (hb : Can lb) (hlt : wv la < wv lb) (hl : la.length + lb.length ≤ 10000000) :
    Calls Tryd.prog 113 #[u, v] w fun e w' => (∃ q r qs rs, e = .returned (.tuple #[q, r]) ∧ WSl w' q qs ∧ WSl w' r rs ∧ Can qs ∧ Can rs ∧ wv qs = wv la / wv lb ∧ wv rs = wv la % wv lb ∧ qs.length ≤ la.length + 2 ∧ rs.length ≤ la.length + 2) ∧ Below w.heap.size w w' := by
  have hcm := cmp_w u v la lb w hu hv ha hb (by omega)
  have hk : cmpN (wv la) (wv lb) = -1 := by unfold cmpN; rw [if_pos hlt]
  rw [hk] at hcm
  have hb0 : 0 < lb.length := by
    rcases Nat.eq_zero_or_pos lb.length with h | h
    · have := List.length_eq_zero_iff.1 h
      subst this; simp [wv] at hlt
    · exact h
  have hbi : ¬ (lb.length : Int) = 0 := by omega
  have hbn : ¬ lb.length = 0 := by omega
  have HC := hide hcm
  have HR := hide (And.intro (Nat.div_eq_of_lt hlt) (Nat.mod_eq_of_lt hlt))
  have HL := hide hl
  obtain ⟨av, cv, rfl⟩ := hu.shape
  obtain ⟨bv, dv, rfl⟩ := hv.shape
  clear hcm hk hlt hl
  go_enter Tryd.func113, Tryd.ntmps113
  go_wp2_with fail
  refine HC.out.mono ?_
  rintro e w1 ⟨rfl, hb1⟩
  replace hu := hu.below hb1
  go_wp2_with fail
  refine (twin_ok _ la w1 hu (by have := HL.out; omega)).mono ?_
  rintro e w2 ⟨⟨r, rfl, hr⟩, hb2⟩
  go_wp2
  go_ret2
  exact ⟨⟨_, r, [], la, rfl, WSl.nil _, hr, ⟨by simp, by simp⟩, ha, by rw [HR.out.1]; rfl, HR.out.2.symm, by simp, by omega⟩, bcat2 hb1 hb2⟩
theorem div_short (u v : Value) (la lb : List Nat) (w : World) (hu : WSl w u la) (hv : WSl w v lb) (ha : Can la) (hb : Can lb) (hla : wv la < 4294967296) (hlb : 0 < wv lb) (hl : lb.length ≤ 1000000) :
    Calls Tryd.prog 113 #[u, v] w fun e w' => (∃ q r qs rs, e = .returned (.tuple #[q, r]) ∧ WSl w' q qs ∧ WSl w' r rs ∧ Can qs ∧ Can rs ∧ wv qs = wv la / wv lb ∧ wv rs = wv la % wv lb ∧ qs.length ≤ 3 ∧ rs.length ≤ 3) ∧ Below w.heap.size w w' := by
  have h1 := can_small ha hla
  by_cases hd : wv lb < 4294967296
  · obtain ⟨d, hdd⟩ : ∃ d, wv lb = d := ⟨_, rfl⟩
    rw [hdd] at hd hlb
    obtain rfl := can_one hb hdd hlb hd
    have e : wv [d] = d := by simp [wv]
    refine (div_one u v la d w hu hv ha hlb hd (by omega)).mono ?_
    rintro e' w' ⟨⟨q, r, qs, rs, rfl, a1, a2, a3, a4, a5, a6, a7, a8⟩, hB⟩
    exact ⟨⟨q, r, qs, rs, rfl, a1, a2, a3, a4, by rw [e, a5], by rw [e, a6], by omega, by omega⟩, hB⟩
  · refine (div_less u v la lb w hu hv ha hb (by omega) (by omega)).mono ?_
    rintro e' w' ⟨⟨q, r, qs, rs, rfl, a1, a2, a3, a4, a5, a6, a7, a8⟩, hB⟩
    exact ⟨⟨q, r, qs, rs, rfl, a1, a2, a3, a4, a5, a6, by omega, by omega⟩, hB⟩

set_option maxRecDepth 100000 in
set_option maxHeartbeats 8000000 in
theorem quoRem_z (bz br bx by_ m m' n : Nat) (x : Int) (z1 z2 r1 r2 : Value) (w : World) (hZ : Blk w bz 57 [z1, z2]) (hR : Blk w br 57 [r1, r2]) (hne : bz ≠ br) (hx : BigZ w bx x m) (hy : BigZ w by_ (n : Int) m') (hn : 0 < n) (hxs : x.natAbs < 4294967296) (hm : m' ≤ 1000000) :
    Calls Tryd.prog 83 #[.pointer (some ⟨bz, 0, none⟩), .pointer (some ⟨bx, 0, none⟩), .pointer (some ⟨by_, 0, none⟩), .pointer (some ⟨br, 0, none⟩)] w fun e w' => e = .returned (.tuple #[.pointer (some ⟨bz, 0, none⟩), .pointer (some ⟨br, 0, none⟩)]) ∧ BigZ w' bz (sg (decide (x < 0)) (x.natAbs / n)) 3 ∧ BigZ w' br (sg (decide (x < 0)) (x.natAbs % n)) 3 ∧ (∀ B, B ≤ bz → B ≤ br → B ≤ w.heap.size → Below B w w') ∧ ∀ b z k, b ≠ bz → b ≠ br → BigZ w b z k → BigZ w' b z k := by
  obtain ⟨vx, lx, hX, hWx, hcx, hvx, hlx⟩ := hx
  obtain ⟨vy, ly, hY, hWy, hcy, hvy, hly⟩ := hy
  rw [decide_eq_false (by omega)] at hY
  rw [Int.natAbs_natCast] at hvy
  obtain ⟨ax, cx, rfl⟩ := hWx.shape
  obtain ⟨ay, cy, rfl⟩ := hWy.shape
  rw [← hvx, ← hvy]
  have HDV := hide (fun (W : World) (h1 : WSl W (.slice ax lx.length cx) lx) (h2 : WSl W (.slice ay ly.length cy) ly) => div_short _ _ lx ly W h1 h2 hcx hcy (by omega) (by omega) (by omega))
  obtain ⟨xn, hxn⟩ : ∃ xn, decide (x < 0) = xn := ⟨_, rfl⟩
  rw [hxn] at hX ⊢
  have hS : ∀ W, Below w.heap.size w W → (Below w.heap.size w W ∧ W.cell? ⟨bx, 0, none⟩ = some (.bool xn) ∧ W.cell? ⟨bx, 1, none⟩ = some (.slice ax lx.length cx) ∧ W.cell? ⟨by_, 0, none⟩ = some (.bool false) ∧ W.cell? ⟨by_, 1, none⟩ = some (.slice ay ly.length cy)) := fun W h =>
    have a1 : Blk W bx 57 [.bool xn, .slice ax lx.length cx] := hX.of_eq (h.block _ hX.lt)
    have a2 : Blk W by_ 57 [.bool false, .slice ay ly.length cy] := hY.of_eq (h.block _ hY.lt)
    ⟨h, a1.cell 0, a1.cell 1, a2.cell 0, a2.cell 1⟩
  have hS0 := hS _ (bdrew (Below.refl _ _))
  have HZ := hide (And.intro hZ hR)
  have hxf : (xn != false) = xn := by cases xn <;> rfl
  clear hX hY hcx hcy hvx hvy hZ hR hlx hly hxn hxs hn
  go_enter Tryd.func83, Tryd.ntmps83
  go_wp2_with fail
  go_region_held3 (fun W => Below w.heap.size w W ∧ W.cell? ⟨bx, 0, none⟩ = some (.bool xn) ∧ W.cell? ⟨bx, 1, none⟩ = some (.slice ax lx.length cx) ∧ W.cell? ⟨by_, 0, none⟩ = some (.bool false) ∧ W.cell? ⟨by_, 1, none⟩ = some (.slice ay ly.length cy))
    (exact hS0) (fail)
  have hS1 := hS _ (bdrew hS0.1)
  go_wp2_with fail
  go_region_held3 (fun W => Below w.heap.size w W ∧ W.cell? ⟨bx, 0, none⟩ = some (.bool xn) ∧ W.cell? ⟨bx, 1, none⟩ = some (.slice ax lx.length cx) ∧ W.cell? ⟨by_, 0, none⟩ = some (.bool false) ∧ W.cell? ⟨by_, 1, none⟩ = some (.slice ay ly.length cy))
    (first | exact hS1 | exact hS _ (bcat2 (And.left ‹_ ∧ _›) hl1))
    (first
      | (go_at_call 113; refine (HDV.out _ (hWx.below (And.left ‹_ ∧ _›)) (hWy.below (And.left ‹_ ∧ _›))).mono ?_; rintro e W1 ⟨⟨q, r, qs, rs, rfl, hq1, hr1, hq2, hr2, hq3, hr3, hq4, hr4⟩, hl1⟩; obtain ⟨qa, qc, rfl⟩ := hq1.shape; obtain ⟨ra, rc, rfl⟩ := hr1.shape))
  have hB1 := And.left ‹Below w.heap.size w W1 ∧ _›
  have hZ1 : Blk W1 bz 57 [z1, z2] := HZ.out.1.of_eq (hB1.block _ HZ.out.1.lt)
  have hR1 : Blk W1 br 57 [r1, r2] := HZ.out.2.of_eq (hB1.block _ HZ.out.2.lt)
  have HQ := hide (And.intro hq3 (And.intro hr3 (And.intro hq4 hr4)))
  clear hS hS0 hS1 hq3 hr3 hq4 hr4
  go_wp2_with fail
  refine (give_ok bz xn z1 z2 _ qs _ hZ1 hq1).mono ?_
  rintro e W2 ⟨rfl, hz2, hg2⟩
  have hR2 : Blk W2 br 57 [r1, r2] := hR1.grown hg2 (by simpa using hne.symm)
  have hr5 : WSl W2 (.slice ra rs.length rc) rs := hr1.grown hg2 (fun g c fz hh e => by
    obtain rfl : g = bz := Option.some.inj e
    rw [show W1.heap[g]? = _ from hZ1] at hh; cases hh)
  have hzz := BigZ.given hZ1 hz2 hg2 hq1 hq2 (m := 3) HQ.out.2.2.1 (z := sg xn (wv lx / wv ly)) (by rw [HQ.out.1]; rfl)
  go_wp2_with fail
  refine (give_ok br xn r1 r2 _ rs _ hR2 hr5).mono ?_
  rintro e W3 ⟨rfl, hz3, hg3⟩
  have hrr := BigZ.given hR2 hz3 hg3 hr5 hr2 (m := 3) HQ.out.2.2.2 (z := sg xn (wv lx % wv ly)) (by rw [HQ.out.2.1]; rfl)
  have hzz3 := hzz.other hR2 hg3 hne
  have hfin : ∀ B, B ≤ bz → B ≤ br → B ≤ w.heap.size → Below B w W3 := fun B b1 b2 b3 =>
    ((hB1.mono b3).grown hg2 (by have := hB1.size; omega) (fun j e => by cases e; exact b1)).grown hg3 (by have := hB1.size; have := hg2.size; omega) (fun j e => by cases e; exact b2)
  have hoth : ∀ b z k, b ≠ bz → b ≠ br → BigZ w b z k → BigZ W3 b z k := fun b z k n1 n2 h => ((h.below hB1).other hZ1 hg2 n1).other hR2 hg3 n2
  have HF := hide (And.intro hzz3 (And.intro hrr (And.intro hfin hoth)))
  clear hzz hzz3 hrr hfin hoth
  go_wp2
  go_ret2
  exact ⟨rfl, HF.out⟩

set_option maxRecDepth 100000 in
set_option maxHeartbeats 1000000 in
theorem zsign_ok (b m : Nat) (z : Int) (w : World) (hb : BigZ w b z m) :
    Calls Tryd.prog 36 #[.pointer (some ⟨b, 0, none⟩)] w fun e w' => e = .returned (.int .i64 (if z = 0 then 0 else if z < 0 then -1 else 1)) ∧ w' = w := by
  obtain ⟨a, l, c, hX, h0, h1⟩ := hb.size0
  have c0 := hX.cell 0
  have c1 : w.cell? ⟨b, 1, none⟩ = some (.slice a l c) := hX.cell 1
  clear hX
  by_cases hz : z = 0
  · obtain rfl := h0 hz
    rw [if_pos hz]
    clear h0 h1
    go_enter Tryd.func36, Tryd.ntmps36
    go_wp2
    go_ret
    exact ⟨rfl, rfl⟩
  · have hl := h1 hz
    have hl1 : ((l : Int) == 0) = false := by simp; omega
    have hl2 : ¬ (l : Int) = 0 := by omega
    have hl3 : ¬ l = 0 := by omega
    rw [if_neg hz]
    clear h0 h1 hl
    by_cases hn : z < 0
    · rw [if_pos hn]
      have hd : decide (z < 0) = true := decide_eq_true hn
      have c0' : w.cell? ⟨b, 0, none⟩ = some (.bool true) := by rw [← hd]; exact c0
      clear c0 hd hn hz
      go_enter Tryd.func36, Tryd.ntmps36
      go_wp2
      go_ret
      exact ⟨rfl, rfl⟩
    · rw [if_neg hn]
      have hd : decide (z < 0) = false := decide_eq_false hn
      have c0' : w.cell? ⟨b, 0, none⟩ = some (.bool false) := by rw [← hd]; exact c0
      clear c0 hd hn hz
      go_enter Tryd.func36, Tryd.ntmps36
      go_wp2
      go_ret
      exact ⟨rfl, rfl⟩
end Go.Proofs.YtjchmhngfnlbhaaDoor
