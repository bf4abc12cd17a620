/- Package series' Factors at everything; what Composition answers is a composition series. Condition: the library's table of places lies as its text lays it. The law SeriesJordan: its walk, what it calls as premises. Condition: the library's table of places lies as its text lays it. The law SeriesJordan (JORDAN AND HOELDER): at every table and every list of lists it returns true. Condition: the library's table of places lies as its text lays it. The frame that all rows of this family share: how a table that came in reads. The frame that all rows of this family share: what the listed table gives a walk; how a list of ints that came in reads. How a list of lists of ints that came in reads. No condition. -/
import Derived.Test.YtjiapicknkjhmaaDoorZ10
import Derived.Test.YtjiapicknkjhmaaDoorRows
import Derived.Test.YtjiapicknkjhmaaDoorZ1
import Derived.ProofKit
import Derived.OpenShut
import Derived.ChangeOld
import Derived.Below
import Derived.SizedLaws
import Derived.LaidMore
import Derived.Stop.Joined
import Derived.Stop.LaidErr
import Derived.Lib.LaidTab
import Derived.Test.YtjiapicknkjhmaaDoorZ4
import Derived.Deep.Matrix
namespace Go.Proofs.YtjiapicknkjhmaaDoor
open Go Go.RowKit

section
variable {n e K : Nat} {zs : List Int}
theorem half_of {A B : Nat → Bool} (g : IsGrp n zs e) (hA : Fin.SgB (List.range n) (tm n zs) e A) (h : Mxg n zs e A B) : 2 * (lst n B).length ≤ (lst n A).length := by
  obtain ⟨c, hc⟩ := Fin.sz_dvd (grp_fg g) h.sg hA h.sub
  have h1 := Fin.sz_lt h.sub h.less
  have h2 : (lst n A).length = (lst n B).length * c := hc
  have h3 : (lst n B).length < (lst n A).length := h1
  rcases Nat.lt_or_ge c 2 with h4 | h4
  · have : c = 0 ∨ c = 1 := by omega
    rcases this with rfl | rfl
    · omega
    · omega
  · have := Nat.mul_le_mul_left (lst n B).length h4
    omega
theorem comp_fok (g : IsGrp n zs e) (hst : Stp n (grt n zs e) (fun q => Fin.Sg (List.range n) (tm n zs) e (fun a => q a = true)) (fun q => (lst n q).length) (fun _ => true) K) (hend : bs (itr (grt n zs e) (fun _ => true) (K + 1)) n = bs (itr (grt n zs e) (fun _ => true) K) n) :
    FOK n zs e (sls n (itr (grt n zs e) (fun _ => true)) (K + 1)) := by
  have hmx : ∀ k, k < K → Mxg n zs e (itr (grt n zs e) (fun _ => true) k) (itr (grt n zs e) (fun _ => true) (k + 1)) := fun k hk => comp_mxn g (hst.inv k (by omega)) (hst.go k hk)
  have hhalf : ∀ k, k ≤ K → 2 ^ k * (lst n (itr (grt n zs e) (fun _ => true) k)).length ≤ n := by
    intro k
    induction k with
    | zero =>
      intro _
      have := lst_len n (itr (grt n zs e) (fun _ => true) 0)
      omega
    | succ k ih =>
      intro hk
      have h1 := ih (by omega)
      have h2 := half_of g (hst.inv k (by omega)) (hmx k (by omega))
      have h3 := Nat.mul_le_mul_left (2 ^ k) h2
      rw [Nat.pow_succ, Nat.mul_assoc]
      omega
  have hone : ∀ x, x < n → itr (grt n zs e) (fun _ => true) K x = true → x = e := fun x hx h1 => Classical.byContradiction fun h2 => by
    have h3 := grt_top g (hst.inv K (Nat.le_refl _)) ⟨x, hx, h1, h2⟩
    obtain ⟨y, hy, h4, h5⟩ := h3.less
    exact h5 (by
      have := bs_inj hend y (List.mem_range.1 hy)
      rw [show itr (grt n zs e) (fun _ => true) (K + 1) = grt n zs e (itr (grt n zs e) (fun _ => true) K) from rfl] at this
      rw [this]; exact h4)
  have hK : K ≤ 5 := by
    rcases Nat.lt_or_ge K 6 with h | h
    · omega
    · exfalso
      have h1 := hhalf K (Nat.le_refl _)
      have h2 : 1 ≤ (lst n (itr (grt n zs e) (fun _ => true) K)).length := Fin.sz_pos (grp_fg g) (hst.inv K (Nat.le_refl _))
      have h3 : 2 ^ 6 ≤ 2 ^ K := Nat.pow_le_pow_right (by omega) h
      have h4 := Nat.mul_le_mul h3 h2
      have := g.tab.le
      omega
  have hat : ∀ k, k < K + 1 → (sls n (itr (grt n zs e) (fun _ => true)) (K + 1))[k]?.getD [] = li (lst n (itr (grt n zs e) (fun _ => true) k)) := fun k hk => sls_at hk
  refine ⟨by rw [sls_len]; omega, by rw [sls_len]; omega, ?_, ?_, fun k hk => ?_, fun t h1 h2 => ?_⟩
  · rw [hat 0 (by omega), li_len]
    show (lst n fun _ => true).length = n
    rw [all_lst, List.length_range]
  · rw [sls_len, Nat.add_sub_cancel, hat K (by omega), li_len]
    exact (Fin.sz_one (grp_fg g) (hst.inv K (Nat.le_refl _))).2 (fun x hx h => hone x (List.mem_range.1 hx) h)
  · rw [sls_len] at hk
    rw [hat k hk]
    unfold gdB
    rw [Bool.and_eq_true, decide_eq_true_eq]
    exact ⟨lst_fault n _, (subT_congr g fun a ha => pset_lst ha).trans (subT_iff.2 (hst.inv k (by omega)))⟩
  · rw [sls_len] at h2
    rw [hat (t - 1) (by omega), hat t h2]
    have h3 := hmx (t - 1) (by omega)
    rw [Nat.sub_add_cancel h1] at h3
    exact h3.congr g (bs_ext fun a ha => (pset_lst ha).symm) (bs_ext fun a ha => (pset_lst ha).symm)
end
/-- What Factors answers. -/
theorem factors_grp (n e : Nat) (v lv : Value) (zs : List Int) (ls : List (List Int)) (w : World) (hv : Sl w v zs) (hg : IsGrp n zs e) (hT : Tab w) (hL : SlL w lv ls) :
    Calls Tryd.prog 21 #[.agg #[.int .i64 n, v], lv] w fun x w' => ∃ (y : Value) (c i : Int), x = .returned (.tuple #[y, .agg #[.int .i64 c, .int .i64 i]]) ∧ ((c ≠ 0 ∧ ¬ FOK n zs e ls) ∨ (c = 0 ∧ i = 0 ∧ FOK n zs e ls ∧ Row w' w.heap.size y (srtI (qts ls ls.length)))) ∧ Below w.heap.size w w' := by
  obtain ⟨v1, v2, v3, rfl⟩ := hv.isSlice
  have HC0 := hide (fun W (h : Below w.heap.size w W) => check_any n (.slice v1 v2 v3) zs W (hv.below h))
  rw [gfault_of_grp hg] at HC0
  by_cases hm : ls.length < 1 ∨ 10 < ls.length
  · refine (fac_chk n (.slice v1 v2 v3) lv w 2 0 (by decide) HC0 (hide fun W h => checked_many n (.slice v1 v2 v3) lv ls W (hL.below h) hm)).mono ?_
    rintro x w' ⟨rfl, hb⟩
    exact ⟨_, 2, 0, rfl, .inl ⟨by decide, fun h => by have := h.l1; have := h.l2; omega⟩, hb⟩
  · have l1 : 1 ≤ ls.length := by omega
    have l2 : ls.length ≤ 10 := by omega
    by_cases hs : (ls[0]?.getD []).length ≠ n ∨ (ls[ls.length - 1]?.getD []).length ≠ 1
    · refine (fac_chk n (.slice v1 v2 v3) lv w 8 0 (by decide) HC0 (hide fun W h => checked_size n (.slice v1 v2 v3) lv ls W (hL.below h) l1 l2 hs)).mono ?_
      rintro x w' ⟨rfl, hb⟩
      exact ⟨_, 8, 0, rfl, .inl ⟨by decide, fun h => by
        rcases hs with h1 | h1
        · exact h1 h.s0
        · exact h1 h.s1⟩, hb⟩
    · have s0 : (ls[0]?.getD []).length = n := Classical.byContradiction fun h => hs (.inl h)
      have s1 : (ls[ls.length - 1]?.getD []).length = 1 := Classical.byContradiction fun h => hs (.inr h)
      rcases least_cases ls.length (fun i => !gdB n zs e (ls[i]?.getD [])) with ⟨k, hk, h1, h2, _⟩ | ⟨h1, _⟩
      · have h1 : gdB n zs e (ls[k]?.getD []) = false := by simpa using h1
        have h2 : ∀ t, t < k → gdB n zs e (ls[t]?.getD []) = true := fun t ht => by simpa using h2 t ht
        refine (fac_chk n (.slice v1 v2 v3) lv w 5 k (by decide) HC0 (hide fun W h => checked_go n e (.slice v1 v2 v3) lv zs ls W (hv.below h) hg (hT.below h) (hL.below h) l1 l2 s0 s1 5 k (.inr ⟨k, hk, h2, h1, rfl, rfl⟩))).mono ?_
        rintro x w' ⟨rfl, hb⟩
        exact ⟨_, 5, k, rfl, .inl ⟨by decide, fun h => by have := h.gd k hk; rw [h1] at this; cases this⟩, hb⟩
      · have h1 : ∀ t, t < ls.length → gdB n zs e (ls[t]?.getD []) = true := fun t ht => by simpa using h1 t ht
        have hn := hg.tab.le
        refine (fac_go n v1 v2 v3 ls (fun t => stpc n zs e (pset (ls[t - 1]?.getD [])) (pset (ls[t]?.getD []))) lv w hL l1 l2 (fun t ht => ?_) HC0 (hide fun W h => checked_go n e (.slice v1 v2 v3) lv zs ls W (hv.below h) hg (hT.below h) (hL.below h) l1 l2 s0 s1 0 0 (.inl ⟨h1, rfl, rfl⟩)) (hide fun W t a b h ht1 ht2 ha hb => ?_)).mono ?_
        · have h3 := h1 t ht
          have h4 := gd_len h3
          have h5 := Fin.sz_pos (grp_fg hg) (subT_iff.1 (gd_lst h3).2)
          have h6 := lst_len n (pset (ls[t]?.getD []))
          have h7 : Fin.sz (List.range n) (pset (ls[t]?.getD [])) = (lst n (pset (ls[t]?.getD []))).length := rfl
          omega
        · have g1 := gd_lst (h1 (t - 1) (by omega))
          have g2 := gd_lst (h1 t ht2)
          exact cstep_ok n e (.slice v1 v2 v3) a b zs (pset (ls[t - 1]?.getD [])) (pset (ls[t]?.getD [])) W (hv.below h) (by rw [← g1.1]; exact ha) (by rw [← g2.1]; exact hb) hg (hT.below h) g1.2 g2.2
        · rintro x w' ⟨y, c, i, rfl, hc | ⟨h3, rfl, rfl, hr⟩, hb⟩
          · obtain ⟨t, ht1, ht2, _, h4, rfl, rfl, rfl⟩ := hc
            exact ⟨_, _, _, rfl, .inl ⟨h4, fun h => h4 (stpc_zero.2 (h.mx t ht1 ht2))⟩, hb⟩
          · exact ⟨y, 0, 0, rfl, .inr ⟨rfl, rfl, ⟨l1, l2, s0, s1, h1, fun t ht1 ht2 => stpc_zero.1 (h3 t ht1 ht2)⟩, hr⟩, hb⟩
end Go.Proofs.YtjiapicknkjhmaaDoor

namespace Go.Proofs.YtjiapicknkjhmaaDoor
open Go Go.RowKit

set_option maxRecDepth 100000 in
set_option maxHeartbeats 4000000 in
theorem sjor_many (N : Int) (v : Value) (l1 : Option Addr) (L l3 : Nat) (w : World) (hT : Tab w) (hm : 100 < L) :
    Calls Tryd.prog 5 #[.agg #[.int .i64 N, v], .slice l1 L l3] w fun e w' => e = .returned (.bool true) ∧ Below w.heap.size w w' := by
  have hB0 : Below w.heap.size w (w.alloc (.cells #[.int .i64 N, v] 24)) := balloc w _
  have hmi : (L : Int) > 100 := by omega
  go_enter Tryd.func5, Tryd.ntmps5
  go_wp2_with fail
  generalize w.alloc (.cells #[.int .i64 N, v] 24) = w0 at *
  refine (seriesBegun_any _ (hT.below hB0)).mono ?_
  rintro x w1 ⟨rfl, hb1⟩
  go_wp2
  go_ret
  exact ⟨rfl, bcat2 hB0 hb1⟩
set_option maxRecDepth 100000 in
set_option maxHeartbeats 8000000 in
theorem sjor_walk (N : Int) (v1 : Option Addr) (v2 v3 : Nat) (l1 : Option Addr) (L l3 : Nat) (SL : List Int) (G : Prop) (MM : World → Value → Prop) (w : World) (hT : Tab w) (hm : L ≤ 100)
    (HFA : Hid (∀ W, Below w.heap.size w W → Calls Tryd.prog 21 #[.agg #[.int .i64 N, .slice v1 v2 v3], .slice l1 L l3] W fun x W' => ∃ y c i, x = .returned (.tuple #[y, .agg #[.int .i64 c, .int .i64 i]]) ∧ (c ≠ 0 ∨ (c = 0 ∧ i = 0 ∧ G ∧ ∃ a cap, y = .slice a SL.length cap ∧ Sl W' (.slice a SL.length cap) SL)) ∧ Below W.heap.size W W'))
    (HCO : Hid (∀ W, G → Below w.heap.size w W → Calls Tryd.prog 16 #[.agg #[.int .i64 N, .slice v1 v2 v3]] W fun x W' => ∃ y1 y2 y3, x = .returned (.tuple #[.slice y1 y2 y3, .agg #[.int .i64 0, .int .i64 0]]) ∧ MM W' (.slice y1 y2 y3) ∧ Below W.heap.size W W'))
    (HFB : Hid (∀ W y, G → Below w.heap.size w W → MM W y → Calls Tryd.prog 21 #[.agg #[.int .i64 N, .slice v1 v2 v3], y] W fun x W' => ∃ a cap, x = .returned (.tuple #[.slice a SL.length cap, .agg #[.int .i64 0, .int .i64 0]]) ∧ Sl W' (.slice a SL.length cap) SL ∧ Below W.heap.size W W'))
    (HMM : Hid (∀ W W' y, MM W y → Below W.heap.size W W' → MM W' y))
    (HG : Hid (G → prI SL = N ∧ N ≤ 60 ∧ SL.length ≤ 60 ∧ ∀ x, x ∈ SL → 1 ≤ x)) :
    Calls Tryd.prog 5 #[.agg #[.int .i64 N, .slice v1 v2 v3], .slice l1 L l3] w fun e w' => e = .returned (.bool true) ∧ Below w.heap.size w w' := by
  have hB0 : Below w.heap.size w (w.alloc (.cells #[.int .i64 N, .slice v1 v2 v3] 24)) := balloc w _
  have hX0 : BoxG (w.alloc (.cells #[.int .i64 N, .slice v1 v2 v3] 24)) w.heap.size N (.slice v1 v2 v3) := blk0 (w := w) (T := 24) _ _
  have hmi : ¬ (L : Int) > 100 := by omega
  go_enter Tryd.func5, Tryd.ntmps5
  go_wp2_with fail
  generalize w.alloc (.cells #[.int .i64 N, .slice v1 v2 v3] 24) = w0 at *
  refine (seriesBegun_any _ (hT.below hB0)).mono ?_
  rintro x w1 ⟨rfl, hb1⟩
  have hB1 := bcat2 hB0 hb1
  have hX1 := blk_below hX0 hb1
  obtain ⟨c0, c1, _, _⟩ := hX1.two
  go_wp2_with fail
  clear c0 c1
  refine (HFA.out _ hB1).mono ?_
  rintro x w2 ⟨y, c, i, rfl, hcase, hb2⟩
  obtain ⟨w3, hw3⟩ : ∃ w3, w3 = w2.alloc (.cells #[.int .i64 c, .int .i64 i] 27) := ⟨_, rfl⟩
  have hb3 : Below w2.heap.size w2 w3 := by rw [hw3]; exact balloc w2 _
  have hF3 : Blk w3 w2.heap.size 27 [.int .i64 c, .int .i64 i] := by rw [hw3]; exact blk0 _ _
  have hB3 := bcat2 hB1 (bcat2 hb2 hb3)
  have hX3 := blk_below hX1 (bcat2 hb2 hb3)
  have HCA := hide hcase
  clear hcase hX0 hX1 HFA
  obtain ⟨f0, f1, _, _⟩ := hF3.two
  obtain ⟨c0, c1, _, _⟩ := hX3.two
  rw [hw3] at f0 f1 c0 c1
  rcases HCA.out with hc | ⟨rfl, rfl, hG, a, cap, rfl, hsA⟩
  · have hcb : (c != 0) = true := by simpa using hc
    go_wp2
    rw [← hw3]
    go_ret
    exact ⟨rfl, hB3⟩
  · obtain ⟨hpr, hN6, hS6, hpo⟩ := HG.out hG
    have HGG := hide hG
    have HPR := hide hpr
    have HPO := hide hpo
    have hsA3 := hsA.below hb3
    clear hpr hpo hsA hG HCA
    go_wp2_with fail
    rw [← hw3]
    clear f0 f1 c0 c1 hw3
    refine (HCO.out _ HGG.out hB3).mono ?_
    rintro x w4 ⟨y1, y2, y3, rfl, hM4, hb4⟩
    obtain ⟨w5, hw5⟩ : ∃ w5, w5 = w4.alloc (.cells #[.int .i64 0, .int .i64 0] 27) := ⟨_, rfl⟩
    have hb5 : Below w4.heap.size w4 w5 := by rw [hw5]; exact balloc w4 _
    have hF5 : Blk w5 w4.heap.size 27 [.int .i64 0, .int .i64 0] := by rw [hw5]; exact blk0 _ _
    have hB5 := bcat2 hB3 (bcat2 hb4 hb5)
    have hX5 := blk_below hX3 (bcat2 hb4 hb5)
    have hM5 := HMM.out _ _ _ hM4 hb5
    have hsA5 := hsA3.below (bcat2 hb4 hb5)
    obtain ⟨c0, c1, _, _⟩ := hX5.two
    rw [hw5] at c0 c1
    go_wp2_with fail
    rw [← hw5]
    clear c0 c1 hw5
    refine (HFB.out _ _ HGG.out hB5 hM5).mono ?_
    rintro x w6 ⟨b, bcap, rfl, hsB, hb6⟩
    obtain ⟨w7, hw7⟩ : ∃ w7, w7 = w6.alloc (.cells #[.int .i64 0, .int .i64 0] 27) := ⟨_, rfl⟩
    have hb7 : Below w6.heap.size w6 w7 := by rw [hw7]; exact balloc w6 _
    have hH7 : Blk w7 w6.heap.size 27 [.int .i64 0, .int .i64 0] := by rw [hw7]; exact blk0 _ _
    have hF7 := blk_below hF5 (bcat2 hb6 hb7)
    have hB7 := bcat2 hB5 (bcat2 hb6 hb7)
    have hX7 := blk_below hX5 (bcat2 hb6 hb7)
    have hsA7 := hsA5.below (bcat2 hb6 hb7)
    have hsB7 := hsB.below hb7
    obtain ⟨pa, pcap, pb, po, hpe, hpr, hpp, _, _⟩ := id hsA7
    injection hpe with hpe1 hpe2 hpe3
    subst hpe1 hpe3
    have HRD := hide hpr
    clear hpr hpe2
    go_wp2_with fail
    rw [← hw7]
    clear hw7
    go_loopw [11, 12] (fun nv iv wr => ∃ j : Nat, j ≤ SL.length ∧ iv = .int .i64 j ∧ nv = .int .i64 (prI (SL.take j)) ∧ wr = w7) (fun _ iv _ => SL.length - (intOf iv).toNat)
    case atStart => exact ⟨0, Nat.zero_le _, rfl, rfl, rfl⟩
    case round =>
      obtain ⟨j, hj, rfl, rfl, rfl⟩ := hrel
      by_cases hlt : j < SL.length
      · have hji : (j : Int) < (SL.length : Int) := by omega
        have hcj := HRD.out.cell j hlt
        obtain rfl := HRD.out.at_ (by omega)
        have HUP := hide (show prI (SL.take (j + 1)) = prI (SL.take j) * SL[j]?.getD 0 by
          rw [List.take_succ_eq_append_getElem hlt, prI_app]
          simp [hlt])
        have hb9 := (prI_take HPO.out (j + 1))
        rw [HPR.out, HUP.out] at hb9
        have hmul : IntKind.i64.wrap (prI (SL.take j) * SL[j]?.getD 0) = prI (SL.take j) * SL[j]?.getD 0 := by rw [IntKind.wrap_i64]; omega
        generalize hx9 : prI (SL.take j) = x9 at *
        generalize hy9 : SL[j]?.getD 0 = y9 at *
        clear hx9 hy9 hb9
        go_wp2
        go_roundw
        case rel => exact ⟨j + 1, by omega, by go_num, by rw [HUP.out], trivial⟩
        case measure => simp [intOf]; omega
      · have hji : ¬ (j : Int) < (SL.length : Int) := by omega
        have HE := hide (show prI (SL.take j) = N by rw [show j = SL.length by omega, List.take_length]; exact HPR.out)
        rw [HE.out]
        obtain ⟨c0, c1, _, _⟩ := hX7.two
        obtain ⟨f0, f1, _, _⟩ := hF7.two
        obtain ⟨h0, h1, _, _⟩ := hH7.two
        have HIN := hide (ints_any _ _ _ _ wr hsA7 hsB7)
        rw [decide_eq_true (show SL = SL from rfl)] at HIN
        go_wp2_with fail
        refine HIN.out.mono ?_
        rintro x w9 ⟨rfl, hb9⟩
        go_wp2
        go_ret
        exact ⟨rfl, bcat2 hB7 hb9⟩
end Go.Proofs.YtjiapicknkjhmaaDoor

namespace Go.Proofs.YtjiapicknkjhmaaDoor
open Go Go.RowKit

theorem row_slice {W : World} {B : Nat} {v : Value} {zs : List Int} (h : Row W B v zs) (h0 : 0 < W.heap.size) : ∃ a cap, v = .slice a zs.length cap ∧ Sl W (.slice a zs.length cap) zs := by
  have hs := row_sl h h0
  obtain ⟨a, cap, rfl⟩ := own_slice h
  exact ⟨a, cap, rfl, hs⟩
theorem sjor_law (N : Int) (v lv : Value) (zs : List Int) (ls : List (List Int)) (w : World) (hv : Sl w v zs) (hL : SlL w lv ls) (hT : Tab w) :
    Calls Tryd.prog 5 #[.agg #[.int .i64 N, v], lv] w fun e w' => e = .returned (.bool true) ∧ Below w.heap.size w w' := by
  obtain ⟨v1, v2, v3, rfl⟩ := hv.isSlice
  obtain ⟨l1, l3, lb, lo, rfl, hr1, hr2, hr3, hr4, hr5⟩ := id hL
  by_cases hm : 100 < ls.length
  · exact sjor_many N (.slice v1 v2 v3) l1 ls.length l3 w hT hm
  · by_cases hc : (gfault N zs).1 = 0
    · obtain ⟨n, e, rfl, hg, _⟩ := gfault_grp hc
      have hn := hg.tab.le
      refine sjor_walk n v1 v2 v3 l1 ls.length l3 (srtI (qts ls ls.length)) (FOK n zs e ls) (fun W y => ∃ ks, SlL W y ks ∧ FOK n zs e ks) w hT (by omega) (hide fun W h => ?_) (hide fun W hG h => ?_) (hide fun W y hG h hM => ?_) (hide fun W W' y hM hb => ?_) (hide fun hG => ?_)
      · refine (factors_grp n e (.slice v1 v2 v3) (.slice l1 ls.length l3) zs ls W (hv.below h) hg (hT.below h) (hL.below h)).mono ?_
        rintro x W' ⟨y, c, i, rfl, ⟨h1, _⟩ | ⟨rfl, rfl, h1, h2⟩, hb⟩
        · exact ⟨y, c, i, rfl, .inl h1, hb⟩
        · exact ⟨y, 0, 0, rfl, .inr ⟨rfl, rfl, h1, row_slice h2 (Nat.lt_of_lt_of_le (hT.below h).lt hb.size)⟩, hb⟩
      · refine (scmp_good n e (.slice v1 v2 v3) zs W (hv.below h) hg (hT.below h)).mono ?_
        rintro x W' ⟨y, rfl, ⟨K, g, c, rfl, hst, hend, _, hsl⟩, hb⟩
        exact ⟨_, _, _, rfl, ⟨_, hsl, comp_fok hg hst hend⟩, hb⟩
      · obtain ⟨ks, hks, hF⟩ := hM
        refine (factors_grp n e (.slice v1 v2 v3) y zs ks W (hv.below h) hg (hT.below h) hks).mono ?_
        rintro x W' ⟨y', c, i, rfl, ⟨_, h1⟩ | ⟨rfl, rfl, h1, h2⟩, hb⟩
        · exact absurd hF h1
        · rw [← hG.jordan hF hg] at h2
          obtain ⟨a, cap, rfl, hs⟩ := row_slice h2 (Nat.lt_of_lt_of_le (hT.below h).lt hb.size)
          exact ⟨a, cap, rfl, hs, hb⟩
      · obtain ⟨ks, hks, hF⟩ := hM
        exact ⟨ks, hks.below hb, hF⟩
      · refine ⟨hG.prod hg, by omega, ?_, hG.pos hg⟩
        rw [srtI_len, qts_len]
        have := hG.l2
        omega
    · refine sjor_walk N v1 v2 v3 l1 ls.length l3 [] False (fun _ _ => False) w hT (by omega) (hide fun W h => ?_) (hide fun W hG _ => hG.elim) (hide fun W y hG _ _ => hG.elim) (hide fun W W' y hM _ => hM.elim) (hide fun hG => hG.elim)
      refine (fac_bad N (.slice v1 v2 v3) (.slice l1 ls.length l3) W _ _ hc (hide fun W' h' => check_any N (.slice v1 v2 v3) zs W' (hv.below (bcat2 h h')))).mono ?_
      rintro x W' ⟨rfl, hb⟩
      exact ⟨_, _, _, rfl, .inl hc, hb⟩
end Go.Proofs.YtjiapicknkjhmaaDoor

namespace Go.Proofs.YtjiapicknkjhmaaDoor
open Go.ChangeShapes Go.WideShapes Go.ChangeAt Go.RowKit

theorem own : ownKnob Tryd.prog.godebug = none := by kernel_rfl
theorem laidOut : laidOutB Tryd.prog = true := by kernel_rfl

/-- A slice of ints that reads as zs; where nothing is in it, nothing is told of the memory. -/
def SlA (w : World) (v : Value) (zs : List Int) : Prop := ∃ a cap pb po, v = .slice a zs.length cap ∧ Reads w a pb po zs ∧ (0 < zs.length → pb < w.heap.size) ∧ zs.length ≤ cap ∧ cap ≤ maxLen
theorem SlA.up {w w' : World} {v : Value} {zs : List Int} (h : SlA w v zs) (hb : Below w.heap.size w w') (h0 : 0 < w'.heap.size) : Sl w' v zs := by
  obtain ⟨a, cap, pb, po, hv, hr, hp, h1, h2⟩ := h
  rcases Nat.eq_zero_or_pos zs.length with hz | hz
  · exact ⟨a, cap, 0, 0, hv, ⟨fun h => by omega, fun j hj => by omega⟩, h0, h1, h2⟩
  · exact ⟨a, cap, pb, po, hv, hr.below hb (hp hz), Nat.lt_of_lt_of_le (hp hz) hb.size, h1, h2⟩
theorem SlA.of {w : World} {v : Value} {zs : List Int} (h : Sl w v zs) : SlA w v zs := by
  obtain ⟨a, cap, pb, po, hv, hr, hp, h1, h2⟩ := h
  exact ⟨a, cap, pb, po, hv, hr, fun _ => hp, h1, h2⟩

theorem und24 : ∃ f0 f1 : Field, Tryd.prog.underlying 24 = some (.struct #[f0, f1]) ∧ f0.type = 3 ∧ f1.type = 22 ∧ f0.offset = 0 ∧ f1.offset = 1 := ⟨_, _, Tryd.underlying24, rfl, rfl, rfl, rfl⟩
theorem und3 : Tryd.prog.underlying 3 = some (.int .i64) := by kernel_rfl
theorem und22 : Tryd.prog.underlying 22 = some (.slice 3) := by kernel_rfl
theorem und4 : Tryd.prog.underlying 4 = some .bool := by kernel_rfl

set_option maxRecDepth 100000 in
/-- What is told of a table that came in. -/
theorem open_group {H : Type} {enc : TypeId × Value → H} {W : World} {b0 : Nat} {v : Value} {d : DataW H} {ps : List MemPlace} (hval : Value.okWide Tryd.prog W .any b0 24 v)
    (hd : DataW.Trod enc Tryd.prog W 0 (fun _ => true) true 24 v d ps) :
    ∃ N u zs, v = .agg #[.int .i64 N, u] ∧ SlA W u zs ∧ (Lit.int .i64 N).wf = true ∧ ((d.weights Tryd.prog 24).all (· ≤ reachBytes) = true → zs.length * 8 ≤ 140737488355328) := by
  obtain ⟨f0, f1, hu, ht0, ht1, ho0, ho1⟩ := und24
  obtain ⟨cs, rfl, hsz⟩ := okWide_struct hu hval
  rw [show Tryd.prog.cellsOf 24 = 2 by kernel_rfl] at hsz
  obtain ⟨l⟩ := cs
  match l, hsz with
  | [c0, c1], _ =>
  obtain ⟨fuel, hf⟩ := hd
  obtain ⟨y0, y1, m, hx, _, hy0, hy1⟩ := trod_struct2 hu hf
  rw [ht0, ho0, show Tryd.prog.cellsOf 3 = 1 by kernel_rfl] at hy0
  rw [ht1, ho1, show Tryd.prog.cellsOf 22 = 1 by kernel_rfl] at hy1
  obtain ⟨N, e0, rfl, wN⟩ := DataW.trod_int und3 hy0
  simp [Value.cells] at e0
  subst e0
  simp [Value.cells] at hy1
  rcases open_ints und22 und3 (by kernel_rfl) hy1 with ⟨hcs, _⟩ | ⟨x, l, c, zs, hcs, _, hl, hm, hz, heq, hcell, hwz⟩
  · simp at hcs
    subst hcs
    exact ⟨N, _, [], rfl, ⟨none, 0, 0, 0, rfl, ⟨by simp, by simp⟩, by simp, by simp, by unfold maxLen; omega⟩, wN, fun _ => by simp⟩
  · simp at hcs
    subst hcs
    have hzc : zs.length = c := by simpa using hz
    have hlen : (zs.take l).length = l := by rw [List.length_take]; omega
    refine ⟨N, _, zs.take l, rfl, ?_, wN, fun hw => ?_⟩
    · by_cases hpos : 0 < c
      · obtain ⟨b, o, rfl, hc'⟩ := ints_at hcell (by omega)
        refine ⟨some ⟨b, o, none⟩, c, b, o, by rw [hlen], ⟨fun _ => rfl, fun j hj => ?_⟩, fun _ => World.block_lt_of_cell? W _ (hc' 0 (by omega)), by omega, hm⟩
        rw [hlen] at hj
        rw [hc' j (by omega), List.getElem?_take, if_pos hj, List.getD_eq_getElem?_getD]
      · have : l = 0 := by omega
        subst this
        exact ⟨some x, c, 0, 0, by simp, ⟨by simp, by simp⟩, by simp, by simp, hm⟩
    · have hd : d = .agg [.lit (.int .i64 N), .slice (lits .i64 (zs.take l)) (lits .i64 (zs.drop l))] := by
        have h1 := congrArg Prod.fst hx
        simp only [heq] at h1
        exact h1
      have hw2 := List.all_eq_true.1 hw (((lits (H := H) .i64 (zs.take l)).length + (lits (H := H) .i64 (zs.drop l)).length) * Tryd.prog.bytesOf 3) (by
        rw [hd]; simp [DataW.weights, DataW.weightsEach, hu, ht0, ht1])
      rw [show Tryd.prog.bytesOf 3 = 8 by kernel_rfl] at hw2
      simp only [lits, List.length_map, decide_eq_true_eq] at hw2
      unfold reachBytes at hw2
      omega
end Go.Proofs.YtjiapicknkjhmaaDoor

namespace Go.Proofs.YtjiapicknkjhmaaDoor
open Go.ChangeShapes Go.WideShapes Go.ChangeAt Go.RowKit

/-- What the rows list. -/
def laid1 : List (String × DataW Unit) := Rows.sylowFrattiniRow.laid
def tabZ : List Int := Lib.deBruijn64tab.map fun (x : Nat) => (x : Int)
theorem tab_data : (Rows.laid_math_bits_deBruijn64tab : DataW Unit) = Lib.tabData .u8 tabZ := by kernel_rfl
/-- The door's own heap meets the condition. -/
theorem door_met (os : Os) (args : Array Value) : laidMetH Tryd.prog laid1 ((World.doorLaid Tryd.prog 400 os).forCall (fun _ _ => 0) ⟨#[], args, []⟩).memory :=
  laidMetH_of_parts3 (fuel := 8) (laidMet_of_run' 8 (by kernel_rfl) (by kernel_rfl)) (by kernel_rfl) (by kernel_rfl)
theorem tab_of_laid {W : World} (h : laidMetH Tryd.prog laid1 W) : Tab W := by
  rw [MakeChecks.laidMetH_plain _ _ _ (by kernel_rfl)] at h
  have h2 : laidMet Tryd.prog [("math/bits.deBruijn64tab", (Rows.laid_math_bits_deBruijn64tab : DataW Unit))] W := h
  rw [tab_data] at h2
  have hg : Tryd.prog.globalNamed "math/bits.deBruijn64tab" = some 0 := by kernel_rfl
  have hT := Lib.tabIs_of_head hg (t := 112) (e := 5) (n := 64) (by kernel_rfl) (by kernel_rfl) (by kernel_rfl) (by kernel_rfl) (by kernel_rfl) h2
  intro j hj
  have hj' : j < tabZ.length := by simpa [tabZ] using hj
  have hc := hT.cell hg j hj'
  rw [hc]
  simp [tabZ, hj]
set_option maxRecDepth 100000 in
/-- A list of ints that came in: its value, what it reads as, and its size. -/
theorem open_list {H : Type} {enc : TypeId × Value → H} {W : World} {b0 : Nat} {v : Value} {d : DataW H} {ps : List MemPlace} (hval : Value.okWide Tryd.prog W .any b0 22 v)
    (hd : DataW.Trod enc Tryd.prog W 0 (fun _ => true) true 22 v d ps) (h0 : 0 < W.heap.size) :
    ∃ zs, Sl W v zs ∧ ((d.weights Tryd.prog 22).all (· ≤ reachBytes) = true → zs.length * 8 ≤ 140737488355328) := by
  obtain ⟨a, len, cap, rfl⟩ := okWide_slice und22 hval
  obtain ⟨fuel, hf⟩ := hd
  rcases open_ints und22 und3 (by kernel_rfl) hf with ⟨hcs, _⟩ | ⟨x, l, c, zs, hcs, _, hl, hm, hz, heq, hcell, hwz⟩
  · simp [Value.cells] at hcs
    obtain ⟨rfl, rfl, rfl⟩ := hcs
    exact ⟨[], Sl.nil h0, fun _ => by simp⟩
  · simp [Value.cells] at hcs
    obtain ⟨rfl, rfl, rfl⟩ := hcs
    have hzc : zs.length = cap := by simpa using hz
    have hlen : (zs.take len).length = len := by rw [List.length_take]; omega
    refine ⟨zs.take len, ?_, fun hw => ?_⟩
    · by_cases hpos : 0 < cap
      · obtain ⟨b, o, rfl, hc'⟩ := ints_at hcell (by omega)
        refine ⟨some ⟨b, o, none⟩, cap, b, o, by rw [hlen], ⟨fun _ => rfl, fun j hj => ?_⟩, World.block_lt_of_cell? W _ (hc' 0 (by omega)), by omega, hm⟩
        rw [hlen] at hj
        rw [hc' j (by omega), List.getElem?_take, if_pos hj, List.getD_eq_getElem?_getD]
      · have : len = 0 := by omega
        subst this
        exact ⟨some x, cap, 0, 0, by simp, ⟨by simp, by simp⟩, h0, by simp, hm⟩
    · simp only [Prod.mk.injEq] at heq
      have hw2 := List.all_eq_true.1 hw (((lits (H := H) .i64 (zs.take len)).length + (lits (H := H) .i64 (zs.drop len)).length) * Tryd.prog.bytesOf 3) (by
        rw [heq.1]; simp [DataW.weights])
      rw [show Tryd.prog.bytesOf 3 = 8 by kernel_rfl] at hw2
      simp only [lits, List.length_map, decide_eq_true_eq] at hw2
      unfold reachBytes at hw2
      omega
end Go.Proofs.YtjiapicknkjhmaaDoor

namespace Go.Proofs.YtjiapicknkjhmaaDoor
open Go.ChangeShapes Go.WideShapes Go.ChangeAt Go.RowKit

theorem und33L : Tryd.prog.underlying 33 = some (.slice 22) := by kernel_rfl
theorem row_of {W : World} {A : Option Addr} {L C : Nat} {Z : List Int} (h0 : 0 < W.heap.size) (hl : L ≤ C) (hm : C ≤ maxLen) (hz : Z.length = C) (hn : A = none → C = 0) (hc : ∀ a', A = some a' → ∀ c, c < C → W.cell? (a'.add c) = some (.int .i64 (Z.getD c 0))) : Sl W (.slice A L C) (Z.take L) := by
  have hlen : (Z.take L).length = L := by rw [List.length_take]; omega
  by_cases hpos : 0 < C
  · obtain ⟨x, hx⟩ : ∃ x, A = some x := by
      cases A with
      | none => exact absurd (hn rfl) (by omega)
      | some x => exact ⟨x, rfl⟩
    subst hx
    obtain ⟨b, o, rfl, hc'⟩ := ints_at (zs := Z) (fun i hi => hc x rfl i (by omega)) (by omega)
    refine ⟨some ⟨b, o, none⟩, C, b, o, by rw [hlen], ⟨fun _ => rfl, fun j hj => ?_⟩, World.block_lt_of_cell? W _ (hc' 0 (by omega)), by omega, hm⟩
    rw [hlen] at hj
    rw [hc' j (by omega), List.getElem?_take, if_pos hj, List.getD_eq_getElem?_getD]
  · have : L = 0 := by omega
    subst this
    exact ⟨A, C, 0, 0, by simp, ⟨by simp, by simp⟩, h0, by simp, hm⟩
set_option maxRecDepth 100000 in
/-- A list of lists of ints that came in: its value, and what it reads as. -/
theorem open_lists {H : Type} {enc : TypeId × Value → H} {W : World} {b0 : Nat} {v : Value} {d : DataW H} {ps : List MemPlace} (hval : Value.okWide Tryd.prog W .any b0 33 v)
    (hd : DataW.Trod enc Tryd.prog W 0 (fun _ => true) true 33 v d ps) (h0 : 0 < W.heap.size) : ∃ ls, SlL W v ls := by
  obtain ⟨a, len, cap, rfl⟩ := okWide_slice und33L hval
  obtain ⟨fuel, hf⟩ := hd
  rcases Go.Deep.open_int_rows und33L und22 und3 (by kernel_rfl) (by kernel_rfl) hf with ⟨hcs, _⟩ | ⟨x, l, c, A, L, C, Z, hcs, _, hl, hm, _, hrow⟩
  · simp [Value.cells] at hcs
    obtain ⟨rfl, rfl, rfl⟩ := hcs
    exact ⟨[], none, 0, 0, 0, rfl, by simp, by simp, h0, Nat.le_refl _, Nat.zero_le _⟩
  · simp [Value.cells] at hcs
    obtain ⟨rfl, rfl, rfl⟩ := hcs
    refine ⟨(List.range len).map fun r => (Z r).take (L r), ?_⟩
    have hlen : ((List.range len).map fun r => (Z r).take (L r)).length = len := by simp
    by_cases hpos : 0 < len
    · obtain ⟨b, o, spot⟩ := x
      have hspot : spot = none := by simpa [Addr.add] using World.cell?_spot (hrow 0 (by omega)).1
      subst hspot
      have hadd : ∀ r, (⟨b, o, none⟩ : Addr).add r = ⟨b, o + r, none⟩ := fun r => by unfold Addr.add; split <;> simp_all
      refine ⟨some ⟨b, o, none⟩, cap, b, o, by rw [hlen], fun _ => rfl, fun j hj => ?_, ?_, by rw [hlen]; exact hl, hm⟩
      · rw [hlen] at hj
        obtain ⟨h1, h2, h3, h4, _, h6, h7⟩ := hrow j (by omega)
        rw [hadd j] at h1
        refine ⟨_, h1, ?_⟩
        have e1 : ((List.range len).map fun r => (Z r).take (L r))[j]?.getD [] = (Z j).take (L j) := by simp [hj]
        rw [e1]
        exact row_of h0 h2 h3 h4 h6 (fun a' ha c hc => (h7 a' ha).2 c hc)
      · have h1 := (hrow 0 (by omega)).1
        exact World.block_lt_of_cell? W _ h1
    · have : len = 0 := by omega
      subst this
      exact ⟨some x, cap, 0, 0, by simp, by simp, by simp, h0, by simp, hm⟩
end Go.Proofs.YtjiapicknkjhmaaDoor
