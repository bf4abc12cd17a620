/- TableFrobenius returns true at every table and every number. -/
import Derived.Test.YtpcgacelljbkdaaBegun
import Derived.Test.YtpcgacelljbkdaaFrame
import Derived.Test.YtpcgacelljbkdaaProduct
import Derived.Test.YtpcgacelljbkdaaNog
import Derived.Test.YtpcgacelljbkdaaFrobC
namespace Go.Proofs.Ytpcgacelljbkdaa
open Go Go.RowKit

/-- A table that is a group, as a group on a list. -/
theorem grp_fg {n e : Nat} {zs : List Int} (h : IsGrp n zs e) : Fin.Fg (List.range n) (tm n zs) e := by
  refine ⟨List.nodup_range, List.mem_range.2 h.elt, fun a b ha hb => ?_, fun a b c ha hb hc => ?_, fun a ha => h.left a (List.mem_range.1 ha), fun a ha => h.right a (List.mem_range.1 ha), fun a ha => ?_⟩
  · exact List.mem_range.2 (tm_lt h.tab (List.mem_range.1 ha) (List.mem_range.1 hb))
  · exact h.ass a b c (List.mem_range.1 ha) (List.mem_range.1 hb) (List.mem_range.1 hc)
  · obtain ⟨b, hb, h1, h2⟩ := grp_inv h (List.mem_range.1 ha)
    exact ⟨b, List.mem_range.2 hb, h1, h2⟩
theorem po_pw (n : Nat) (zs : List Int) (e a : Nat) : ∀ k, Fin.po (tm n zs) e a k = pw n zs e a k
  | 0 => rfl
  | k + 1 => by
    show tm n zs (Fin.po (tm n zs) e a k) a = tm n zs (pw n zs e a k) a
    rw [po_pw n zs e a k]
/-- How many of the first j things have an order that divides k. -/
def cn (n : Nat) (zs : List Int) (e k j : Nat) : Nat := ((List.range j).filter fun a => decide (k % ordN n zs e a = 0)).length
theorem cn_succ (n : Nat) (zs : List Int) (e k j : Nat) : cn n zs e k (j + 1) = cn n zs e k j + if k % ordN n zs e j = 0 then 1 else 0 := by
  unfold cn
  rw [List.range_succ, List.filter_append, List.length_append]
  by_cases h : k % ordN n zs e j = 0 <;> simp [h]
theorem cn_le (n : Nat) (zs : List Int) (e k j : Nat) : cn n zs e k j ≤ j := by
  unfold cn
  have := List.length_filter_le (fun a => decide (k % ordN n zs e a = 0)) (List.range j)
  simpa using this
theorem cn_frob {n e : Nat} {zs : List Int} (h : IsGrp n zs e) {k : Nat} (hk : n % k = 0) : cn n zs e k n % k = 0 := by
  have h1 := Fin.frob n (List.range n) (tm n zs) e (grp_fg h) (by simp) k (Nat.dvd_of_mod_eq_zero hk)
  have h2 : Fin.cnt (List.range n) (tm n zs) e k = cn n zs e k n := by
    unfold Fin.cnt cn
    rw [Fin.filter_eq]
    intro a ha
    have ha := List.mem_range.1 ha
    rw [Bool.eq_iff_iff, decide_eq_true_eq, decide_eq_true_eq, po_pw]
    constructor
    · intro h3
      exact Nat.mod_eq_zero_of_dvd (ord_dvd h ha h3)
    · intro h3
      obtain ⟨t, ht⟩ := Nat.dvd_of_mod_eq_zero h3
      rw [ht]; exact pw_ord_mul h ha t
  rw [h2] at h1
  exact Nat.mod_eq_zero_of_dvd h1

set_option maxRecDepth 100000 in
set_option maxHeartbeats 8000000 in
theorem frobLaw_any (N z : Int) (u : Value) (zs : List Int) (w : World) (hu : SlA w u zs) :
    Calls Try.prog 12 #[.agg #[.int .i64 N, u], .int .i64 z] w fun r w' => r = .returned (.bool true) ∧ Below w.heap.size w w' := by
  obtain ⟨w0, hw0⟩ : ∃ w0, w0 = w.alloc (.cells #[.int .i64 N, u] 24) := ⟨_, rfl⟩
  have hB0 : Below w.heap.size w w0 := by rw [hw0]; exact balloc w _
  have hg0 : BoxG w0 w.heap.size N u := by rw [hw0]; exact blk0 _ _
  have hu0 := hu.up hB0 (by have := hg0.lt; omega)
  obtain ⟨au, cu, _, _, rfl, _⟩ := id hu0
  by_cases h1 : (gfault N zs).1 = 0
  · obtain ⟨n, e, rfl, hg, _⟩ := gfault_grp h1
    have HO := hide (fun W (h : Sl W (.slice au zs.length cu) zs) => orders_ok n e (.slice au zs.length cu) zs W hg h)
    have HL := hide (ordL_len n zs e)
    have HE := hide (fun k (hk : k < n) => And.intro (show (ordL n zs e)[k]?.getD 0 = (ordN n zs e k : Int) by simp [ordL, hk]) (And.intro (ord_pos (n := n) (zs := zs) (e := e) k) (ord_le hg hk)))
    have HFR := hide (fun k (hk : n % k = 0) => cn_frob hg hk)
    have HSU := hide (fun k j => cn_succ n zs e k j)
    have HLE := hide (fun k j => cn_le n zs e k j)
    have HC0 := hide (fun k => show cn n zs e k 0 = 0 from rfl)
    have hle := hg.tab.le
    have hpos := hg.tab.pos
    generalize ordL n zs e = L at *
    generalize zs.length = lu at *
    generalize ordN n zs e = od at *
    generalize cn n zs e = cf at *
    clear hg h1
    go_enter Try.func12, Try.ntmps12
    go_wp2_with fail
    rw [← hw0]
    clear hw0
    refine (begun_any w0).mono ?_
    rintro r w1 ⟨rfl, hb1⟩
    have k0 := below_cell hb1 hg0.c0
    have k1 := below_cell hb1 hg0.c1
    go_wp2_with fail
    refine (HO.out _ (hu0.below hb1)).mono ?_
    rintro r w2 ⟨lo, rfl, hlo, hb2⟩
    clear k0 k1
    have al := bcat2 (bcat2 hb1 hb2) (balloc w2 (.cells #[.int .i64 0, .int .i64 0] 27))
    have N6 := Two.new w2
    have hlo := hlo.below (balloc w2 (.cells #[.int .i64 0, .int .i64 0] 27))
    have hgc := blk_below hg0 al
    have hBw := bcat hB0 al hB0.size
    obtain ⟨a1, cap1, pb1, po1, rfl, hd1, hp1, hc1, hm1⟩ := hlo
    rw [HL.out] at hc1 ⊢
    obtain rfl := hd1.at_ (by rw [HL.out]; omega)
    have HE1 := hide (fun k (hk : k < n) => (hd1.cell k (by rw [HL.out]; exact hk)).trans (by rw [(HE.out k hk).1]))
    unfold maxLen at hm1
    obtain ⟨_, c0, _, _, _, _, _⟩ := N6
    have g0 := hgc.c0
    clear hb1 hb2 al hg0 hu0 hB0 HO hd1
    by_cases hz1 : z < 1
    · go_wp2
      go_ret
      exact ⟨rfl, hBw⟩
    · by_cases hz2 : 60 < z
      · go_wp2
        go_ret
        exact ⟨rfl, hBw⟩
      · obtain ⟨k, rfl⟩ : ∃ k : Nat, z = k := ⟨z.toNat, by omega⟩
        have hk0 : ¬ ((k : Int) = 0) := by omega
        have hkn : ¬ k = 0 := by omega
        have hr := nmod (x := (n : Int)) (y := n) (m := k) rfl
        by_cases hdv : n % k = 0
        · have HF := hide (HFR.out k hdv)
          rw [hdv] at hr
          clear hdv
          go_wp2
          clear c0 g0 hr
          generalize w2.alloc (.cells #[.int .i64 0, .int .i64 0] 27) = w3 at *
          go_loopw [7, 8] (fun v i wr => ∃ j : Nat, j ≤ n ∧ i = .int .i64 j ∧ v = .int .i64 (cf k j : Nat) ∧ Below w3.heap.size w3 wr) (fun _ i _ => n - (intOf i).toNat)
          case atStart => exact ⟨0, Nat.zero_le _, rfl, by rw [HC0.out]; rfl, Below.refl _ _⟩
          case round =>
            obtain ⟨j, hj, rfl, rfl, hB⟩ := hrel
            have hcl := HLE.out k j
            by_cases hlt : j < n
            · have hc := below_cell hB (HE1.out j hlt)
              obtain ⟨_, o1, o2⟩ := HE.out j hlt
              have hs := HSU.out k j
              have hji : (j : Int) < (n : Int) := by omega
              have q1 := nmod (x := (k : Int)) (y := k) (m := od j) rfl
              have ho0 : ¬ ((od j : Int) = 0) := by omega
              have ho1 : ¬ od j = 0 := by omega
              have ho2 : ¬ (od j : Int) < 1 := by omega
              generalize od j = o at *
              have HS := hide hs
              clear hs
              generalize cf k j = cv at *
              by_cases hr0 : k % o = 0
              · rw [hr0] at q1
                have h9 := HS.out
                rw [if_pos hr0] at h9
                have H9 := hide h9
                clear h9 HS hr0
                go_wp2
                go_roundw
                case rel => exact ⟨j + 1, by omega, by go_num, by rw [H9.out]; go_num, hB⟩
                case measure => simp [intOf]; omega
              · have h9 := HS.out
                rw [if_neg hr0] at h9
                have H9 := hide h9
                clear h9 HS
                have hne : ¬ ((k % o : Nat) : Int) = 0 := by omega
                generalize k % o = r at *
                go_wp2
                go_roundw
                case rel => exact ⟨j + 1, by omega, by go_num, by rw [H9.out]; rfl, hB⟩
                case measure => simp [intOf]; omega
            · have hjn : j = n := by omega
              subst hjn
              have hr := nmod (x := (cf k j : Int)) (y := cf k j) (m := k) rfl
              rw [HF.out] at hr
              go_wp2
              go_ret
              exact ⟨rfl, bcat hBw hB hBw.size⟩
        · have hne : (((n % k : Nat) : Int) != 0) = true := by simp; omega
          generalize n % k = r at *
          go_wp2
          go_ret
          exact ⟨rfl, hBw⟩
  · have HO := hide (fun W (h : Sl W (.slice au zs.length cu) zs) => orders_bad N (.slice au zs.length cu) zs W h h1)
    obtain ⟨c, i, hci⟩ : ∃ c i, gfault N zs = (c, i) := ⟨_, _, rfl⟩
    rw [hci] at HO h1
    have hcb : (c != 0) = true := by simpa using h1
    generalize zs.length = lu at *
    clear hci h1
    go_enter Try.func12, Try.ntmps12
    go_wp2_with fail
    rw [← hw0]
    clear hw0
    refine (begun_any w0).mono ?_
    rintro r w1 ⟨rfl, hb1⟩
    have k0 := below_cell hb1 hg0.c0
    have k1 := below_cell hb1 hg0.c1
    go_wp2_with fail
    refine (HO.out _ (hu0.below hb1)).mono ?_
    rintro r w2 ⟨rfl, hb2⟩
    clear k0 k1
    have al := bcat2 (bcat2 hb1 hb2) (balloc w2 (.cells #[.int .i64 c, .int .i64 i] 27))
    have hBw := bcat hB0 al hB0.size
    go_wp2
    go_ret
    exact ⟨rfl, hBw⟩
end Go.Proofs.Ytpcgacelljbkdaa
