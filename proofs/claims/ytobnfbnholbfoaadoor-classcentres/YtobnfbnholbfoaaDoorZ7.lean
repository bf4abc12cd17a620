/- What the document's O, P and Commutes, and listAs of the laws, answer. Classes and the centre, as mathematics. No condition. The law ClassCentres: its walk. Condition: the library's table of places lies as its text lays it. The frame that all rows of this family share: how a table that came in reads. The frame that all rows of this family share: what the listed table gives a walk; how a list of ints that came in reads. -/
import Derived.Test.YtobnfbnholbfoaaDoorZ4
import Derived.Test.YtobnfbnholbfoaaDoorZ5
import Derived.Test.YtobnfbnholbfoaaDoorZ3
import Derived.Test.YtobnfbnholbfoaaDoorZ6
import Derived.Test.YtobnfbnholbfoaaDoorRows
import Derived.Test.YtobnfbnholbfoaaDoorZ1
import Derived.ProofKit
import Derived.OpenShut
import Derived.ChangeOld
import Derived.Below
import Derived.SizedLaws
import Derived.LaidMore
import Derived.Stop.Joined
import Derived.Stop.LaidErr
import Derived.Lib.LaidTab
namespace Go.Proofs.YtobnfbnholbfoaaDoor
open Go Go.RowKit Go.Maps

set_option maxRecDepth 100000 in
set_option maxHeartbeats 4000000 in
theorem O_ok {n e : Nat} {zs : List Int} (h : IsGrp n zs e) {a : Nat} (ha : a < n) (v : Value) (w : World) (hv : Sl w v zs) :
    Calls Tryd.prog 51 #[.agg #[.int .i64 n, v], .int .i64 a] w fun x w' => x = .returned (.int .i64 (ordN n zs e a)) ∧ Below w.heap.size w w' := by
  have hB0 : Below w.heap.size w (w.alloc (.cells #[.int .i64 n, v] 24)) := balloc w _
  have hg0 : BoxG (w.alloc (.cells #[.int .i64 n, v] 24)) w.heap.size n v := blk0 _ _
  have hv0 := hv.below hB0
  have hle := h.tab.le
  have HT := hide h.tab
  have HE := hide (E_ok n v zs _ h.tab hv0)
  rw [h.one] at HE
  have HST := hide (fun k => (show tm n zs a (pr n zs a k) = pr n zs a (k + 1) by have := pr_add h ha 0 k; rw [Nat.zero_add] at this; exact this.symm))
  obtain ⟨k9, hk9, hoe, hp9, hn9⟩ := ordN_spec h ha
  rw [hoe]
  have HP := hide hp9
  have HN := hide hn9
  obtain ⟨g0, g1, _, _⟩ := hg0.two
  clear h hoe hp9 hn9
  go_enter Tryd.func51, Tryd.ntmps51
  go_wp2_with fail
  refine HE.out.mono ?_
  rintro x w1 ⟨rfl, hb1⟩
  generalize w.alloc (.cells #[.int .i64 n, v] 24) = w0 at *
  clear HE
  go_wp2
  go_loopw [6, 7] (fun p o wr => ∃ k : Nat, k ≤ k9 ∧ o = .int .i64 ((k : Int) + 1) ∧ p = .int .i64 (pr n zs a k) ∧ Below w0.heap.size w0 wr) (fun _ o _ => k9 + 1 - (intOf o).toNat)
  case atStart => exact ⟨0, Nat.zero_le _, rfl, rfl, hb1⟩
  case round =>
    obtain ⟨k, hk, rfl, rfl, hB⟩ := hrel
    have d0 := below_cell hB g0
    have d1 := below_cell hB g1
    by_cases hlt : k < k9
    · have hne : ((pr n zs a k : Int) != (e : Int)) = true := by
        have := HN.out k hlt
        simp; omega
      have hpl := pr_lt HT.out ha k
      go_wp2_with fail
      refine (M_ok n v zs a _ _ HT.out (hv0.below hB) ha hpl).mono ?_
      rintro x w2 ⟨rfl, hb2⟩
      have hB1 := bcat2 hB hb2
      rw [HST.out]
      clear d0 d1
      go_wp2
      go_roundw
      case rel => exact ⟨k + 1, by omega, by go_num, rfl, hB1⟩
      case measure => simp [intOf]; omega
    · have hkk : k = k9 := by omega
      subst hkk
      have hne : ((pr n zs a k : Int) != (e : Int)) = false := by
        have := HP.out
        simp; omega
      go_wp2
      go_ret
      exact ⟨retI (by simp), bcat hB0 hB hB0.size⟩

set_option maxRecDepth 100000 in
set_option maxHeartbeats 4000000 in
theorem P_ok {n e : Nat} {zs : List Int} (h : IsGrp n zs e) {a : Nat} (ha : a < n) (z : Int) (v : Value) (w : World) (hv : Sl w v zs) :
    Calls Tryd.prog 26 #[.agg #[.int .i64 n, v], .int .i64 a, .int .i64 z] w fun r w' => r = .returned (.int .i64 (pz n zs e a z)) ∧ Below w.heap.size w w' := by
  have hB0 : Below w.heap.size w (w.alloc (.cells #[.int .i64 n, v] 24)) := balloc w _
  have hg0 : BoxG (w.alloc (.cells #[.int .i64 n, v] 24)) w.heap.size n v := blk0 _ _
  have hv0 := hv.below hB0
  have hle := h.tab.le
  have HE := hide (fun W (hW : Sl W v zs) => E_ok n v zs W h.tab hW)
  rw [h.one] at HE
  have HR := hide (fun W (hW : Sl W v zs) => O_ok h ha v W hW)
  have hop := ord_pos (n := n) (zs := zs) (e := e) a
  have hol := ord_le h ha
  obtain ⟨t, hto, hte, hcase⟩ := rest_of z hop
  have hpz : pz n zs e a z = pw n zs e a t := by unfold pz; rw [← hte, Int.toNat_natCast]
  rw [hpz]
  have HT := hide h.tab
  have HPL := hide (fun k => pw_lt h ha k)
  generalize ordN n zs e a = o at *
  have ho0 : ¬ ((o : Int) = 0) := by omega
  have hoi : 0 < (o : Int) := by omega
  obtain ⟨m, hm⟩ : ∃ m, z.tmod (o : Int) = m := ⟨_, rfl⟩
  rw [hm] at hcase
  obtain ⟨g0, g1, _, _⟩ := hg0.two
  clear h hpz hte
  go_enter Tryd.func26, Tryd.ntmps26
  go_wp2_with fail
  generalize w.alloc (.cells #[.int .i64 n, v] 24) = w0 at *
  refine (HR.out _ hv0).mono ?_
  rintro x w1 ⟨rfl, hb1⟩
  rcases hcase with ⟨hm1, hm2⟩ | ⟨hm1, hm2⟩
  · have hts : m + (o : Int) = (t : Int) := hm2
    have htr : -9223372036854775808 ≤ m := by omega
    have htt : t < 60 := by omega
    have k0 := below_cell hb1 g0
    have k1 := below_cell hb1 g1
    clear hm2
    go_wp2_with fail
    refine (HR.out _ (hv0.below hb1)).mono ?_
    rintro x w2 ⟨rfl, hb2⟩
    have hB2 := bcat2 hb1 hb2
    clear k0 k1
    have k0 := below_cell hB2 g0
    have k1 := below_cell hB2 g1
    go_wp2_with fail
    refine (HE.out _ (hv0.below hB2)).mono ?_
    rintro x w3 ⟨rfl, hb3⟩
    have hB3 := bcat2 hB2 hb3
    clear k0 k1
    go_wp2
    clear hm hts htr hm1
    go_loopw [8, 9] (fun p i wr => ∃ k : Nat, k ≤ t ∧ i = .int .i64 k ∧ p = .int .i64 (pw n zs e a k) ∧ Below w0.heap.size w0 wr) (fun _ i _ => t - (intOf i).toNat)
    case atStart => exact ⟨0, Nat.zero_le _, rfl, rfl, hB3⟩
    case round =>
      obtain ⟨k, hk, rfl, rfl, hB⟩ := hrel
      have d0 := below_cell hB g0
      have d1 := below_cell hB g1
      by_cases hlt : k < t
      · have hpl := HPL.out k
        have HST := hide (show tm n zs (pw n zs e a k) a = pw n zs e a (k + 1) from rfl)
        go_wp2_with fail
        refine (M_ok n v zs _ a _ HT.out (hv0.below hB) hpl ha).mono ?_
        rintro x w5 ⟨rfl, hb5⟩
        have hB5 := bcat2 hB hb5
        rw [HST.out]
        clear d0 d1
        go_wp2
        go_roundw
        case rel => exact ⟨k + 1, by omega, by go_num, rfl, hB5⟩
        case measure => simp [intOf]; omega
      · have hkt : k = t := by omega
        subst hkt
        go_wp2
        go_ret
        exact ⟨retI rfl, bcat hB0 hB hB0.size⟩
  · have hts : m = (t : Int) := hm2
    subst hts
    have htt : t < 60 := by omega
    have k0 := below_cell hb1 g0
    have k1 := below_cell hb1 g1
    go_wp2_with fail
    refine (HE.out _ (hv0.below hb1)).mono ?_
    rintro x w3 ⟨rfl, hb3⟩
    have hB3 := bcat2 hb1 hb3
    clear k0 k1
    go_wp2
    clear hm hm1
    go_loopw [8, 9] (fun p i wr => ∃ k : Nat, k ≤ t ∧ i = .int .i64 k ∧ p = .int .i64 (pw n zs e a k) ∧ Below w0.heap.size w0 wr) (fun _ i _ => t - (intOf i).toNat)
    case atStart => exact ⟨0, Nat.zero_le _, rfl, rfl, hB3⟩
    case round =>
      obtain ⟨k, hk, rfl, rfl, hB⟩ := hrel
      have d0 := below_cell hB g0
      have d1 := below_cell hB g1
      by_cases hlt : k < t
      · have hpl := HPL.out k
        have HST := hide (show tm n zs (pw n zs e a k) a = pw n zs e a (k + 1) from rfl)
        go_wp2_with fail
        refine (M_ok n v zs _ a _ HT.out (hv0.below hB) hpl ha).mono ?_
        rintro x w5 ⟨rfl, hb5⟩
        have hB5 := bcat2 hB hb5
        rw [HST.out]
        clear d0 d1
        go_wp2
        go_roundw
        case rel => exact ⟨k + 1, by omega, by go_num, rfl, hB5⟩
        case measure => simp [intOf]; omega
      · have hkt : k = t := by omega
        subst hkt
        go_wp2
        go_ret
        exact ⟨retI rfl, bcat hB0 hB hB0.size⟩

set_option maxRecDepth 100000 in
set_option maxHeartbeats 4000000 in
theorem commutes_ok (n : Nat) (v : Value) (zs : List Int) (w : World) (ht : IsTab n zs) (hv : Sl w v zs) :
    Calls Tryd.prog 30 #[.agg #[.int .i64 n, v]] w fun x w' => x = .returned (.bool (comB n zs)) ∧ Below w.heap.size w w' := by
  have hB0 : Below w.heap.size w (w.alloc (.cells #[.int .i64 n, v] 24)) := balloc w _
  have hg0 : BoxG (w.alloc (.cells #[.int .i64 n, v] 24)) w.heap.size n v := blk0 _ _
  have hv0 := hv.below hB0
  have hle := ht.le
  have HT := hide ht
  obtain ⟨g0, g1, _, _⟩ := hg0.two
  clear ht
  go_enter Tryd.func30, Tryd.ntmps30
  go_wp2
  generalize w.alloc (.cells #[.int .i64 n, v] 24) = w0 at *
  go_loopw [3] (fun i wr => ∃ k : Nat, k ≤ n ∧ i = .int .i64 k ∧ (∀ a b, a < k → b < n → tm n zs a b = tm n zs b a) ∧ Below w0.heap.size w0 wr) (fun i _ => n - (intOf i).toNat)
  case atStart => exact ⟨0, Nat.zero_le _, rfl, fun a b ha => by omega, Below.refl _ _⟩
  case round =>
    obtain ⟨a, hk, rfl, hno, hB⟩ := hrel
    have HN := hide hno
    have d0 := below_cell hB g0
    have d1 := below_cell hB g1
    clear hno
    by_cases hlt : a < n
    · go_wp2
      clear d0 d1
      go_loopw [4] (fun i wr => ∃ k : Nat, k ≤ n ∧ i = .int .i64 k ∧ (∀ b, b < k → tm n zs a b = tm n zs b a) ∧ Below w0.heap.size w0 wr) (fun i _ => n - (intOf i).toNat)
      case atStart => exact ⟨0, Nat.zero_le _, rfl, fun b hb => by omega, hB⟩
      case round =>
        obtain ⟨b, hk2, rfl, hno2, hB2⟩ := hrel
        have HN2 := hide hno2
        have d0 := below_cell hB2 g0
        have d1 := below_cell hB2 g1
        clear hno2
        by_cases hlt2 : b < n
        · have hS : ∀ W, Below w0.heap.size w0 W → (Below w0.heap.size w0 W ∧ W.cell? ⟨w.heap.size, 0, none⟩ = some (.int .i64 n) ∧ W.cell? ⟨w.heap.size, 1, none⟩ = some v) := fun W h => ⟨h, below_cell h g0, below_cell h g1⟩
          have hS0 := hS _ (bdrew hB2)
          go_wp2_with fail
          clear d0 d1
          go_region_held3 (fun W => Below w0.heap.size w0 W ∧ W.cell? ⟨w.heap.size, 0, none⟩ = some (.int .i64 n) ∧ W.cell? ⟨w.heap.size, 1, none⟩ = some v)
            (first | exact hS0 | assumption | exact hS _ (bcat2 (And.left ‹_›) hl1))
            (first | (go_at_call 19; refine (M_ok n v zs _ _ _ HT.out (hv0.below (And.left ‹_›)) (by assumption) (by assumption)).mono ?_; rintro e W1 ⟨rfl, hl1⟩))
          obtain ⟨hB3, _⟩ := ‹Below w0.heap.size w0 W1 ∧ _›
          clear hS hS0 hl1
          by_cases hxy : tm n zs a b = tm n zs b a
          · have hbe : ((tm n zs a b : Int) != (tm n zs b a : Int)) = false := by simp [hxy]
            have HXY := hide hxy
            clear hxy
            go_wp2
            go_roundw
            case rel => exact ⟨b + 1, by omega, by go_num, fun d hd => by
              by_cases e : d = b
              · rw [e]; exact HXY.out
              · exact HN2.out d (by omega), hB3⟩
            case measure => simp [intOf]; omega
          · have hbe : ((tm n zs a b : Int) != (tm n zs b a : Int)) = true := by simp; omega
            go_wp2
            go_ret
            refine ⟨retB ?_, bcat hB0 hB3 hB0.size⟩
            cases hq : comB n zs with
            | false => rfl
            | true => exact absurd (comB_iff.1 hq a b hlt hlt2) hxy
        · have hcn : b = n := by omega
          subst hcn
          go_wp2
          go_roundw
          case rel => exact ⟨a + 1, by omega, by go_num, fun d c hd hc => by
            by_cases e : d = a
            · rw [e]; exact HN2.out c hc
            · exact HN.out d c (by omega) hc, hB2⟩
          case measure => simp [intOf]; omega
    · have hbn : a = n := by omega
      subst hbn
      go_wp2
      go_ret
      exact ⟨retB (comB_iff.2 (fun d c hd hc => HN.out d c hd hc)).symm, bcat hB0 hB hB0.size⟩
set_option maxRecDepth 100000 in
set_option maxHeartbeats 8000000 in
theorem las_bad (k : Nat) (caps : Array Value) (c i : Int) (w : World) (hc : c ≠ 0) :
    Calls Tryd.prog 23 #[.slice none 0 0, .agg #[.int .i64 c, .int .i64 i], .agg #[.int .i64 c, .int .i64 i], .func (.func k) #[] caps] w fun x w' => x = .returned (.bool true) ∧ Below w.heap.size w w' := by
  have hcb : (c != 0) = true := by simpa using hc
  have hF1 : Blk ((w.alloc (.cells #[.int .i64 c, .int .i64 i] 27)).alloc (.cells #[.int .i64 c, .int .i64 i] 27)) w.heap.size 27 [.int .i64 c, .int .i64 i] := (blk0 _ _).alloc _
  have hF2 := blk0 (w := w.alloc (.cells #[.int .i64 c, .int .i64 i] 27)) (T := 27) (.int .i64 c) (.int .i64 i)
  rw [World.size_alloc] at hF2
  have hb : Below w.heap.size w ((w.alloc (.cells #[.int .i64 c, .int .i64 i] 27)).alloc (.cells #[.int .i64 c, .int .i64 i] 27)) := (balloc w _).alloc (by simp) _
  obtain ⟨f0, f1, _, _⟩ := hF1.two
  obtain ⟨g0, g1, _, _⟩ := hF2.two
  go_enter Tryd.func23, Tryd.ntmps23
  go_wp2
  go_ret
  exact ⟨rfl, hb⟩
set_option maxRecDepth 100000 in
set_option maxHeartbeats 8000000 in
theorem las_good (k : Nat) (caps : Array Value) (sv : Value) (xs ys : List Int) (w : World) (hs : Sl w sv xs)
    (hcall : ∀ W, Sem.run Tryd.prog (callFunc k caps) W = .ok (.enter k caps) W)
    (hk : ∀ W, Below w.heap.size w W → Calls Tryd.prog k caps W fun x w' => ∃ r, x = .returned r ∧ Sl w' r ys ∧ Below W.heap.size W w') :
    Calls Tryd.prog 23 #[sv, .agg #[.int .i64 0, .int .i64 0], .agg #[.int .i64 0, .int .i64 0], .func (.func k) #[] caps] w fun x w' => x = .returned (.bool (decide (xs = ys))) ∧ Below w.heap.size w w' := by
  have hF1 : Blk ((w.alloc (.cells #[.int .i64 0, .int .i64 0] 27)).alloc (.cells #[.int .i64 0, .int .i64 0] 27)) w.heap.size 27 [.int .i64 0, .int .i64 0] := (blk0 _ _).alloc _
  have hF2 := blk0 (w := w.alloc (.cells #[.int .i64 0, .int .i64 0] 27)) (T := 27) (.int .i64 0) (.int .i64 0)
  rw [World.size_alloc] at hF2
  have hb : Below w.heap.size w ((w.alloc (.cells #[.int .i64 0, .int .i64 0] 27)).alloc (.cells #[.int .i64 0, .int .i64 0] 27)) := (balloc w _).alloc (by simp) _
  obtain ⟨f0, f1, _, _⟩ := hF1.two
  obtain ⟨g0, g1, _, _⟩ := hF2.two
  have HK := hide hk
  clear hk
  go_enter Tryd.func23, Tryd.ntmps23
  go_wp2_with fail
  generalize (w.alloc (.cells #[.int .i64 0, .int .i64 0] 27)).alloc (.cells #[.int .i64 0, .int .i64 0] 27) = w0 at *
  refine (HK.out w0 hb).mono ?_
  rintro x w1 ⟨r, rfl, hr, hb1⟩
  go_wp2_with fail
  refine (ints_any sv r xs ys w1 (hs.below (bcat2 hb hb1)) hr).mono ?_
  rintro x w2 ⟨rfl, hb2⟩
  go_wp2
  go_ret
  exact ⟨rfl, bcat2 (bcat2 hb hb1) hb2⟩
end Go.Proofs.YtobnfbnholbfoaaDoor

namespace Go.Proofs.YtobnfbnholbfoaaDoor
open Go Go.RowKit Go.Maps

theorem cenx_iff {n a : Nat} {zs : List Int} : cenq n zs (fun _ => true) a = true ↔ ∀ x, x < n → tm n zs a x = tm n zs x a := by
  unfold cenq
  simp only [List.all_eq_true, decide_eq_true_eq]
  exact ⟨fun h x hx => h x (mem_lst.2 ⟨hx, rfl⟩), fun h x hx => h x (mem_lst.1 hx).1⟩
theorem cen_cls {n e a : Nat} {zs : List Int} (g : IsGrp n zs e) (ha : a < n) : cenq n zs (fun _ => true) a = true ↔ lst n (clq n zs e a) = [a] := by
  rw [cenx_iff]
  have hin : a ∈ lst n (clq n zs e a) := mem_lst.2 ⟨ha, (clq_parts g).refl a ha⟩
  constructor
  · intro h
    have hall : ∀ y, y ∈ lst n (clq n zs e a) → y = a := fun y hy => by
      obtain ⟨x, hx, h1⟩ := clq_iff.1 (mem_lst.1 hy).2
      rw [← h1]
      exact (cj_stay g ha hx).2 (h x hx).symm
    have hnd : (lst n (clq n zs e a)).Nodup := List.nodup_range.filter _
    match hl : lst n (clq n zs e a) with
    | [] => rw [hl] at hin; cases hin
    | [y] => rw [hl] at hall; rw [hall y (List.mem_singleton.2 rfl)]
    | y :: z :: t =>
      rw [hl] at hall hnd
      have h1 := hall y (by simp)
      have h2 := hall z (by simp)
      rw [h1, h2] at hnd
      simp at hnd
  · intro h x hx
    have : Fin.cj (tm n zs) (iv n zs e) a x ∈ lst n (clq n zs e a) := mem_lst.2 ⟨List.mem_range.1 (Fin.cj_mem (grp_fg g) (grp_iv g) (List.mem_range.2 ha) (List.mem_range.2 hx)), clq_iff.2 ⟨x, hx, rfl⟩⟩
    rw [h, List.mem_singleton] at this
    exact ((cj_stay g ha hx).1 this).symm
theorem len_one {n e a : Nat} {zs : List Int} (g : IsGrp n zs e) (ha : a < n) : (lst n (clq n zs e a)).length = 1 ↔ lst n (clq n zs e a) = [a] := by
  have hin : a ∈ lst n (clq n zs e a) := mem_lst.2 ⟨ha, (clq_parts g).refl a ha⟩
  constructor
  · intro h
    obtain ⟨y, hy⟩ := List.length_eq_one_iff.1 h
    rw [hy, List.mem_singleton] at hin
    rw [hy, hin]
  · intro h; rw [h]; rfl
/-- Classes of one thing are as many as the centre has things. -/
theorem ones_cen {n e : Nat} {zs : List Int} (g : IsGrp n zs e) : ((rcs n (clq n zs e) n).filter fun l => decide (l.length = 1)).length = (lst n (cenq n zs fun _ => true)).length := by
  unfold rcs
  rw [List.filter_map, List.length_map, List.filter_filter]
  refine congrArg List.length (List.filter_congr fun a ha => ?_)
  have ha := List.mem_range.1 ha
  have hl : (li (lst n (clq n zs e a))).length = (lst n (clq n zs e a)).length := by simp [li]
  rw [Bool.eq_iff_iff, Bool.and_eq_true, decide_eq_true_eq, Function.comp, decide_eq_true_eq, hl, len_one g ha, cen_cls g ha]
  constructor
  · exact fun h => h.1
  · intro h; exact ⟨h, by rw [h]; rfl⟩
theorem comx_iff {n : Nat} {zs : List Int} : comB n zs = true ↔ ∀ a, a < n → ∀ b, b < n → tm n zs a b = tm n zs b a := by
  unfold comB
  simp [List.all_eq_true]
/-- As many classes as things just where all commute. -/
theorem all_com {n e : Nat} {zs : List Int} (g : IsGrp n zs e) : decide ((rcs n (clq n zs e) n).length = n) = comB n zs := by
  rw [Bool.eq_iff_iff, decide_eq_true_eq, comx_iff]
  unfold rcs
  rw [List.length_map]
  constructor
  · intro h a ha x hx
    have hG := clq_parts g
    have hall := List.length_filter_eq_length_iff.1 (show ((List.range n).filter fun a => decide ((lst n (clq n zs e a)).head? = some a)).length = (List.range n).length by rw [h, List.length_range])
    have hb : Fin.cj (tm n zs) (iv n zs e) a x < n := List.mem_range.1 (Fin.cj_mem (grp_fg g) (grp_iv g) (List.mem_range.2 ha) (List.mem_range.2 hx))
    have h1 := of_decide_eq_true (hall a (List.mem_range.2 ha))
    have h2 := of_decide_eq_true (hall _ (List.mem_range.2 hb))
    have h3 : lst n (clq n zs e a) = lst n (clq n zs e (Fin.cj (tm n zs) (iv n zs e) a x)) := lst_congr fun c hc => hG.same _ _ ha hb (clq_iff.2 ⟨x, hx, rfl⟩) c hc
    rw [h3, h2] at h1
    injection h1 with h1
    exact ((cj_stay g ha hx).1 h1).symm
  · intro h
    have : ((List.range n).filter fun a => decide ((lst n (clq n zs e a)).head? = some a)) = List.range n := List.filter_eq_self.2 fun a ha => by
      have ha := List.mem_range.1 ha
      rw [(cen_cls g ha).1 (cenx_iff.2 fun x hx => h a ha x hx)]
      simp
    rw [this, List.length_range]
theorem primeB_dvd {p : Nat} (h : primeB p = true) : 2 ≤ p ∧ ∀ d, d ∣ p → d = 1 ∨ d = p := by
  obtain ⟨h1, _, h3⟩ := of_decide_eq_true h
  refine ⟨by omega, fun d hd => ?_⟩
  have hle := Nat.le_of_dvd (by omega) hd
  by_cases e1 : d = p
  · exact .inr e1
  by_cases e2 : d = 1
  · exact .inl e2
  have hd0 : d ≠ 0 := fun h9 => by rw [h9] at hd; have := Nat.eq_zero_of_zero_dvd hd; omega
  exact absurd (Nat.mod_eq_zero_of_dvd hd) (by have := h3 d (by simp; omega) (by omega); simpa using this)
/-- A group of a power of a prime of things has a centre that the prime divides. -/
theorem cen_mod {n e p j : Nat} {zs : List Int} (g : IsGrp n zs e) (hp : primeB p = true) (hd : p ∣ n) (hn : p ^ j = n) : (lst n (cenq n zs fun _ => true)).length % p = 0 := by
  have h := Fin.fix_mod (primeB_dvd hp) (grp_fg g) (cj_mv g) List.nodup_range ⟨j, by rw [List.length_range]; exact hn.symm⟩
  rw [List.length_range, Nat.mod_eq_zero_of_dvd hd] at h
  have h1 : (List.range n).filter (Fin.fixB (List.range n) (Fin.cj (tm n zs) (iv n zs e))) = lst n (cenq n zs fun _ => true) := by
    unfold lst
    refine List.filter_congr fun a ha => ?_
    have ha := List.mem_range.1 ha
    rw [Bool.eq_iff_iff, Fin.fixB_iff, cenx_iff]
    exact ⟨fun h x hx => ((cj_stay g ha hx).1 (h x (List.mem_range.2 hx))).symm, fun h x hx => (cj_stay g ha (List.mem_range.1 hx)).2 (h x (List.mem_range.1 hx)).symm⟩
  rw [← h1]; exact h.symm
end Go.Proofs.YtobnfbnholbfoaaDoor

namespace Go.Proofs.YtobnfbnholbfoaaDoor
open Go Go.RowKit Go.Maps

set_option maxRecDepth 100000 in
set_option maxHeartbeats 4000000 in
theorem cent_bad (N : Int) (v : Value) (zs : List Int) (w : World) (hv : Sl w v zs) (hc : (gfault N zs).1 ≠ 0) :
    Calls Tryd.prog 29 #[.agg #[.int .i64 N, v]] w fun x w' => x = .returned (.tuple #[.slice none 0 0, .agg #[.int .i64 (gfault N zs).1, .int .i64 (gfault N zs).2]]) ∧ Below w.heap.size w w' := by
  obtain ⟨w0, BG⟩ := Beg.new w N v
  have HCK := hide (opened_bad N v zs w0 (hv.below BG.bel) hc)
  obtain ⟨c0, c1, _, _⟩ := BG.box.two
  have hcb : ((gfault N zs).1 != 0) = true := by simpa using hc
  generalize (gfault N zs).1 = c at *
  generalize (gfault N zs).2 = i at *
  rw [BG.eq] at c0 c1
  go_enter Tryd.func29, Tryd.ntmps29
  go_wp2_with fail
  rw [← BG.eq]
  refine HCK.out.mono ?_
  rintro x w1 ⟨rfl, hb1⟩
  clear c0 c1
  obtain ⟨w2, hw2⟩ : ∃ w2, w2 = (w1.alloc (.cells #[.int .i64 0, .slice none 0 0, .int .i64 0, .slice none 0 0] 63)).alloc (.cells #[.int .i64 c, .int .i64 i] 27) := ⟨_, rfl⟩
  have hB1 : Below w0.heap.size w0 w2 := by rw [hw2]; exact bcat2 hb1 ((balloc w1 _).alloc (by simp) _)
  have hF1 : Blk w2 (w1.heap.size + 1) 27 [.int .i64 c, .int .i64 i] := by
    rw [hw2]
    have := blk0 (w := w1.alloc (.cells #[.int .i64 0, .slice none 0 0, .int .i64 0, .slice none 0 0] 63)) (T := 27) (.int .i64 c) (.int .i64 i)
    rwa [World.size_alloc] at this
  have hR1 := blk_below BG.res hB1
  have hBw := bcat BG.bel hB1 BG.bel.size
  obtain ⟨y0, y1, fy0, fy1⟩ := hR1.two
  obtain ⟨t0, t1, _, _⟩ := hF1.two
  rw [hw2] at t0 t1
  go_wp2_with fail
  rw [← hw2]
  rw [← hw2] at t0 t1
  clear hw2
  go_region
  all_goals (
    go_wp2
    obtain ⟨hR6, hB6⟩ := put2 hR1 hBw (by omega) c i
    have hB7 := bdrew hB6
    have hR7 : Blk ((w2.setCell ⟨w.heap.size + 1, 0, none⟩ (.int .i64 c)).setCell ⟨w.heap.size + 1, 1, none⟩ (.int .i64 i)).drew (w.heap.size + 1) 27 [.int .i64 c, .int .i64 i] := hR6
    generalize ((w2.setCell ⟨w.heap.size + 1, 0, none⟩ (.int .i64 c)).setCell ⟨w.heap.size + 1, 1, none⟩ (.int .i64 i)).drew = W at hR7 hB7 ⊢
    obtain ⟨z0, z1, _, _⟩ := hR7.two
    exact bodyPost_ret (v := .tuple #[.slice none 0 0, .agg #[.int .i64 c, .int .i64 i]]) (by simp [results, Tryd.results29, go_sem, z0, z1]) rfl ⟨rfl, hB7⟩)

set_option maxRecDepth 100000 in
set_option maxHeartbeats 4000000 in
theorem clcen_bad (N : Int) (v : Value) (zs : List Int) (w : World) (hv : Sl w v zs) (hT : Tab w) (hc : (gfault N zs).1 ≠ 0) :
    Calls Tryd.prog 7 #[.agg #[.int .i64 N, v]] w fun x w' => x = .returned (.bool true) ∧ Below w.heap.size w w' := by
  have hB0 : Below w.heap.size w (w.alloc (.cells #[.int .i64 N, v] 24)) := balloc w _
  have hX0 : BoxG (w.alloc (.cells #[.int .i64 N, v] 24)) w.heap.size N v := blk0 _ _
  obtain ⟨w0, hw0⟩ : ∃ w0, w0 = w.alloc (.cells #[.int .i64 N, v] 24) := ⟨_, rfl⟩
  rw [← hw0] at hB0 hX0
  have HAL := hide (fun W (h : Below w.heap.size w W) => cla_bad N v zs W (hv.below h) hc)
  have HCE := hide (fun W (h : Below w.heap.size w W) => cent_bad N v zs W (hv.below h) hc)
  have HGF := hide (fun W (h : Below w.heap.size w W) => groupFault_any N v zs W (hv.below h))
  have hcb : ((gfault N zs).1 != 0) = true := by simpa using hc
  generalize (gfault N zs).1 = c at *
  generalize (gfault N zs).2 = i at *
  go_enter Tryd.func7, Tryd.ntmps7
  go_wp2_with fail
  rw [← hw0]
  clear hw0
  refine (classBegun_any w0 (hT.below hB0)).mono ?_
  rintro x w1 ⟨rfl, hb1⟩
  have hB1 := bcat2 hB0 hb1
  obtain ⟨c0, c1, _, _⟩ := (blk_below hX0 hb1).two
  go_wp2_with fail
  clear c0 c1
  refine (HAL.out _ hB1).mono ?_
  rintro x w2 ⟨rfl, hb2⟩
  have hb3 := balloc w2 (.cells #[.int .i64 c, .int .i64 i] 27)
  have hF3 := blk0 (w := w2) (T := 27) (.int .i64 c) (.int .i64 i)
  have hB3 := bcat2 (bcat2 hB1 hb2) hb3
  have hX3 := blk_below hX0 (bcat2 (bcat2 hb1 hb2) hb3)
  obtain ⟨c0, c1, _, _⟩ := hX3.two
  obtain ⟨t0, t1, _, _⟩ := hF3.two
  go_wp2_with fail
  generalize w2.alloc (.cells #[.int .i64 c, .int .i64 i] 27) = w3 at *
  clear c0 c1 t0 t1
  refine (HCE.out _ hB3).mono ?_
  rintro x w4 ⟨rfl, hb4⟩
  have hb5 := balloc w4 (.cells #[.int .i64 c, .int .i64 i] 27)
  have hF5 := blk0 (w := w4) (T := 27) (.int .i64 c) (.int .i64 i)
  have hB5 := bcat2 (bcat2 hB3 hb4) hb5
  obtain ⟨s0, s1, _, _⟩ := hF5.two
  obtain ⟨t0, t1, _, _⟩ := (blk_below hF3 (bcat2 hb4 hb5)).two
  obtain ⟨c0, c1, _, _⟩ := (blk_below hX3 (bcat2 hb4 hb5)).two
  go_wp2_with fail
  generalize w4.alloc (.cells #[.int .i64 c, .int .i64 i] 27) = w5 at *
  clear s0 s1 t0 t1 c0 c1
  refine (HGF.out _ hB5).mono ?_
  rintro x w6 ⟨rfl, hb6⟩
  have hfd := field27 c i w6
  go_wp2
  go_ret
  exact ⟨rfl, bcat2 hB5 hb6⟩

theorem pw_ex {p : Nat} (hp : 2 ≤ p) : ∀ n, 0 < n → ∃ v j, v * p ^ j = n ∧ ¬ p ∣ v := by
  intro n
  induction n using Nat.strongRecOn with
  | _ n ih =>
    intro hn
    by_cases hd : p ∣ n
    · obtain ⟨c, rfl⟩ := hd
      have hc : 0 < c := Nat.pos_of_ne_zero fun h => by rw [h] at hn; simp at hn
      have hlt : c < p * c := by
        have := Nat.mul_le_mul_right c hp
        omega
      obtain ⟨v, j, h1, h2⟩ := ih c hlt hc
      exact ⟨v, j + 1, by rw [Nat.pow_succ, ← Nat.mul_assoc, h1, Nat.mul_comm], h2⟩
    · exact ⟨n, 0, by simp, hd⟩
theorem pwq_one {p v w j k : Nat} (hp : 2 ≤ p) (h : v * p ^ j = w * p ^ k) (hw : ¬ p ∣ w) : j ≤ k := by
  refine Nat.le_of_not_lt fun hlt => hw ?_
  obtain ⟨d, rfl⟩ : ∃ d, j = k + 1 + d := ⟨j - (k + 1), by omega⟩
  have hpos : 0 < p ^ k := Nat.pow_pos (by omega)
  have h2 : w = v * (p * p ^ d) := by
    refine Nat.eq_of_mul_eq_mul_right hpos ?_
    rw [← h, Nat.pow_add, Nat.pow_succ]
    simp only [Nat.mul_assoc, Nat.mul_comm, Nat.mul_left_comm]
  exact ⟨v * p ^ d, by rw [h2, Nat.mul_left_comm]⟩
/-- The power of p that divides n, as one number. -/
theorem powerIn_one (n p : Nat) (hn : 1 ≤ n) (hn6 : n ≤ 60) (hp : 2 ≤ p) (hp1 : p ≤ 100) : ∃ j, ∀ w, Calls Tryd.prog 32 #[.int .i64 n, .int .i64 p] w fun x w' => x = .returned (.int .i64 ((p ^ j : Nat) : Int)) ∧ Below w.heap.size w w' := by
  obtain ⟨v, j, h1, h2⟩ := pw_ex hp n (by omega)
  refine ⟨j, fun w => (powerIn_ok n p w hn hn6 hp hp1).mono ?_⟩
  rintro x w' ⟨v1, j1, rfl, h3, h4, hb⟩
  have h5 : v * p ^ j = v1 * p ^ j1 := by rw [h1, h3]
  obtain rfl : j = j1 := Nat.le_antisymm (pwq_one hp h5 h4) (pwq_one hp h5.symm h2)
  exact ⟨rfl, hb⟩
set_option maxRecDepth 100000 in
set_option maxHeartbeats 4000000 in
theorem clcen_good (n e : Nat) (v : Value) (zs : List Int) (w : World) (hv : Sl w v zs) (hT : Tab w) (hg : IsGrp n zs e) :
    Calls Tryd.prog 7 #[.agg #[.int .i64 n, v]] w fun x w' => x = .returned (.bool true) ∧ Below w.heap.size w w' := by
  obtain ⟨va, vl, vc, rfl⟩ := hv.isSlice
  have hB0 : Below w.heap.size w (w.alloc (.cells #[.int .i64 n, .slice va vl vc] 24)) := balloc w _
  have hX0 : BoxG (w.alloc (.cells #[.int .i64 n, .slice va vl vc] 24)) w.heap.size n (.slice va vl vc) := blk0 _ _
  obtain ⟨w0, hw0⟩ : ∃ w0, w0 = w.alloc (.cells #[.int .i64 n, .slice va vl vc] 24) := ⟨_, rfl⟩
  rw [← hw0] at hB0 hX0
  have HCO := hide (fun W (h : Below w.heap.size w W) => commutes_ok n (.slice va vl vc) zs W hg.tab (hv.below h))
  have HPI := hide (fun p (h2 : 2 ≤ p) (h3 : p ≤ n) => powerIn_one n p (Nat.lt_of_le_of_lt (Nat.zero_le _) hg.elt) hg.tab.le h2 (by have := hg.tab.le; omega))
  have HCM := hide (fun (p j : Nat) (h1 : primeB p = true) (h2 : p ∣ n) (h3 : p ^ j = n) => cen_mod hg h1 h2 h3)
  have hn := hg.tab.le
  go_enter Tryd.func7, Tryd.ntmps7
  go_wp2_with fail
  rw [← hw0]
  clear hw0
  refine (classBegun_any w0 (hT.below hB0)).mono ?_
  rintro x w1 ⟨rfl, hb1⟩
  have hB1 := bcat2 hB0 hb1
  obtain ⟨c0, c1, _, _⟩ := (blk_below hX0 hb1).two
  go_wp2_with fail
  clear c0 c1
  refine (cla_sl n e (.slice va vl vc) zs w1 (hv.below hB1) hg (hT.below hB1)).mono ?_
  rintro x w2 ⟨r1, r2, r3, rfl, hL, hb2⟩
  have hb3 := balloc w2 (.cells #[.int .i64 0, .int .i64 0] 27)
  have hF3 := blk0 (w := w2) (T := 27) (.int .i64 0) (.int .i64 0)
  have hB3 := bcat2 (bcat2 hB1 hb2) hb3
  have hX3 := blk_below hX0 (bcat2 (bcat2 hb1 hb2) hb3)
  have hL3 := hL.below hb3
  obtain ⟨c0, c1, _, _⟩ := hX3.two
  obtain ⟨t0, t1, _, _⟩ := hF3.two
  go_wp2_with fail
  generalize w2.alloc (.cells #[.int .i64 0, .int .i64 0] 27) = w3 at *
  clear c0 c1 t0 t1
  refine (centre_good n e (.slice va vl vc) zs w3 (hv.below hB3) hg (hT.below hB3)).mono ?_
  rintro x w4 ⟨zr, rfl, hz, hb4⟩
  obtain ⟨za, zc, _, _, rfl, _⟩ := hz
  rw [li_len]
  have hb5 := balloc w4 (.cells #[.int .i64 0, .int .i64 0] 27)
  have hF5 := blk0 (w := w4) (T := 27) (.int .i64 0) (.int .i64 0)
  have hB5 := bcat2 (bcat2 hB3 hb4) hb5
  have hX5 := blk_below hX3 (bcat2 hb4 hb5)
  have hL5 := hL3.below (bcat2 hb4 hb5)
  obtain ⟨s0, s1, _, _⟩ := hF5.two
  obtain ⟨t0, t1, _, _⟩ := (blk_below hF3 (bcat2 hb4 hb5)).two
  go_wp2_with fail
  generalize w4.alloc (.cells #[.int .i64 0, .int .i64 0] 27) = w5 at *
  clear s0 s1 t0 t1 hL hL3 hX3
  obtain ⟨la, lcap, lb, lo, hle, hl1, hl2, hl3, hl4, hl5⟩ := hL5
  have hrl := rcs_len n (clq n zs e) n
  injection hle with e1 e2 e3
  subst e1 e2 e3
  have HL1 := hide hl1
  have HL2 := hide hl2
  have HON := hide (ones_cen hg)
  have HAC := hide (all_com hg)
  have hzl := lst_len n (cenq n zs fun _ => true)
  clear hl1 hl2
  generalize (lst n (cenq n zs fun _ => true)).length = zn at *
  go_loopw [7, 8] (fun s i wr => ∃ k : Nat, k ≤ (rcs n (clq n zs e) n).length ∧ i = .int .i64 k ∧ s = .int .i64 ((((rcs n (clq n zs e) n).take k).filter fun l => decide (l.length = 1)).length : Nat) ∧ wr = w5) (fun _ i _ => (rcs n (clq n zs e) n).length - (intOf i).toNat)
  case atStart => exact ⟨0, Nat.zero_le _, rfl, rfl, rfl⟩
  case round =>
    obtain ⟨k, hk, rfl, rfl, rfl⟩ := hrel
    by_cases hlt : k < (rcs n (clq n zs e) n).length
    · have hkl : (k : Int) < ((rcs n (clq n zs e) n).length : Int) := by omega
      obtain ⟨xx, cx, hSx⟩ := HL2.out k hlt
      obtain ⟨qa, qc, qb, qo, rfl, _⟩ := hSx
      obtain rfl := HL1.out (by omega)
      have htk : (rcs n (clq n zs e) n).take (k + 1) = (rcs n (clq n zs e) n).take k ++ [(rcs n (clq n zs e) n)[k]] := List.take_succ_eq_append_getElem hlt
      have hgd : (rcs n (clq n zs e) n)[k]?.getD [] = (rcs n (clq n zs e) n)[k] := by rw [List.getElem?_eq_getElem hlt]; rfl
      rw [hgd] at cx
      have hfl : (((rcs n (clq n zs e) n).take k).filter fun l => decide (l.length = 1)).length ≤ k := Nat.le_trans (List.length_filter_le _ _) (by rw [List.length_take]; omega)
      by_cases h1 : ((rcs n (clq n zs e) n)[k]).length = 1
      · have HS := hide (show (((rcs n (clq n zs e) n).take (k + 1)).filter fun l => decide (l.length = 1)).length = (((rcs n (clq n zs e) n).take k).filter fun l => decide (l.length = 1)).length + 1 by
          rw [htk, List.filter_append, List.length_append]
          simp [h1])
        rw [h1] at cx
        clear htk hgd h1
        generalize (((rcs n (clq n zs e) n).take k).filter fun l => decide (l.length = 1)).length = sk at *
        go_wp2
        go_roundw
        case rel => exact ⟨k + 1, by omega, by go_num, by rw [HS.out]; go_num, trivial⟩
        case measure => simp [intOf]; omega
      · have HS := hide (show (((rcs n (clq n zs e) n).take (k + 1)).filter fun l => decide (l.length = 1)).length = (((rcs n (clq n zs e) n).take k).filter fun l => decide (l.length = 1)).length by
          rw [htk, List.filter_append, List.length_append]
          simp [h1])
        have h1i : ¬ ((((rcs n (clq n zs e) n)[k]).length : Nat) : Int) = 1 := by omega
        clear htk hgd h1
        generalize ((rcs n (clq n zs e) n)[k]).length = ll at *
        generalize (((rcs n (clq n zs e) n).take k).filter fun l => decide (l.length = 1)).length = sk at *
        go_wp2
        go_roundw
        case rel => exact ⟨k + 1, by omega, by go_num, by rw [HS.out], trivial⟩
        case measure => simp [intOf]; omega
    · have hkn : k = (rcs n (clq n zs e) n).length := by omega
      have hkl : ¬ (k : Int) < ((rcs n (clq n zs e) n).length : Int) := by omega
      subst hkn
      rw [List.take_length, HON.out]
      generalize hrn : (rcs n (clq n zs e) n).length = rn at *
      have hS : ∀ W, Below wr.heap.size wr W → (Below wr.heap.size wr W ∧ W.cell? ⟨w.heap.size, 0, none⟩ = some (.int .i64 n) ∧ W.cell? ⟨w.heap.size, 1, none⟩ = some (.slice va vl vc)) := fun W h => ⟨h, by
        obtain ⟨c0, c1, _, _⟩ := (blk_below hX5 h).two
        exact ⟨c0, c1⟩⟩
      have hS0 := hS _ (bdrew (Below.refl _ wr))
      have HC := hide (fun W (h : Below wr.heap.size wr W) => HCO.out W (bcat2 hB5 h))
      rw [← HAC.out] at HC
      go_wp2_with fail
      go_cut [61] (fun s61 wx => s61 = .bool false ∧ Below wr.heap.size wr wx)
      case first =>
        by_cases hrc : rn = n
        · rw [decide_eq_true hrc] at HC
          obtain rfl := hrc.symm
          go_region_held3 (fun W => Below wr.heap.size wr W ∧ W.cell? ⟨w.heap.size, 0, none⟩ = some (.int .i64 n) ∧ W.cell? ⟨w.heap.size, 1, none⟩ = some (.slice va vl vc))
            (first | exact hS0 | assumption | exact hS _ (bcat2 (And.left ‹_›) hl1))
            (first
              | (go_at_call 30; refine (HC.out _ (And.left ‹_›)).mono ?_; rintro e1 W1 ⟨rfl, hl1⟩))
          all_goals (
            obtain ⟨hB9, _, _⟩ := ‹Below wr.heap.size wr W1 ∧ _›
            go_wp2
            go_meet
            exact ⟨rfl, hB9⟩)
        · have hri : ¬ (rn : Int) = (n : Int) := by omega
          rw [decide_eq_false hrc] at HC
          go_region_held3 (fun W => Below wr.heap.size wr W ∧ W.cell? ⟨w.heap.size, 0, none⟩ = some (.int .i64 n) ∧ W.cell? ⟨w.heap.size, 1, none⟩ = some (.slice va vl vc))
            (first | exact hS0 | assumption | exact hS _ (bcat2 (And.left ‹_›) hl1))
            (first
              | (go_at_call 30; refine (HC.out _ (And.left ‹_›)).mono ?_; rintro e1 W1 ⟨rfl, hl1⟩))
          all_goals (
            obtain ⟨hB9, _, _⟩ := ‹Below wr.heap.size wr W1 ∧ _›
            go_wp2
            go_meet
            exact ⟨by rw [beq_eq_false_iff_ne.2 hri], hB9⟩)
      case rest =>
        obtain ⟨rfl, hbx⟩ := hcut
        have hXx := blk_below hX5 hbx
        have hBx := bcat2 hB5 hbx
        clear hS hS0 HC
        go_wp2
        go_loopw [9] (fun i wz => ∃ p : Nat, 2 ≤ p ∧ p ≤ n + 1 ∧ i = .int .i64 p ∧ Below wc.heap.size wc wz) (fun i _ => n + 1 - (intOf i).toNat)
        case atStart => exact ⟨2, Nat.le_refl _, by have := hg.tab.pos; omega, rfl, Below.refl _ _⟩
        case round =>
          obtain ⟨p, hp2, hpn, rfl, hBz⟩ := hrel
          have hXz := blk_below hXx hBz
          have hBzz := bcat2 hBx hBz
          obtain ⟨c0, c1, _, _⟩ := hXz.two
          by_cases hle9 : p ≤ n
          · have hlei : (p : Int) ≤ (n : Int) := by omega
            have hp0 : ¬ (p : Int) = 0 := by omega
            have hrm := tmod_nat (x := (n : Int)) (y := n) p rfl
            have HPR := hide (lprime_ok p wr)
            by_cases hpd : primeB p = true ∧ n % p = 0
            · rw [hpd.1] at HPR
              have hdv : p ∣ n := Nat.dvd_of_mod_eq_zero hpd.2
              have HCM2 := hide (fun j => HCM.out p j hpd.1 hdv)
              rw [hpd.2] at hrm
              clear hpd
              go_wp2_with fail
              refine HPR.out.mono ?_
              rintro x9 w9 ⟨rfl, hb9⟩
              clear c0 c1
              have hXy := blk_below hXz hb9
              have hBy := bcat2 hBzz hb9
              have hS : ∀ W, Below w9.heap.size w9 W → (Below w9.heap.size w9 W ∧ W.cell? ⟨w.heap.size, 0, none⟩ = some (.int .i64 n)) := fun W h => ⟨h, (blk_below hXy h).cell 0⟩
              have hS0 := hS _ (bdrew (Below.refl _ w9))
              obtain ⟨c0, c1, _, _⟩ := hXy.two
              go_wp2_with fail
              clear c0 c1
              go_cut [2] (fun s2 wx => s2 = .bool true ∧ Below w9.heap.size w9 wx)
              case first =>
                obtain ⟨j, HP⟩ := HPI.out p hp2 hle9
                have HP2 := hide HP
                clear HP
                have HCM3 := hide (HCM2.out j)
                generalize p ^ j = P9 at *
                by_cases hP : P9 = n
                · have hz9 := HCM3.out hP
                  have hzm := tmod_nat (x := (zn : Int)) (y := zn) p rfl
                  rw [hz9] at hzm
                  rw [hP] at HP2
                  clear hP hz9 HCM3
                  have hBc : Below w9.heap.size w9 w9.drew := bdrew (Below.refl _ _)
                  refine wp_region_held_drew (S := fun W => Below w9.heap.size w9 W ∧ W.cell? ⟨w.heap.size, 0, none⟩ = some (.int .i64 n)) (by kernel_rfl) (hS _ hBc) (fun hHeld => ?_)
                  generalize w9.drew = wd at *
                  refine wpAnyH_take (i := 0) (oi := ({ dst := some 77, op := Go.Op.fieldAddr 24 (Go.Operand.tmp 1) 0, type := 0, pos := _, after := _, guard := none } : Oper)) (v := ?_) rfl (by kernel_rfl) (by kernel_rfl) (by kernel_rfl) (fun _ _ _ h => h) (Or.inl ⟨by rfl, ?_⟩) (by assumption) ?_
                  rotate_left
                  · (intro w hSw; (try dsimp only at hSw); go_simp; try with_reducible rfl)
                  simp only [Act.put, List.setIfInBounds_toArray, List.set_cons_zero, List.set_cons_succ]
                  refine wpAnyH_take (i := 1) (oi := ({ dst := some 78, op := Go.Op.load 3 (Go.Operand.tmp 77), type := 3, pos := _, after := _, guard := none } : Oper)) (v := ?_) rfl (by kernel_rfl) (by kernel_rfl) (by kernel_rfl) (fun _ _ _ h => h) (Or.inl ⟨by rfl, ?_⟩) (by assumption) ?_
                  rotate_left
                  · (intro w hSw; (try dsimp only at hSw); go_simp; try with_reducible rfl)
                  simp only [Act.put, List.setIfInBounds_toArray, List.set_cons_zero, List.set_cons_succ]
                  refine wpAnyH_take (i := 2) (oi := ({ dst := some 79, op := Go.Op.move (Go.Operand.tmp 9), type := 3, pos := _, after := _, guard := none } : Oper)) (v := ?_) rfl (by kernel_rfl) (by kernel_rfl) (by kernel_rfl) (fun _ _ _ h => h) (Or.inl ⟨by rfl, ?_⟩) (by assumption) ?_
                  rotate_left
                  · (intro w hSw; (try dsimp only at hSw); go_simp; try with_reducible rfl)
                  simp only [Act.put, List.setIfInBounds_toArray, List.set_cons_zero, List.set_cons_succ]
                  refine wpAnyH_take (i := 4) (oi := ({ dst := some 81, op := Go.Op.fieldAddr 24 (Go.Operand.tmp 1) 0, type := 0, pos := _, after := _, guard := none } : Oper)) (v := ?_) rfl (by kernel_rfl) (by kernel_rfl) (by kernel_rfl) (fun _ _ _ h => h) (Or.inl ⟨by rfl, ?_⟩) (by assumption) ?_
                  rotate_left
                  · (intro w hSw; (try dsimp only at hSw); go_simp; try with_reducible rfl)
                  simp only [Act.put, List.setIfInBounds_toArray, List.set_cons_zero, List.set_cons_succ]
                  refine wpAnyH_take (i := 5) (oi := ({ dst := some 82, op := Go.Op.load 3 (Go.Operand.tmp 81), type := 3, pos := _, after := _, guard := none } : Oper)) (v := ?_) rfl (by kernel_rfl) (by kernel_rfl) (by kernel_rfl) (fun _ _ _ h => h) (Or.inl ⟨by rfl, ?_⟩) (by assumption) ?_
                  rotate_left
                  · (intro w hSw; (try dsimp only at hSw); go_simp; try with_reducible rfl)
                  simp only [Act.put, List.setIfInBounds_toArray, List.set_cons_zero, List.set_cons_succ]
                  refine wpAnyH_ready (rs := [3]) (by kernel_rfl) (by simp) (AllReadyH.cons (o := ({ dst := some 80, op := Go.Op.call { callee := Go.Callee.value (Go.Operand.func 32), args := #[Go.Operand.tmp 78, Go.Operand.tmp 79], argTypes := #[3, 3] }, type := 3, pos := _, after := _, guard := none } : Oper)) rfl (fun KK hK => ?_) AllReadyH.nil)
                  go_simp
                  refine (HP2.out _).mono ?_
                  rintro x1 W1 ⟨rfl, hl1⟩
                  replace hBc := bcat2 hBc hl1
                  try go_wp2_with fail
                  refine hK.out _ _ (hS _ hBc) (fun hHeld => ?_)
                  clear hK
                  try simp only [Act.put, List.setIfInBounds_toArray, List.set_cons_zero, List.set_cons_succ]
                  refine wpAnyH_take (i := 6) (oi := ({ dst := some 83, op := Go.Op.binOp Go.BinOp.neq 3 (Go.Operand.tmp 80) (Go.Operand.tmp 82) 3, type := 4, pos := _, after := _, guard := none } : Oper)) (v := .bool false) rfl (by kernel_rfl) (by kernel_rfl) (by kernel_rfl) (fun _ _ _ h => h) (Or.inl ⟨by rfl, ?_⟩) (by assumption) ?_
                  · (intro w hSw; (try dsimp only at hSw); go_simp; try (first | with_reducible rfl | (simp; done) | omega | (simp; omega)))
                  simp only [Act.put, List.setIfInBounds_toArray, List.set_cons_zero, List.set_cons_succ]
                  refine wpAnyH_take (i := 7) (oi := ({ dst := some 84, op := Go.Op.move (Go.Operand.tmp 83), type := 4, pos := _, after := _, guard := none } : Oper)) (v := ?_) rfl (by kernel_rfl) (by kernel_rfl) (by kernel_rfl) (fun _ _ _ h => h) (Or.inl ⟨by rfl, ?_⟩) (by assumption) ?_
                  rotate_left
                  · (intro w hSw; (try dsimp only at hSw); go_simp; try with_reducible rfl)
                  simp only [Act.put, List.setIfInBounds_toArray, List.set_cons_zero, List.set_cons_succ]
                  refine wpAnyH_take (i := 8) (oi := ({ dst := some 85, op := Go.Op.move (Go.Operand.tmp 5), type := 22, pos := _, after := _, guard := some (7, false) } : Oper)) (v := ?_) rfl (by kernel_rfl) (by kernel_rfl) (by kernel_rfl) (fun _ _ _ h => h) (Or.inl ⟨by rfl, ?_⟩) (by assumption) ?_
                  rotate_left
                  · (intro w hSw; (try dsimp only at hSw); go_simp; try with_reducible rfl)
                  simp only [Act.put, List.setIfInBounds_toArray, List.set_cons_zero, List.set_cons_succ]
                  refine wpAnyH_take (i := 9) (oi := ({ dst := some 86, op := Go.Op.call { callee := Go.Callee.builtin Go.Builtin.len, args := #[Go.Operand.tmp 85], argTypes := #[22] }, type := 3, pos := _, after := _, guard := some (7, false) } : Oper)) (v := ?_) rfl (by kernel_rfl) (by kernel_rfl) (by kernel_rfl) (fun _ _ _ h => h) (Or.inl ⟨by rfl, ?_⟩) (by assumption) ?_
                  rotate_left
                  · (intro w hSw; (try dsimp only at hSw); go_simp; try with_reducible rfl)
                  simp only [Act.put, List.setIfInBounds_toArray, List.set_cons_zero, List.set_cons_succ]
                  refine wpAnyH_take (i := 10) (oi := ({ dst := some 87, op := Go.Op.move (Go.Operand.tmp 9), type := 3, pos := _, after := _, guard := some (7, false) } : Oper)) (v := ?_) rfl (by kernel_rfl) (by kernel_rfl) (by kernel_rfl) (fun _ _ _ h => h) (Or.inl ⟨by rfl, ?_⟩) (by assumption) ?_
                  rotate_left
                  · (intro w hSw; (try dsimp only at hSw); go_simp; try with_reducible rfl)
                  simp only [Act.put, List.setIfInBounds_toArray, List.set_cons_zero, List.set_cons_succ]
                  refine wpAnyH_take (i := 11) (oi := ({ dst := some 88, op := Go.Op.binOp Go.BinOp.rem 3 (Go.Operand.tmp 86) (Go.Operand.tmp 87) 3, type := 3, pos := _, after := _, guard := some (7, false) } : Oper)) (v := .int .i64 0) rfl (by kernel_rfl) (by kernel_rfl) (by kernel_rfl) (fun _ _ _ h => h) (Or.inl ⟨by rfl, ?_⟩) (by assumption) ?_
                  · (intro w hSw; (try dsimp only at hSw); go_simp; try (first | with_reducible rfl | (simp; done) | omega | (simp; omega)))
                  simp only [Act.put, List.setIfInBounds_toArray, List.set_cons_zero, List.set_cons_succ]
                  refine wpAnyH_take (i := 12) (oi := ({ dst := some 89, op := Go.Op.binOp Go.BinOp.eql 3 (Go.Operand.tmp 88) (Go.Operand.const (Go.Value.int Go.IntKind.i64 0)) 3, type := 4, pos := _, after := _, guard := some (7, false) } : Oper)) (v := .bool true) rfl (by kernel_rfl) (by kernel_rfl) (by kernel_rfl) (fun _ _ _ h => h) (Or.inl ⟨by rfl, ?_⟩) (by assumption) ?_
                  · (intro w hSw; (try dsimp only at hSw); go_simp; try (first | with_reducible rfl | (simp; done) | omega | (simp; omega)))
                  simp only [Act.put, List.setIfInBounds_toArray, List.set_cons_zero, List.set_cons_succ]
                  refine wpAnyH_take (i := 13) (oi := ({ dst := some 90, op := Go.Op.pick (Go.Operand.tmp 84) (Go.Operand.const (Go.Value.bool true)) (Go.Operand.tmp 89), type := 4, pos := _, after := _, guard := none } : Oper)) (v := ?_) rfl (by kernel_rfl) (by kernel_rfl) (by kernel_rfl) (fun _ _ _ h => h) (Or.inl ⟨by rfl, ?_⟩) (by assumption) ?_
                  rotate_left
                  · (intro w hSw; (try dsimp only at hSw); go_simp; try with_reducible rfl)
                  simp only [Act.put, List.setIfInBounds_toArray, List.set_cons_zero, List.set_cons_succ]
                  refine wpAnyH_take (i := 14) (oi := ({ dst := some 2, op := Go.Op.assign (Go.Operand.tmp 90), type := 4, pos := _, after := _, guard := none } : Oper)) (v := ?_) rfl (by kernel_rfl) (by kernel_rfl) (by kernel_rfl) (fun _ _ _ h => h) (Or.inl ⟨by rfl, ?_⟩) (by assumption) ?_
                  rotate_left
                  · (intro w hSw; (try dsimp only at hSw); go_simp; try with_reducible rfl)
                  simp only [Act.put, List.setIfInBounds_toArray, List.set_cons_zero, List.set_cons_succ]
                  refine wpAnyH_done (by kernel_rfl) ?_ _
                  go_wp2
                  go_meet
                  exact ⟨rfl, hBc⟩
                · have hPi : ¬ (P9 : Int) = (n : Int) := by omega
                  clear hP HCM3
                  have hBc : Below w9.heap.size w9 w9.drew := bdrew (Below.refl _ _)
                  refine wp_region_held_drew (S := fun W => Below w9.heap.size w9 W ∧ W.cell? ⟨w.heap.size, 0, none⟩ = some (.int .i64 n)) (by kernel_rfl) (hS _ hBc) (fun hHeld => ?_)
                  generalize w9.drew = wd at *
                  refine wpAnyH_take (i := 0) (oi := ({ dst := some 77, op := Go.Op.fieldAddr 24 (Go.Operand.tmp 1) 0, type := 0, pos := _, after := _, guard := none } : Oper)) (v := ?_) rfl (by kernel_rfl) (by kernel_rfl) (by kernel_rfl) (fun _ _ _ h => h) (Or.inl ⟨by rfl, ?_⟩) (by assumption) ?_
                  rotate_left
                  · (intro w hSw; (try dsimp only at hSw); go_simp; try with_reducible rfl)
                  simp only [Act.put, List.setIfInBounds_toArray, List.set_cons_zero, List.set_cons_succ]
                  refine wpAnyH_take (i := 1) (oi := ({ dst := some 78, op := Go.Op.load 3 (Go.Operand.tmp 77), type := 3, pos := _, after := _, guard := none } : Oper)) (v := ?_) rfl (by kernel_rfl) (by kernel_rfl) (by kernel_rfl) (fun _ _ _ h => h) (Or.inl ⟨by rfl, ?_⟩) (by assumption) ?_
                  rotate_left
                  · (intro w hSw; (try dsimp only at hSw); go_simp; try with_reducible rfl)
                  simp only [Act.put, List.setIfInBounds_toArray, List.set_cons_zero, List.set_cons_succ]
                  refine wpAnyH_take (i := 2) (oi := ({ dst := some 79, op := Go.Op.move (Go.Operand.tmp 9), type := 3, pos := _, after := _, guard := none } : Oper)) (v := ?_) rfl (by kernel_rfl) (by kernel_rfl) (by kernel_rfl) (fun _ _ _ h => h) (Or.inl ⟨by rfl, ?_⟩) (by assumption) ?_
                  rotate_left
                  · (intro w hSw; (try dsimp only at hSw); go_simp; try with_reducible rfl)
                  simp only [Act.put, List.setIfInBounds_toArray, List.set_cons_zero, List.set_cons_succ]
                  refine wpAnyH_take (i := 4) (oi := ({ dst := some 81, op := Go.Op.fieldAddr 24 (Go.Operand.tmp 1) 0, type := 0, pos := _, after := _, guard := none } : Oper)) (v := ?_) rfl (by kernel_rfl) (by kernel_rfl) (by kernel_rfl) (fun _ _ _ h => h) (Or.inl ⟨by rfl, ?_⟩) (by assumption) ?_
                  rotate_left
                  · (intro w hSw; (try dsimp only at hSw); go_simp; try with_reducible rfl)
                  simp only [Act.put, List.setIfInBounds_toArray, List.set_cons_zero, List.set_cons_succ]
                  refine wpAnyH_take (i := 5) (oi := ({ dst := some 82, op := Go.Op.load 3 (Go.Operand.tmp 81), type := 3, pos := _, after := _, guard := none } : Oper)) (v := ?_) rfl (by kernel_rfl) (by kernel_rfl) (by kernel_rfl) (fun _ _ _ h => h) (Or.inl ⟨by rfl, ?_⟩) (by assumption) ?_
                  rotate_left
                  · (intro w hSw; (try dsimp only at hSw); go_simp; try with_reducible rfl)
                  simp only [Act.put, List.setIfInBounds_toArray, List.set_cons_zero, List.set_cons_succ]
                  refine wpAnyH_ready (rs := [3]) (by kernel_rfl) (by simp) (AllReadyH.cons (o := ({ dst := some 80, op := Go.Op.call { callee := Go.Callee.value (Go.Operand.func 32), args := #[Go.Operand.tmp 78, Go.Operand.tmp 79], argTypes := #[3, 3] }, type := 3, pos := _, after := _, guard := none } : Oper)) rfl (fun KK hK => ?_) AllReadyH.nil)
                  go_simp
                  refine (HP2.out _).mono ?_
                  rintro x1 W1 ⟨rfl, hl1⟩
                  replace hBc := bcat2 hBc hl1
                  try go_wp2_with fail
                  refine hK.out _ _ (hS _ hBc) (fun hHeld => ?_)
                  clear hK
                  try simp only [Act.put, List.setIfInBounds_toArray, List.set_cons_zero, List.set_cons_succ]
                  refine wpAnyH_take (i := 6) (oi := ({ dst := some 83, op := Go.Op.binOp Go.BinOp.neq 3 (Go.Operand.tmp 80) (Go.Operand.tmp 82) 3, type := 4, pos := _, after := _, guard := none } : Oper)) (v := .bool true) rfl (by kernel_rfl) (by kernel_rfl) (by kernel_rfl) (fun _ _ _ h => h) (Or.inl ⟨by rfl, ?_⟩) (by assumption) ?_
                  · (intro w hSw; (try dsimp only at hSw); go_simp; try (first | with_reducible rfl | (simp [hPi]; done) | (simp; omega) | (simp; done) | omega | (simp; omega)))
                  simp only [Act.put, List.setIfInBounds_toArray, List.set_cons_zero, List.set_cons_succ]
                  refine wpAnyH_take (i := 7) (oi := ({ dst := some 84, op := Go.Op.move (Go.Operand.tmp 83), type := 4, pos := _, after := _, guard := none } : Oper)) (v := ?_) rfl (by kernel_rfl) (by kernel_rfl) (by kernel_rfl) (fun _ _ _ h => h) (Or.inl ⟨by rfl, ?_⟩) (by assumption) ?_
                  rotate_left
                  · (intro w hSw; (try dsimp only at hSw); go_simp; try with_reducible rfl)
                  simp only [Act.put, List.setIfInBounds_toArray, List.set_cons_zero, List.set_cons_succ]
                  refine wpAnyH_take (i := 8) (oi := ({ dst := some 85, op := Go.Op.move (Go.Operand.tmp 5), type := 22, pos := _, after := _, guard := some (7, false) } : Oper)) (v := undef) rfl (by kernel_rfl) (by kernel_rfl) (by kernel_rfl) (fun _ _ _ h => h) (Or.inr ⟨by rfl, rfl⟩) (by assumption) ?_
                  simp only [Act.put, List.setIfInBounds_toArray, List.set_cons_zero, List.set_cons_succ]
                  refine wpAnyH_take (i := 9) (oi := ({ dst := some 86, op := Go.Op.call { callee := Go.Callee.builtin Go.Builtin.len, args := #[Go.Operand.tmp 85], argTypes := #[22] }, type := 3, pos := _, after := _, guard := some (7, false) } : Oper)) (v := undef) rfl (by kernel_rfl) (by kernel_rfl) (by kernel_rfl) (fun _ _ _ h => h) (Or.inr ⟨by rfl, rfl⟩) (by assumption) ?_
                  simp only [Act.put, List.setIfInBounds_toArray, List.set_cons_zero, List.set_cons_succ]
                  refine wpAnyH_take (i := 10) (oi := ({ dst := some 87, op := Go.Op.move (Go.Operand.tmp 9), type := 3, pos := _, after := _, guard := some (7, false) } : Oper)) (v := undef) rfl (by kernel_rfl) (by kernel_rfl) (by kernel_rfl) (fun _ _ _ h => h) (Or.inr ⟨by rfl, rfl⟩) (by assumption) ?_
                  simp only [Act.put, List.setIfInBounds_toArray, List.set_cons_zero, List.set_cons_succ]
                  refine wpAnyH_take (i := 11) (oi := ({ dst := some 88, op := Go.Op.binOp Go.BinOp.rem 3 (Go.Operand.tmp 86) (Go.Operand.tmp 87) 3, type := 3, pos := _, after := _, guard := some (7, false) } : Oper)) (v := undef) rfl (by kernel_rfl) (by kernel_rfl) (by kernel_rfl) (fun _ _ _ h => h) (Or.inr ⟨by rfl, rfl⟩) (by assumption) ?_
                  simp only [Act.put, List.setIfInBounds_toArray, List.set_cons_zero, List.set_cons_succ]
                  refine wpAnyH_take (i := 12) (oi := ({ dst := some 89, op := Go.Op.binOp Go.BinOp.eql 3 (Go.Operand.tmp 88) (Go.Operand.const (Go.Value.int Go.IntKind.i64 0)) 3, type := 4, pos := _, after := _, guard := some (7, false) } : Oper)) (v := undef) rfl (by kernel_rfl) (by kernel_rfl) (by kernel_rfl) (fun _ _ _ h => h) (Or.inr ⟨by rfl, rfl⟩) (by assumption) ?_
                  simp only [Act.put, List.setIfInBounds_toArray, List.set_cons_zero, List.set_cons_succ]
                  refine wpAnyH_take (i := 13) (oi := ({ dst := some 90, op := Go.Op.pick (Go.Operand.tmp 84) (Go.Operand.const (Go.Value.bool true)) (Go.Operand.tmp 89), type := 4, pos := _, after := _, guard := none } : Oper)) (v := ?_) rfl (by kernel_rfl) (by kernel_rfl) (by kernel_rfl) (fun _ _ _ h => h) (Or.inl ⟨by rfl, ?_⟩) (by assumption) ?_
                  rotate_left
                  · (intro w hSw; (try dsimp only at hSw); go_simp; try with_reducible rfl)
                  simp only [Act.put, List.setIfInBounds_toArray, List.set_cons_zero, List.set_cons_succ]
                  refine wpAnyH_take (i := 14) (oi := ({ dst := some 2, op := Go.Op.assign (Go.Operand.tmp 90), type := 4, pos := _, after := _, guard := none } : Oper)) (v := ?_) rfl (by kernel_rfl) (by kernel_rfl) (by kernel_rfl) (fun _ _ _ h => h) (Or.inl ⟨by rfl, ?_⟩) (by assumption) ?_
                  rotate_left
                  · (intro w hSw; (try dsimp only at hSw); go_simp; try with_reducible rfl)
                  simp only [Act.put, List.setIfInBounds_toArray, List.set_cons_zero, List.set_cons_succ]
                  refine wpAnyH_done (by kernel_rfl) ?_ _
                  go_wp2
                  go_meet
                  exact ⟨rfl, hBc⟩
              case rest =>
                obtain ⟨rfl, hbx⟩ := hcut
                go_wp2
                go_ret
                exact ⟨rfl, bcat2 hBy hbx⟩
            · by_cases hpr : primeB p = true
              · rw [hpr] at HPR
                have hm9 : ¬ n % p = 0 := fun h => hpd ⟨hpr, h⟩
                have hmi : ¬ ((n % p : Nat) : Int) = 0 := by omega
                clear hpd
                generalize n % p = m9 at *
                go_wp2_with fail
                refine HPR.out.mono ?_
                rintro x9 w9 ⟨rfl, hb9⟩
                clear c0 c1
                obtain ⟨c0, c1, _, _⟩ := (blk_below hXz hb9).two
                go_wp2
                go_roundw
                case rel => exact ⟨p + 1, by omega, by omega, by go_num, bcat2 hBz hb9⟩
                case measure => simp [intOf]; omega
              · rw [Bool.eq_false_iff.2 hpr] at HPR
                clear hpd
                go_wp2_with fail
                refine HPR.out.mono ?_
                rintro x9 w9 ⟨rfl, hb9⟩
                go_wp2
                go_roundw
                case rel => exact ⟨p + 1, by omega, by omega, by go_num, bcat2 hBz hb9⟩
                case measure => simp [intOf]; omega
          · have hlei : ¬ (p : Int) ≤ (n : Int) := by omega
            go_wp2
            go_ret
            exact ⟨rfl, hBzz⟩
theorem clcen_law (N : Int) (v : Value) (zs : List Int) (w : World) (hv : Sl w v zs) (hT : Tab w) :
    Calls Tryd.prog 7 #[.agg #[.int .i64 N, v]] w fun x w' => x = .returned (.bool true) ∧ Below w.heap.size w w' := by
  by_cases hc : (gfault N zs).1 = 0
  · obtain ⟨n, e, rfl, hg, _⟩ := gfault_grp hc
    exact clcen_good n e v zs w hv hT hg
  · exact clcen_bad N v zs w hv hT hc
end Go.Proofs.YtobnfbnholbfoaaDoor

namespace Go.Proofs.YtobnfbnholbfoaaDoor
open Go.ChangeShapes Go.WideShapes Go.ChangeAt Go.RowKit

theorem own : ownKnob Tryd.prog.godebug = none := by kernel_rfl
theorem laidOut : laidOutB Tryd.prog = true := by kernel_rfl

/-- A slice of ints that reads as zs; where nothing is in it, nothing is told of the memory. -/
def SlA (w : World) (v : Value) (zs : List Int) : Prop := ∃ a cap pb po, v = .slice a zs.length cap ∧ Reads w a pb po zs ∧ (0 < zs.length → pb < w.heap.size) ∧ zs.length ≤ cap ∧ cap ≤ maxLen
theorem SlA.up {w w' : World} {v : Value} {zs : List Int} (h : SlA w v zs) (hb : Below w.heap.size w w') (h0 : 0 < w'.heap.size) : Sl w' v zs := by
  obtain ⟨a, cap, pb, po, hv, hr, hp, h1, h2⟩ := h
  rcases Nat.eq_zero_or_pos zs.length with hz | hz
  · exact ⟨a, cap, 0, 0, hv, ⟨fun h => by omega, fun j hj => by omega⟩, h0, h1, h2⟩
  · exact ⟨a, cap, pb, po, hv, hr.below hb (hp hz), Nat.lt_of_lt_of_le (hp hz) hb.size, h1, h2⟩
theorem SlA.of {w : World} {v : Value} {zs : List Int} (h : Sl w v zs) : SlA w v zs := by
  obtain ⟨a, cap, pb, po, hv, hr, hp, h1, h2⟩ := h
  exact ⟨a, cap, pb, po, hv, hr, fun _ => hp, h1, h2⟩

theorem und24 : ∃ f0 f1 : Field, Tryd.prog.underlying 24 = some (.struct #[f0, f1]) ∧ f0.type = 3 ∧ f1.type = 22 ∧ f0.offset = 0 ∧ f1.offset = 1 := ⟨_, _, Tryd.underlying24, rfl, rfl, rfl, rfl⟩
theorem und3 : Tryd.prog.underlying 3 = some (.int .i64) := by kernel_rfl
theorem und22 : Tryd.prog.underlying 22 = some (.slice 3) := by kernel_rfl
theorem und4 : Tryd.prog.underlying 4 = some .bool := by kernel_rfl

set_option maxRecDepth 100000 in
/-- What is told of a table that came in. -/
theorem open_group {H : Type} {enc : TypeId × Value → H} {W : World} {b0 : Nat} {v : Value} {d : DataW H} {ps : List MemPlace} (hval : Value.okWide Tryd.prog W .any b0 24 v)
    (hd : DataW.Trod enc Tryd.prog W 0 (fun _ => true) true 24 v d ps) :
    ∃ N u zs, v = .agg #[.int .i64 N, u] ∧ SlA W u zs ∧ (Lit.int .i64 N).wf = true ∧ ((d.weights Tryd.prog 24).all (· ≤ reachBytes) = true → zs.length * 8 ≤ 140737488355328) := by
  obtain ⟨f0, f1, hu, ht0, ht1, ho0, ho1⟩ := und24
  obtain ⟨cs, rfl, hsz⟩ := okWide_struct hu hval
  rw [show Tryd.prog.cellsOf 24 = 2 by kernel_rfl] at hsz
  obtain ⟨l⟩ := cs
  match l, hsz with
  | [c0, c1], _ =>
  obtain ⟨fuel, hf⟩ := hd
  obtain ⟨y0, y1, m, hx, _, hy0, hy1⟩ := trod_struct2 hu hf
  rw [ht0, ho0, show Tryd.prog.cellsOf 3 = 1 by kernel_rfl] at hy0
  rw [ht1, ho1, show Tryd.prog.cellsOf 22 = 1 by kernel_rfl] at hy1
  obtain ⟨N, e0, rfl, wN⟩ := DataW.trod_int und3 hy0
  simp [Value.cells] at e0
  subst e0
  simp [Value.cells] at hy1
  rcases open_ints und22 und3 (by kernel_rfl) hy1 with ⟨hcs, _⟩ | ⟨x, l, c, zs, hcs, _, hl, hm, hz, heq, hcell, hwz⟩
  · simp at hcs
    subst hcs
    exact ⟨N, _, [], rfl, ⟨none, 0, 0, 0, rfl, ⟨by simp, by simp⟩, by simp, by simp, by unfold maxLen; omega⟩, wN, fun _ => by simp⟩
  · simp at hcs
    subst hcs
    have hzc : zs.length = c := by simpa using hz
    have hlen : (zs.take l).length = l := by rw [List.length_take]; omega
    refine ⟨N, _, zs.take l, rfl, ?_, wN, fun hw => ?_⟩
    · by_cases hpos : 0 < c
      · obtain ⟨b, o, rfl, hc'⟩ := ints_at hcell (by omega)
        refine ⟨some ⟨b, o, none⟩, c, b, o, by rw [hlen], ⟨fun _ => rfl, fun j hj => ?_⟩, fun _ => World.block_lt_of_cell? W _ (hc' 0 (by omega)), by omega, hm⟩
        rw [hlen] at hj
        rw [hc' j (by omega), List.getElem?_take, if_pos hj, List.getD_eq_getElem?_getD]
      · have : l = 0 := by omega
        subst this
        exact ⟨some x, c, 0, 0, by simp, ⟨by simp, by simp⟩, by simp, by simp, hm⟩
    · have hd : d = .agg [.lit (.int .i64 N), .slice (lits .i64 (zs.take l)) (lits .i64 (zs.drop l))] := by
        have h1 := congrArg Prod.fst hx
        simp only [heq] at h1
        exact h1
      have hw2 := List.all_eq_true.1 hw (((lits (H := H) .i64 (zs.take l)).length + (lits (H := H) .i64 (zs.drop l)).length) * Tryd.prog.bytesOf 3) (by
        rw [hd]; simp [DataW.weights, DataW.weightsEach, hu, ht0, ht1])
      rw [show Tryd.prog.bytesOf 3 = 8 by kernel_rfl] at hw2
      simp only [lits, List.length_map, decide_eq_true_eq] at hw2
      unfold reachBytes at hw2
      omega
end Go.Proofs.YtobnfbnholbfoaaDoor

namespace Go.Proofs.YtobnfbnholbfoaaDoor
open Go.ChangeShapes Go.WideShapes Go.ChangeAt Go.RowKit

/-- What the rows list. -/
def laid1 : List (String × DataW Unit) := Rows.classAllRow.laid
def tabZ : List Int := Lib.deBruijn64tab.map fun (x : Nat) => (x : Int)
theorem tab_data : (Rows.laid_math_bits_deBruijn64tab : DataW Unit) = Lib.tabData .u8 tabZ := by kernel_rfl
/-- The door's own heap meets the condition. -/
theorem door_met (os : Os) (args : Array Value) : laidMetH Tryd.prog laid1 ((World.doorLaid Tryd.prog 400 os).forCall (fun _ _ => 0) ⟨#[], args, []⟩).memory :=
  laidMetH_of_parts3 (fuel := 8) (laidMet_of_run' 8 (by kernel_rfl) (by kernel_rfl)) (by kernel_rfl) (by kernel_rfl)
theorem tab_of_laid {W : World} (h : laidMetH Tryd.prog laid1 W) : Tab W := by
  rw [MakeChecks.laidMetH_plain _ _ _ (by kernel_rfl)] at h
  have h2 : laidMet Tryd.prog [("math/bits.deBruijn64tab", (Rows.laid_math_bits_deBruijn64tab : DataW Unit))] W := h
  rw [tab_data] at h2
  have hg : Tryd.prog.globalNamed "math/bits.deBruijn64tab" = some 0 := by kernel_rfl
  have hT := Lib.tabIs_of_head hg (t := 108) (e := 5) (n := 64) (by kernel_rfl) (by kernel_rfl) (by kernel_rfl) (by kernel_rfl) (by kernel_rfl) h2
  intro j hj
  have hj' : j < tabZ.length := by simpa [tabZ] using hj
  have hc := hT.cell hg j hj'
  rw [hc]
  simp [tabZ, hj]
set_option maxRecDepth 100000 in
/-- A list of ints that came in: its value, what it reads as, and its size. -/
theorem open_list {H : Type} {enc : TypeId × Value → H} {W : World} {b0 : Nat} {v : Value} {d : DataW H} {ps : List MemPlace} (hval : Value.okWide Tryd.prog W .any b0 22 v)
    (hd : DataW.Trod enc Tryd.prog W 0 (fun _ => true) true 22 v d ps) (h0 : 0 < W.heap.size) :
    ∃ zs, Sl W v zs ∧ ((d.weights Tryd.prog 22).all (· ≤ reachBytes) = true → zs.length * 8 ≤ 140737488355328) := by
  obtain ⟨a, len, cap, rfl⟩ := okWide_slice und22 hval
  obtain ⟨fuel, hf⟩ := hd
  rcases open_ints und22 und3 (by kernel_rfl) hf with ⟨hcs, _⟩ | ⟨x, l, c, zs, hcs, _, hl, hm, hz, heq, hcell, hwz⟩
  · simp [Value.cells] at hcs
    obtain ⟨rfl, rfl, rfl⟩ := hcs
    exact ⟨[], Sl.nil h0, fun _ => by simp⟩
  · simp [Value.cells] at hcs
    obtain ⟨rfl, rfl, rfl⟩ := hcs
    have hzc : zs.length = cap := by simpa using hz
    have hlen : (zs.take len).length = len := by rw [List.length_take]; omega
    refine ⟨zs.take len, ?_, fun hw => ?_⟩
    · by_cases hpos : 0 < cap
      · obtain ⟨b, o, rfl, hc'⟩ := ints_at hcell (by omega)
        refine ⟨some ⟨b, o, none⟩, cap, b, o, by rw [hlen], ⟨fun _ => rfl, fun j hj => ?_⟩, World.block_lt_of_cell? W _ (hc' 0 (by omega)), by omega, hm⟩
        rw [hlen] at hj
        rw [hc' j (by omega), List.getElem?_take, if_pos hj, List.getD_eq_getElem?_getD]
      · have : len = 0 := by omega
        subst this
        exact ⟨some x, cap, 0, 0, by simp, ⟨by simp, by simp⟩, h0, by simp, hm⟩
    · simp only [Prod.mk.injEq] at heq
      have hw2 := List.all_eq_true.1 hw (((lits (H := H) .i64 (zs.take len)).length + (lits (H := H) .i64 (zs.drop len)).length) * Tryd.prog.bytesOf 3) (by
        rw [heq.1]; simp [DataW.weights])
      rw [show Tryd.prog.bytesOf 3 = 8 by kernel_rfl] at hw2
      simp only [lits, List.length_map, decide_eq_true_eq] at hw2
      unfold reachBytes at hw2
      omega
end Go.Proofs.YtobnfbnholbfoaaDoor
