/- What the document's CyclesOf gives at permutations. -/
import Derived.Test.YtjchmhngfnlbhaaDoorOc
import Derived.Test.YtjchmhngfnlbhaaDoorOrd
import Derived.Test.YtjchmhngfnlbhaaDoorColl
import Derived.Test.YtjchmhngfnlbhaaDoorStay
import Derived.Test.YtjchmhngfnlbhaaDoorCycles
namespace Go.Proofs.YtjchmhngfnlbhaaDoor
open Go Go.RowKit

theorem CRows.below {W W' : World} {vs : List Value} {L : List (List Nat)} (h : CRows W vs L) (hb : Below W.heap.size W W') : CRows W' vs L :=
  h.kept fun k _ _ hk => (hb.block k (Array.getElem?_eq_some_iff.1 hk).1).trans hk
theorem itl_one (zs : List Int) (i : Nat) : itl zs i 1 = [i] := rfl
theorem itN_nx {zs : List Int} (hp : IsPerm zs) {i : Nat} (hi : i < zs.length) (k : Nat) : itN (nx zs) k i < zs.length ∧ zs[itN (nx zs) k i]?.getD 0 = ((itN (nx zs) (k + 1) i : Nat) : Int) := by
  have h := itN_lt hp k hi
  refine ⟨h, ?_⟩
  rw [itN_succ]; exact (nx_lt hp h).2

set_option maxRecDepth 100000 in
set_option maxHeartbeats 4000000 in
theorem cyclesOf_ok (u : Value) (zs : List Int) (one : Bool) (w : World) (hu : Sl w u zs) (hperm : IsPerm zs) (hl : zs.length ≤ 1000) :
    Calls Tryd.prog 17 #[u, .bool one] w fun e w' => ∃ v vs, e = .returned v ∧ w'.ownsRow w.heap.size 22 1 v (ocs zs one zs.length).length vs ∧ CRows w' vs (ocs zs one zs.length) ∧ Below w.heap.size w w' := by
  obtain ⟨i3, hi3, hy0, hy1, hy2⟩ := info_parts info3
  obtain ⟨i2, hi2, hz0, hz1, hz2⟩ := info_parts info22
  obtain ⟨a, cap, pb, po, rfl, hr, hp, hq3, hq4⟩ := hu
  have HP := hide hperm
  clear hperm
  go_enter Tryd.func17, Tryd.ntmps17
  go_wp2
  go_loopw [5, 6] (fun v i wr => ∃ (k : Nat) (vs : List Value), k ≤ zs.length ∧ i = .int .i64 k ∧ wr.ownsRow w.heap.size 22 1 v (ocs zs one k).length vs ∧ CRows wr vs (ocs zs one k) ∧ Below w.heap.size w wr)
    (fun _ i _ => zs.length - (intOf i).toNat)
  case atStart => exact ⟨0, [], Nat.zero_le _, rfl, World.ownsRow_nil _ _ _ _, CRows.nil _, Below.refl _ _⟩
  case round =>
    obtain ⟨k, vs, hk, rfl, hO, hC, hB⟩ := hrel
    obtain ⟨v, rfl⟩ : ∃ v, v = u5 := ⟨_, rfl⟩
    obtain ⟨wo, rfl⟩ : ∃ wo, wo = wr := ⟨_, rfl⟩
    have hBs := hB.size
    by_cases hlt : k < zs.length
    · obtain ⟨hoc, hpp, hpl⟩ := oc_cyc HP.out hlt
      obtain rfl := hr.at_ (by omega)
      have hx0 := (nx_lt HP.out hlt)
      have hB1 : Below wo.heap.size wo (wo.alloc (.cells #[.int .i64 (k : Int)] 3)) := balloc wo _
      have hc0 : (wo.alloc (.cells #[.int .i64 (k : Int)] 3)).cell? ⟨pb, po + k, none⟩ = some (.int .i64 ((nx zs k : Nat) : Int)) := by
        have := ((hr.below hB hp).below hB1 (by omega)).cell k hlt
        rw [hx0.2] at this; exact this
      have hO1 : (wo.alloc (.cells #[.int .i64 (k : Int)] 3)).ownsRow wo.heap.size 3 1 (.slice (some ⟨wo.heap.size, 0, none⟩) 1 1) 1 [.int .i64 (k : Int)] := by
        refine ⟨rfl, .inr ⟨wo.heap.size, 1, #[.int .i64 (k : Int)], rfl, Nat.le_refl _, World.alloc_heap_new wo _, Nat.le_refl _, by unfold maxLen; omega, rfl, rfl⟩⟩
      have HX0 := hide hx0
      clear hoc hx0
      go_wp2
      clear hc0
      go_loopw [7, 8, 9] (fun cv b x wi => ∃ m : Nat, 0 < m ∧ m ≤ per zs k ∧ wi.ownsRow wo.heap.size 3 1 cv m (pts (itl zs k m)) ∧ b = .bool (lstTo zs k (m - 1)) ∧ x = .int .i64 ((itN (nx zs) m k : Nat) : Int) ∧ Below wo.heap.size wo wi)
        (fun cv _ _ _ => per zs k - lenOf cv)
      case atStart => exact ⟨1, Nat.one_pos, hpp, hO1, rfl, by rw [show itN (nx zs) 1 k = nx zs k from rfl], hB1⟩
      case round =>
        obtain ⟨m, hm0, hm1, hOi, rfl, rfl, hBi⟩ := hrel
        obtain ⟨cv, rfl⟩ : ∃ cv, cv = u7 := ⟨_, rfl⟩
        have hback := back_iff HP.out hlt hm0 hm1
        have hnx := itN_nx HP.out hlt m
        clear hO1 hB1
        obtain ⟨g9, cap9, rfl⟩ : ∃ g9 cap9, cv = .slice (some ⟨g9, 0, none⟩) m cap9 := by
          obtain ⟨m', rfl⟩ : ∃ m', m = m' + 1 := ⟨m - 1, by omega⟩
          exact ownsRow_succ hOi
        by_cases he : m = per zs k
        · subst he
          have hxe : itN (nx zs) (per zs k) k = k := hback.2 rfl
          rw [hxe]
          have hls : lstTo zs k (per zs k - 1) = lst zs k := rfl
          rw [hls]
          have hOi' : wr.ownsRow wo.heap.size 3 1 (.slice (some ⟨g9, 0, none⟩) (per zs k) cap9) (per zs k) (pts (oc zs k)) := hOi
          have hCi := hC.below hBi
          have hOv := row_below hO hBi
          have hbk := (row_block hOv).2
          have hok := ocs_len zs one k
          have hol : (oc zs k).length = per zs k := oc_len zs k
          have hsl : w.heap.size ≤ wr.heap.size := Nat.le_trans hBs hBi.size
          have hBw : Below w.heap.size w wr := hB.trans (hBi.mono hBs)
          have HOL := hide hol
          clear hback hnx hxe hls hOi hol
          have key : ∀ (L' : List (List Nat)), L' = ocs zs one k ++ [oc zs k] → ∀ (v' : Value) (w2 : World), w2.ownsRow w.heap.size 22 1 v' ((ocs zs one k).length + 1) (vs ++ [.slice (some ⟨g9, 0, none⟩) (per zs k) cap9]) → (wr.alloc (.cells #[.slice (some ⟨g9, 0, none⟩) (per zs k) cap9] 22)).grownBy w2 v.ownBlock →
              ∃ vs', w2.ownsRow w.heap.size 22 1 v' L'.length vs' ∧ CRows w2 vs' L' ∧ Below w.heap.size w w2 := by
            rintro L' rfl v' w2 hown' hgrow
            have h3 : ∀ (j : Nat) (c : Array Value) (fz : Nat × Nat), wr.heap[j]? = some (.cells c 3 fz) → w2.heap[j]? = some (.cells c 3 fz) := fun j c fz hj => by
              have hjl := (Array.getElem?_eq_some_iff.1 hj).1
              rw [hgrow.block j (by simp; omega) (fun e => ?_), Below.heap_alloc _ _ _ hjl]
              · exact hj
              · rcases hOv.2 with ⟨rfl, _⟩ | ⟨g8, cap8, cur, rfl, _, hh, _⟩
                · simp [Value.ownBlock] at e
                · simp [Value.ownBlock] at e
                  subst e
                  rw [hh] at hj; cases hj
            refine ⟨vs ++ [.slice (some ⟨g9, 0, none⟩) (per zs k) cap9], by rw [List.length_append]; exact hown', ?_, (hBw.alloc hsl _).grown hgrow (by simp; omega) (fun j e => (hbk j e).1)⟩
            have := (hCi.kept h3).snoc (c := oc zs k) (g := g9) (cap := cap9) (by rw [HOL.out]; exact row3_kept (owns_mono hOi' (Nat.zero_le _)) h3)
            rw [HOL.out] at this; exact this
          have HKEY := hide key
          clear key
          cases hls : lst zs k with
          | false =>
            have HM := hide (ocs_miss zs one k (by simp [hls]))
            go_wp2
            go_roundw
            case rel => exact ⟨k + 1, vs, by omega, by go_num, by rw [HM.out]; exact hOv, by rw [HM.out]; exact hCi, hBw⟩
            case measure => simp [intOf]; omega
          | true =>
            cases one with
            | true =>
              have HH := hide (ocs_hit zs true k (by simp [hls]))
              clear hls
              go_wp2_with (first
                | (at_builtin; refine wpList_append_own _ rfl _ _ 24 rfl w.heap.size 22 i2 (.slice none 0 0) 1 24 under39 hi2 hz0 hz1 hz2 rfl (by decide) _ _ _ rfl (World.ownsRow.alloc hOv _) ⟨wr.heap.size, 0, none⟩ 1 1 [.slice (some ⟨g9, 0, none⟩) (per zs k) cap9] rfl rfl ?c1 ?c2 ?c3 ?c4 ?c5 ?_))
              case c1 => exact cell_one_new _ _ _
              case c2 => simp [Value.oneCell']
              case c3 => unfold maxLen; omega
              case c4 => omega
              case c5 => simp; omega
              intro v' w2 hown' hgrow _
              obtain ⟨vs', k1, k2, k3⟩ := HKEY.out _ HH.out v' w2 hown' hgrow
              obtain ⟨g', cap', rfl⟩ := ownsRow_succ hown'
              clear hown' hgrow hOv hCi hOi' hBw
              go_wp2
              go_roundw
              case rel => exact ⟨k + 1, vs', by omega, by go_num, k1, k2, k3⟩
              case measure => simp [intOf]; omega
            | false =>
              by_cases h1 : 1 < per zs k
              · have HH := hide (ocs_hit zs false k (by simp [hls, h1]))
                have h1i : (1 : Int) < (per zs k : Int) := by omega
                clear hls
                go_wp2_with (first
                  | (at_builtin; refine wpList_append_own _ rfl _ _ 24 rfl w.heap.size 22 i2 (.slice none 0 0) 1 24 under39 hi2 hz0 hz1 hz2 rfl (by decide) _ _ _ rfl (World.ownsRow.alloc hOv _) ⟨wr.heap.size, 0, none⟩ 1 1 [.slice (some ⟨g9, 0, none⟩) (per zs k) cap9] rfl rfl ?d1 ?d2 ?d3 ?d4 ?d5 ?_))
                case d1 => exact cell_one_new _ _ _
                case d2 => simp [Value.oneCell']
                case d3 => unfold maxLen; omega
                case d4 => omega
                case d5 => simp; omega
                intro v' w2 hown' hgrow _
                obtain ⟨vs', k1, k2, k3⟩ := HKEY.out _ HH.out v' w2 hown' hgrow
                obtain ⟨g', cap', rfl⟩ := ownsRow_succ hown'
                clear hown' hgrow hOv hCi hOi' hBw
                go_wp2
                go_roundw
                case rel => exact ⟨k + 1, vs', by omega, by go_num, k1, k2, k3⟩
                case measure => simp [intOf]; omega
              · have HM := hide (ocs_miss zs false k (by simp [h1]))
                have h1i : ¬ (1 : Int) < (per zs k : Int) := by omega
                clear hls
                go_wp2
                go_roundw
                case rel => exact ⟨k + 1, vs, by omega, by go_num, by rw [HM.out]; exact hOv, by rw [HM.out]; exact hCi, hBw⟩
                case measure => simp [intOf]; omega
        · have hxn : itN (nx zs) m k ≠ k := fun e => he (hback.1 e)
          have hml : m < per zs k := by omega
          obtain ⟨hnx1, hnx2⟩ := hnx
          have hcx := ((hr.below hB hp).below hBi (by omega)).cell (itN (nx zs) m k) hnx1
          rw [hnx2] at hcx
          have hss := itl_succ zs k m
          have hlt1 := lstTo_succ zs k (m - 1)
          rw [show m - 1 + 1 = m by omega] at hlt1
          have HSS := hide hss
          have HLT := hide hlt1
          have hbk := (row_block hOi).2
          have hbs := hBi.size
          clear hback hss hlt1 hnx2 he
          generalize itN (nx zs) m k = x at *
          obtain ⟨y, hyy⟩ : ∃ y, itN (nx zs) (m + 1) k = y := ⟨_, rfl⟩
          rw [hyy] at hcx
          have HYY := hide hyy
          clear hyy
          have hxi : ¬ ((x : Int) = (k : Int)) := by omega
          have hxb : ((x : Int) == (k : Int)) = false := by simpa using hxi
          go_wp2_with (first
            | (at_builtin; refine wpList_append_own _ rfl _ _ 22 rfl wo.heap.size 3 i3 (.int .i64 0) 1 8 under22b hi3 hy0 hy1 hy2 rfl (by decide) _ _ _ rfl (World.ownsRow.alloc hOi _) ⟨wr.heap.size, 0, none⟩ 1 1 [.int .i64 x] rfl rfl ?e1 ?e2 ?e3 ?e4 ?e5 ?_))
          case e1 => exact cell_one_new _ _ _
          case e2 => simp [Value.oneCell']
          case e3 => unfold maxLen; omega
          case e4 => omega
          case e5 => simp; omega
          intro v' w2 hown' hgrow _
          obtain ⟨g', cap', rfl⟩ := ownsRow_succ hown'
          have hB2 : Below wo.heap.size wo w2 := (hBi.alloc hbs _).grown hgrow (by simp; omega) (fun j e => (hbk j e).1)
          have hcx2 : w2.cell? ⟨pb, po + x, none⟩ = some (.int .i64 (y : Int)) := by
            rw [← hcx]
            have h1 := hB2.block pb (by omega)
            have h2 := hBi.block pb (by omega)
            simp [World.cell?, h1, h2]
          have hO2 : w2.ownsRow wo.heap.size 3 1 (.slice (some ⟨g', 0, none⟩) (m + 1) cap') (m + 1) (pts (itl zs k (m + 1))) := by
            rw [HSS.out]; simpa [pts] using hown'
          clear hown' hgrow hcx hOi hbk
          cases hlb : lstTo zs k (m - 1) with
          | false =>
            have hlb2 : lstTo zs k m = false := by rw [HLT.out, hlb]; rfl
            have HLB := hide hlb2
            clear hlb2
            go_wp2
            go_roundw
            case rel => exact ⟨m + 1, by omega, by omega, hO2, by rw [Nat.add_sub_cancel, HLB.out], by rw [HYY.out], hB2⟩
            case measure => simp [lenOf]; omega
          | true =>
            have hlb2 : lstTo zs k m = decide (k < x) := by rw [HLT.out, hlb]; rfl
            have HLB := hide hlb2
            clear hlb2
            by_cases hkx : k < x
            · have hkxi : (k : Int) < (x : Int) := by omega
              go_wp2
              go_roundw
              case rel => exact ⟨m + 1, by omega, by omega, hO2, by rw [Nat.add_sub_cancel, HLB.out, decide_eq_true hkx], by rw [HYY.out], hB2⟩
              case measure => simp [lenOf]; omega
            · have hkxi : ¬ (k : Int) < (x : Int) := by omega
              go_wp2
              go_roundw
              case rel => exact ⟨m + 1, by omega, by omega, hO2, by rw [Nat.add_sub_cancel, HLB.out, decide_eq_false hkx], by rw [HYY.out], hB2⟩
              case measure => simp [lenOf]; omega
    · have hkk : k = zs.length := by omega
      subst hkk
      go_wp2
      go_ret
      exact ⟨_, _, rfl, hO, hC, hB⟩
end Go.Proofs.YtjchmhngfnlbhaaDoor
