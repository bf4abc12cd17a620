/- What the iterator of perm.cyclesOf does: at every permutation of at most 1000 points it hands its loop body the cycles of 'cyc', one by one, each in new memory. -/
import Derived.Test.YtjchmhngfnlbhaaDoorCheck
import Derived.Test.YtjchmhngfnlbhaaDoorIter
import Derived.Shelf.Abstract
import Derived.TacticsInMore
import Derived.LoopNIn
import Derived.LoopIn
import Derived.Maps.AppendAt
namespace Go.Proofs.YtjchmhngfnlbhaaDoor
open Go Go.RowKit Go.Shelf

attribute [local go_sem] Oper.semAt_some

theorem info3 : (Tryd.prog.info? 3).map (fun i => (i.zero, i.size, i.bytes)) = some (some (.int .i64 0), 1, 8) := by kernel_rfl
theorem under22 : Tryd.prog.underlying 22 = some (.slice 3) := by kernel_rfl

/-- Points as cells. -/
def pts (c : List Nat) : List Value := c.map fun (x : Nat) => Value.int .i64 (x : Int)

set_option maxRecDepth 100000 in
set_option maxHeartbeats 1000000 in
theorem cyc_iter (l bx cap pb po : Nat) (a : Option Addr) (zs : List Int) (J : List (List Nat) → World → Prop) (Jx : World → Prop) (W : World)
    (hbx : Boxed W bx 22 (.slice a zs.length cap)) (hr : Reads W a pb po zs) (hpb : pb < W.heap.size) (hperm : IsPerm zs) (hl : zs.length ≤ 1000)
    (hY : ∀ pre c post W0 W1 g cap', pre ++ c :: post = cyc zs → J pre W0 → W0.grownBy W1 (some W.heap.size) → W1.ownsRow W0.heap.size 3 1 (.slice (some ⟨g, 0, none⟩) c.length cap') c.length (pts c) → Kinds [4] W1 W.heap.size (W.heap.size + 1) →
      YieldAt Fence.wide 0 Tryd.prog l #[.slice (some ⟨g, 0, none⟩) c.length cap'] W1 (YPost (J (pre ++ [c])) Jx (fun b => b = bx ∨ b = pb ∨ b = W.heap.size) W1))
    (h0 : J [] W) :
    Calls Tryd.prog 70 #[.func (.yield l) #[] #[], .pointer (some ⟨bx, 0, none⟩)] W fun e W' => (∃ v, e = .returned v) ∧ ((∃ W0, J (cyc zs) W0 ∧ W0.grownBy W' (some W.heap.size)) ∨ Jx W') := by
  obtain ⟨i4, hi4, hz0, hz1, hz2⟩ := info_parts info4
  obtain ⟨i3, hi3, hy0, hy1, hy2⟩ := info_parts info3
  have hcb := hbx.cell
  have hbl := hbx.lt
  refine (callsIn_wide (n := 1)).1 ?_
  refine callsIn_of_wp Tryd.func70 rfl trivial ?_ rfl
  simp only [Tryd.ntmps70, List.size_toArray, List.length_cons, List.length_nil, Nat.reduceAdd, Nat.reduceSub, Array.replicate_succ, Array.replicate_zero, List.push_toArray, List.append_toArray, List.nil_append, List.cons_append]
  gi_wp2_with (first
      | (gi_at_make; refine wpListIn_make_full _ rfl _ _ 90 rfl W.heap.size 4 i4 (.bool false) 1 under66 hi4 hz0 hz1 _ _ _ _ zs.length rfl rfl rfl rfl (by rw [hz2]; omega) (by unfold maxLen; omega) (by simp) ?_))
  intro w1 hown hg
  have hS : Blk w1 W.heap.size 4 ((List.replicate zs.length false).map Value.bool) := by
    have := Blk.of_owns hown
    rw [made_rep] at this
    rw [List.map_replicate]; exact this
  have hg1 : W.grownBy w1 (some W.heap.size) := gb_trans (gb_refl W _) hg (by simp)
  have hb1 : Boxed w1 bx 22 (.slice a zs.length cap) := hbx.kept hg (by simp)
  have hr1 : Reads w1 a pb po zs := hr.of_eq (hg.block pb hpb (by simp))
  have hcb1 := hb1.cell
  clear hown hg hcb
  gi_wp2
  gi_loopw [12] (fun i wr => ∃ (k : Nat) (pre : List (List Nat)) (seen : List Bool) (W0 : World), k ≤ zs.length ∧ i = .int .i64 k ∧ seen.length = zs.length ∧ Blk wr W.heap.size 4 (seen.map Value.bool) ∧ J pre W0 ∧ W0.grownBy wr (some W.heap.size) ∧
      Boxed wr bx 22 (.slice a zs.length cap) ∧ Reads wr a pb po zs ∧ pre ++ cycFrom zs (zs.length - k) k seen = cyc zs)
    (fun i _ => zs.length - (intOf i).toNat)
  case atStart => exact ⟨0, [], List.replicate zs.length false, W, Nat.zero_le _, rfl, by simp, hS, h0, hg1, hb1, hr1, rfl⟩
  case round =>
    obtain ⟨k, pre, seen, W0, hk, rfl, hsl, hS2, hJ, hg2, hb2, hr2, hpre⟩ := hrel
    have HP := hide hpre
    have HL := hide hsl
    clear hpre hsl hS hg1 hb1 hr1 hcb1
    have hcb2 := hb2.cell
    by_cases hlt : k < zs.length
    · have hs := hS2.bool (y := k) (by rw [HL.out]; omega)
      have hsf := hS2.frozen k
      cases hsk : seen[k]?.getD false with
      | true =>
        rw [hsk] at hs
        gi_wp2
        go_roundw
        case rel => exact ⟨k + 1, pre, seen, W0, by omega, by go_num, HL.out, hS2, hJ, hg2, hb2, hr2, by
          rw [← HP.out, show zs.length - k = (zs.length - (k + 1)) + 1 by omega, cycFrom_skip (getD_any (by rw [HL.out]; omega) _ hsk)]⟩
        case measure => simp [intOf]; omega
      | false =>
        rw [hsk] at hs
        have hsk' := getD_any (by rw [HL.out]; omega) _ hsk
        have HS := hide hsk'
        clear hsk hsk'
        obtain ⟨wo, rfl⟩ : ∃ wo, wo = wr := ⟨_, rfl⟩
        gi_wp2
        generalize hC : (orb zs zs.length seen k).1 = C
        generalize hT : (orb zs zs.length seen k).2 = T
        gi_loopw [5, 6] (fun v x wr2 => ∃ (y f : Nat) (sn : List Bool) (cs : List Nat), y < zs.length ∧ x = .int .i64 y ∧ sn.length = zs.length ∧ Blk wr2 W.heap.size 4 (sn.map Value.bool) ∧ W0.grownBy wr2 (some W.heap.size) ∧
            Boxed wr2 bx 22 (.slice a zs.length cap) ∧ Reads wr2 a pb po zs ∧ wr2.ownsRow wo.heap.size 3 1 v cs.length (pts cs) ∧ wo.heap.size ≤ wr2.heap.size ∧ sn.count false ≤ f ∧ cs ++ (orb zs f sn y).1 = C ∧ (orb zs f sn y).2 = T)
          (fun v _ _ => zs.length - lenOf v)
        case atStart => exact ⟨k, zs.length, seen, [], hlt, rfl, HL.out, hS2, hg2, hb2, hr2, World.ownsRow_nil _ _ _ _, Nat.le_refl _, by rw [← HL.out]; exact List.count_le_length, by rw [List.nil_append]; exact hC, hT⟩
        case round =>
          obtain ⟨y, f, sn, cs, hy, rfl, hnl, hS3, hg3, hb3, hr3, hown, hsz, hcnt, hcs, hsn⟩ := hrel
          obtain ⟨v, rfl⟩ : ∃ v, v = u5 := ⟨_, rfl⟩
          have H1 := hide hnl
          have H2 := hide hcs
          have H3 := hide hsn
          have H4 := hide hC
          have H5 := hide hT
          have hs3 := hS3.bool (y := y) (by rw [H1.out]; omega)
          have hsf3 := hS3.frozen y
          have hcb3 := hb3.cell
          clear hnl hcs hsn hs hsf hcb2 hC hT
          cases hyk : sn[y]?.getD false with
          | true =>
            rw [hyk] at hs3
            have hst : orb zs f sn y = ([], sn) := orb_seen (getD_any (by rw [H1.out]; omega) _ hyk)
            have hcC : cs = C := by rw [← H2.out, hst]; simp
            have hnT : sn = T := by rw [← H3.out, hst]
            have hne : cs ≠ [] := by
              rw [hcC, ← H4.out]; exact orb_head (by rw [HL.out]; omega) HS.out (by rw [HL.out]; omega)
            obtain ⟨g, cap', hv⟩ : ∃ g cap', v = .slice (some ⟨g, 0, none⟩) cs.length cap' := by
              rcases hown.2 with ⟨_, h0⟩ | ⟨g, cap', _, hv, _⟩
              · exact absurd (List.length_eq_zero_iff.1 h0) hne
              · exact ⟨g, cap', hv⟩
            subst hv
            have hpc : pre ++ cs :: cycFrom zs (zs.length - (k + 1)) (k + 1) sn = cyc zs := by
              rw [← HP.out, show zs.length - k = (zs.length - (k + 1)) + 1 by omega, cycFrom_take HS.out, H4.out, H5.out, hcC, hnT]
            obtain ⟨fn, tmps, assign, body, hyy, hRR⟩ := hY pre cs _ W0 wr g cap' hpc hJ hg3 (owns_mono hown hg2.size) (fun b h1 h2 => by
              obtain rfl : b = W.heap.size := by omega
              exact ⟨_, hS3, fun c e fz h => by cases h; simp⟩)
            have HPC := hide hpc
            clear hst hcC hnT hpc hyk
            gi_wp2
            refine hRR.mono ?_
            rintro e W3 ⟨⟨hz3, hk3⟩, ⟨rfl, hJ3⟩ | ⟨rfl, hJx3⟩⟩
            · gi_wp2
              go_roundw
              case rel => exact ⟨k + 1, pre ++ [cs], sn, W3, by omega, by go_num, H1.out, hS3.of_eq (hk3 _ (.inr (.inr rfl))), hJ3, gb_refl _ _, (hk3 bx (.inl rfl)).trans hb3, hr3.of_eq (hk3 pb (.inr (.inl rfl))), by
                rw [← HPC.out]; simp⟩
              case measure => simp [intOf]; omega
            · gi_wp2
              refine bodyPost_ret (results_none rfl _ _ _) rfl ?_
              exact ⟨⟨_, rfl⟩, .inr hJx3⟩
          | false =>
            rw [hyk] at hs3
            have hyk' := getD_any (by rw [H1.out]; omega) _ hyk
            obtain ⟨f', hff, hcnt', ho⟩ := orb_on (zs := zs) (f := f) (by rw [H1.out]; omega) hyk' hcnt
            have hnx := nx_lt hperm hy
            have hcl : cs.length + 1 ≤ zs.length := by
              have h1 : C.length ≤ zs.length := by rw [← H4.out]; exact orb_size _ _ _ _
              rw [← H2.out, ho] at h1
              simp at h1; omega
            have hS4 := hS3.setBool y true
            have hne1 : some W.heap.size ≠ v.ownBlock := fun e => by
              have := owns_ge hown _ e.symm
              have := hS2.lt
              omega
            have hown2 := hown.kept (gb_set wr W.heap.size y (.bool true)) (.inr hne1.symm)
            have hg4 := gb_trans hg3 (gb_set wr W.heap.size y (.bool true)) (fun j e => by cases e; exact .inl rfl)
            have H6 := hide ho
            have H7 := hide hff
            have H8 := hide hnx.2
            obtain ⟨hnx1, _⟩ := hnx
            have hls := lenOf_own hown
            have H9 := hide hls
            clear ho hff hyk hyk' hls
            gi_wp2_with (first
              | (gi_at_builtin; refine wpListIn_append_own _ rfl _ _ 22 rfl wo.heap.size 3 i3 (.int .i64 0) 1 8 under22 hi3 hy0 hy1 hy2 rfl (by decide) _ _ _ rfl (hown2.alloc _) ⟨wr.heap.size, 0, none⟩ 1 1 [.int .i64 y] rfl rfl ?c1 ?c2 ?c3 ?c4 ?c5 ?_))
            case c1 =>
              have h := cell_one_new (wr.setCell ⟨W.heap.size, y, none⟩ (.bool true)) (.int .i64 (y : Int)) 3
              rw [size_set] at h
              exact h
            case c2 => simp [Value.oneCell']
            case c3 => unfold maxLen; omega
            case c4 => omega
            case c5 => simp; omega
            intro v' w2 hown' hgrow _
            obtain ⟨g', cap', rfl⟩ := ownsRow_succ hown'
            have hso := hS2.lt
            have hge := owns_ge hown
            have hS5 := (hS4.alloc (.cells #[.int .i64 (y : Int)] 3)).grown hgrow hne1
            have hkeep : ∀ b, b < wo.heap.size → b ≠ W.heap.size → w2.heap[b]? = wr.heap[b]? := fun b hb hbs => by
              rw [hgrow.block b (by simp; omega) (fun e => by have := hge _ e.symm; omega)]
              rw [Below.heap_alloc _ _ _ (by rw [size_set]; omega)]
              exact Below.heap_setCell _ _ _ _ hbs
            have hb5 : Boxed w2 bx 22 (.slice a zs.length cap) := (hkeep bx (by omega) (by omega)).trans hb3
            have hr5 : Reads w2 a pb po zs := hr3.of_eq (hkeep pb (by omega) (by omega))
            have hg5 : W0.grownBy w2 (some W.heap.size) := gb_trans (gb_trans hg4 (World.grownBy_alloc _ _ none) (by simp)) hgrow (fun j e => .inr (by have := hge j e; have := hg2.size; omega))
            have hpx := hr5.cell y hy
            rw [H8.out] at hpx
            have hcb5 := hb5.cell
            have hw2 : wo.heap.size ≤ w2.heap.size := by have := hgrow.size; simp at this; omega
            obtain rfl := hr.at_ (by omega)
            have hfin : pts cs ++ [Value.int .i64 (y : Int)] = pts (cs ++ [y]) := by simp [pts]
            rw [hfin] at hown'
            have H10 := hide hfin
            clear hfin hkeep hgrow hS4 hown2 hg4 hown hs3 hsf3 hcb3
            gi_wp2
            go_roundw
            case rel => exact ⟨nx zs y, f', sn.set y true, cs ++ [y], hnx1, rfl, by rw [List.length_set]; exact H1.out, hS5, hg5, hb5, hr5, by rw [List.length_append]; exact hown', hw2, hcnt', by
              rw [← H2.out, H6.out]; simp, by rw [← H3.out, H6.out]⟩
            case measure => rw [H9.out]; simp [lenOf]; omega
    · gi_wp2
      go_end0
      refine ⟨⟨_, rfl⟩, .inl ⟨W0, ?_, hg2⟩⟩
      have h := HP.out
      rw [show zs.length - k = 0 by omega, cycFrom, List.append_nil] at h
      rw [← h]; exact hJ
end Go.Proofs.YtjchmhngfnlbhaaDoor
