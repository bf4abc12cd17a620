/- What nat.trimmed, TimesPlus and Of answer: numbers in parts, multiplied by at most 1000 and added to. -/
import Derived.Test.YtojnjfkonaeegaaDoorQNum
import Derived.Test.YtojnjfkonaeegaaDoorQBits
import Derived.Maps.AppendAt
namespace Go.Proofs.YtojnjfkonaeegaaDoorQ
open Go Go.RowKit

theorem info89 : (Tryd.prog.info? 89).map (fun i => (i.zero, i.size, i.bytes)) = some (some (.int .u64 0), 1, 8) := by kernel_rfl
theorem under79 : Tryd.prog.underlying 58 = some (.slice 89) := by kernel_rfl

/-- Parts as cells. -/
def us (l : List Nat) : List Value := l.map fun (p : Nat) => Value.int .u64 (p : Int)
/-- A slice value whose elements are the parts l: they lie in block g from its head on. -/
structure UReads (w : World) (a : Option Addr) (g : Nat) (l : List Nat) : Prop where
  at_ : 0 < l.length → a = some ⟨g, 0, none⟩
  cell : ∀ j, j < l.length → w.cell? ⟨g, j, none⟩ = some (.int .u64 ((l[j]?.getD 0 : Nat) : Int))
theorem UReads.of_own {w : World} {base : Nat} {v : Value} {l : List Nat} (h : w.ownsRow base 89 1 v l.length (us l)) : ∃ a g cap, v = .slice a l.length cap ∧ UReads w a g l ∧ l.length ≤ cap ∧ cap ≤ maxLen ∧ (0 < l.length → g < w.heap.size) := by
  rcases h.2 with ⟨rfl, h0⟩ | ⟨g, cap, cur, rfl, _, hh, h1, h2, _⟩
  · exact ⟨none, 0, 0, by rw [h0], ⟨by omega, by omega⟩, by omega, by unfold maxLen; omega, by omega⟩
  · refine ⟨some ⟨g, 0, none⟩, g, cap, rfl, ⟨fun _ => rfl, fun j hj => ?_⟩, h1, h2, fun _ => (Array.getElem?_eq_some_iff.1 hh).1⟩
    have h3 := h.cells (g := g) rfl j (.int .u64 ((l[j]?.getD 0 : Nat) : Int)) (by simp [us, hj])
    rw [show (⟨g, 0, none⟩ : Addr).add j = ⟨g, j, none⟩ by unfold Addr.add; split <;> simp_all] at h3
    exact h3
theorem UReads.of_eq {w w' : World} {a : Option Addr} {g : Nat} {l : List Nat} (h : UReads w a g l) (hb : w'.heap[g]? = w.heap[g]?) : UReads w' a g l :=
  ⟨h.at_, fun j hj => (World.cell?_of_block (a := ⟨g, j, none⟩) hb).trans (h.cell j hj)⟩
theorem owns_take {w : World} {base g cap n k : Nat} {e : TypeId} {xs : List Value} (h : w.ownsRow base e 1 (.slice (some ⟨g, 0, none⟩) n cap) n xs) (hk : k ≤ n) : w.ownsRow base e 1 (.slice (some ⟨g, 0, none⟩) k cap) k (xs.take k) := by
  have hl := h.1
  rcases h.2 with ⟨hv, _⟩ | ⟨g', cap', cur, hv, hg, hh, h1, h2, h3, h4⟩
  · cases hv
  · cases hv
    refine ⟨by simp; omega, .inr ⟨g, cap, cur, rfl, hg, hh, by omega, h2, h3, ?_⟩⟩
    rw [← h4, List.take_take]
    congr 1; omega

set_option maxRecDepth 100000 in
set_option maxHeartbeats 1000000 in
theorem trimmed_any (g cap n : Nat) (l : List Nat) (w : World) (hn : n = l.length) (hr : UReads w (some ⟨g, 0, none⟩) g l) (hcap : l.length ≤ cap) (hcm : cap ≤ maxLen) :
    Calls Tryd.prog 87 #[.slice (some ⟨g, 0, none⟩) n cap] w fun e w' => e = .returned (.slice (some ⟨g, 0, none⟩) (trm l).length cap) ∧ w' = w := by
  subst hn
  unfold maxLen at hcm
  go_enter Tryd.func87, Tryd.ntmps87
  go_wp2
  go_loop [0] (fun v => ∃ n : Nat, n ≤ l.length ∧ v = .slice (some ⟨g, 0, none⟩) n cap ∧ trm (l.take n) = trm l) (fun v => lenOf v)
  case atStart => exact ⟨l.length, Nat.le_refl _, rfl, by rw [List.take_length]⟩
  case round =>
    obtain ⟨n, hn, rfl, ht⟩ := hrel
    have HT := hide ht
    clear ht
    cases n with
    | zero =>
      have e : (trm l).length = 0 := by rw [← HT.out]; rfl
      have HE := hide e
      clear e
      go_wp2
      go_ret
      exact ⟨by rw [HE.out]; rfl, rfl⟩
    | succ n =>
      have hc := hr.cell n (by omega)
      by_cases hz : l[n]?.getD 0 = 0
      · rw [hz] at hc
        have hs := trm_step (by omega) hz
        have HS := hide hs
        clear hs hz
        go_wp2
        go_round
        case rel => exact ⟨n, by omega, rfl, by rw [← HS.out]; exact HT.out⟩
        case measure => simp [lenOf]
      · have hs : (trm l).length = n + 1 := by
          rw [← HT.out, trm_stop (by omega) hz, List.length_take]; omega
        have HS := hide hs
        generalize l[n]?.getD 0 = x at hc hz
        have hb : ((x : Int) == 0) = false := by simp; omega
        clear hs hz
        go_wp2
        go_ret
        exact ⟨by rw [HS.out]; rfl, rfl⟩

set_option maxRecDepth 100000 in
set_option maxHeartbeats 4000000 in
theorem timesPlus_any (base : Nat) (v : Value) (ps : List Nat) (m add : Nat) (w : World) (hown : w.ownsRow base 89 1 v ps.length (us ps)) (hps : ∀ p, p ∈ ps → p < 1000000000) (hm : m ≤ 1000) (ha : add < 4294967296) (hl : ps.length ≤ 1000000) :
    Calls Tryd.prog 85 #[.agg #[v], .int .u64 m, .int .u64 add] w fun e w' => ∃ v' qs, e = .returned (.agg #[v']) ∧ w'.ownsRow w.heap.size 89 1 v' qs.length (us qs) ∧ (∀ q, q ∈ qs → q < 1000000000) ∧ qs.getLast? ≠ some 0 ∧
      val qs = val ps * m + add ∧ qs.length ≤ ps.length + 2 ∧ Below w.heap.size w w' := by
  obtain ⟨i0, hi, hz0, hz1, hz2⟩ := info_parts info89
  obtain ⟨a, g, cap, rfl, hr, hcap, hcm, hg⟩ := UReads.of_own hown
  go_enter Tryd.func85, Tryd.ntmps85
  go_wp2_with (first
    | (at_make; refine wpList_make_own _ rfl _ _ 58 rfl (w.heap.size + 2) 89 i0 (.int .u64 0) 1 under79 hi hz0 hz1 _ _ _ (ps.length + 3) rfl rfl ?m1 ?m2 ?m3 ?m4 ?_))
  case m1 => go_num
  case m2 => rw [hz2]; omega
  case m3 => unfold maxLen; omega
  case m4 => simp
  intro w1 hown1 hg1
  have hb0 : Blk w1 w.heap.size 60 [.slice a ps.length cap] := by
    refine (hg1.block w.heap.size (by simp; omega) (by simp)).trans ?_
    rw [Below.heap_alloc _ _ _ (by simp)]; exact World.alloc_heap_new w _
  have hb1 : Blk w1 (w.heap.size + 1) 60 [.slice none 0 0] := by
    refine (hg1.block (w.heap.size + 1) (by simp) (by simp)).trans ?_
    have := World.alloc_heap_new (w.alloc (.cells #[.slice a ps.length cap] 60)) (.cells #[.slice none 0 0] 60)
    rw [World.size_alloc] at this; exact this
  have hB1 : Below w.heap.size w w1 := (((Below.refl _ w).alloc (Nat.le_refl _) _).alloc (by simp) _).grown hg1 (by simp; omega) (by simp)
  have hz1' : w.heap.size + 2 ≤ w1.heap.size := by have := hg1.size; simp at this; omega
  have hc0 : w1.cell? ⟨w.heap.size, 0, none⟩ = some (.slice a ps.length cap) := hb0.cell 0
  clear hg1
  go_wp2
  clear hc0
  have hown1' : w1.ownsRow (w.heap.size + 2) 89 1 (.slice (some ⟨w.heap.size + 1 + 1, 0, none⟩) 0 (ps.length + 3)) (tp m (ps.take 0) add).1.length (us (tp m (ps.take 0) add).1) := hown1
  go_loopw [7, 8, 25] (fun v c i wr => ∃ k : Nat, k ≤ ps.length ∧ i = .int .i64 k ∧ c = .int .u64 ((tp m (ps.take k) add).2 : Nat) ∧ wr.ownsRow (w.heap.size + 2) 89 1 v (tp m (ps.take k) add).1.length (us (tp m (ps.take k) add).1) ∧
      Blk wr w.heap.size 60 [.slice a ps.length cap] ∧ Blk wr (w.heap.size + 1) 60 [.slice none 0 0] ∧ Below w.heap.size w wr ∧ w.heap.size + 2 ≤ wr.heap.size ∧ v ≠ .slice none 0 0)
    (fun _ _ i _ => ps.length - (intOf i).toNat)
  case atStart => exact ⟨0, Nat.zero_le _, rfl, rfl, hown1', hb0, hb1, hB1, hz1', by simp⟩
  case round =>
    obtain ⟨k, hk, rfl, rfl, howk, hbk0, hbk1, hBk, hzk, hvk⟩ := hrel
    obtain ⟨v, rfl⟩ : ∃ v, v = u7 := ⟨_, rfl⟩
    clear hown1 hown1' hb0 hb1 hB1 hz1'
    have hcl := tp_carry hm (ps.take k) add (fun p hp => hps p (List.mem_of_mem_take hp)) ha
    have htl := tp_len m (ps.take k) add
    rw [List.length_take, Nat.min_eq_left hk] at htl
    by_cases hlt : k < ps.length
    · have hcx := (hr.of_eq (hBk.block g (hg (by omega)))).cell k hlt
      have hp1 : ps[k]?.getD 0 < 1000000000 := by rw [List.getElem?_eq_getElem hlt]; exact hps _ (List.getElem_mem hlt)
      have hsn : tp m (ps.take (k + 1)) add = ((tp m (ps.take k) add).1 ++ [(ps[k]?.getD 0 * m + (tp m (ps.take k) add).2) % 1000000000], (ps[k]?.getD 0 * m + (tp m (ps.take k) add).2) / 1000000000) := by
        rw [List.take_succ_eq_append_getElem hlt, tp_snoc, List.getElem?_eq_getElem hlt]; rfl
      obtain rfl := hr.at_ (by omega)
      have hpm : ps[k]?.getD 0 * m ≤ 1000000000 * 1000 := Nat.mul_le_mul (by omega) hm
      have hcb := hbk0.cell 0
      have HS := hide hsn
      have HTL := hide htl
      clear hsn htl
      generalize ps[k]?.getD 0 = p at hcx hp1 HS hpm
      generalize (tp m (ps.take k) add).2 = c at hcl HS ⊢
      generalize (tp m (ps.take k) add).1 = Q at howk HS HTL
      have hpi : (p : Int) * (m : Int) = ((p * m : Nat) : Int) := by rw [Int.natCast_mul]
      have HPI := hide hpi
      clear hpi
      go_wp2_with fail
      refine (mul64_any (p : Int) (m : Int) (by omega) (by omega) (by omega) (by omega) (by rw [HPI.out]; omega) _).mono ?_
      rintro e w2 ⟨rfl, rfl⟩
      rw [HPI.out]
      generalize p * m = t at hpm HS HPI ⊢
      have h86 := fun W => add64_eq (t : Int) (c : Int) (by omega) (by omega) (by omega) W
      go_wp2_with fail
      refine (div64_small ((t : Int) + (c : Int)) (by omega) (by omega) _).mono ?_
      rintro e w3 ⟨rfl, kk, rfl⟩
      have e1 : ((t : Int) + (c : Int)) / 1000000000 = (((t + c) / 1000000000 : Nat) : Int) := by omega
      have e2 : ((t : Int) + (c : Int)) % 1000000000 = (((t + c) % 1000000000 : Nat) : Int) := by omega
      rw [e1, e2]
      have how3 : (w2.drewN kk).ownsRow (w.heap.size + 2) 89 1 v Q.length (us Q) := howk
      have hb30 : Blk (w2.drewN kk) w.heap.size 60 [.slice (some ⟨g, 0, none⟩) ps.length cap] := hbk0
      have hb31 : Blk (w2.drewN kk) (w.heap.size + 1) 60 [.slice none 0 0] := hbk1
      have hB3 : Below w.heap.size w (w2.drewN kk) := ⟨hBk.os, hBk.tape, hBk.output, hBk.size, hBk.block⟩
      have hz3 : w.heap.size + 2 ≤ (w2.drewN kk).heap.size := hzk
      generalize w2.drewN kk = w3 at how3 hb30 hb31 hB3 hz3 ⊢
      have hd2 : (t + c) / 1000000000 < 4294967296 := by omega
      generalize (t + c) / 1000000000 = c' at HS hd2 e1 ⊢
      generalize (t + c) % 1000000000 = q at HS e2 ⊢
      clear e1 e2 h86 howk hbk0 hbk1 hBk hzk hcx hcb HPI
      go_wp2_with (first
        | (at_builtin; refine wpList_append_own _ rfl _ _ 58 rfl (w.heap.size + 2) 89 i0 (.int .u64 0) 1 8 under79 hi hz0 hz1 hz2 rfl (by decide) _ _ _ rfl (how3.alloc _) ⟨w3.heap.size, 0, none⟩ 1 1 [.int .u64 q] rfl rfl ?c1 ?c2 ?c3 ?c4 ?c5 ?_))
      case c1 => exact cell_one_new _ _ _
      case c2 => simp [Value.oneCell']
      case c3 => unfold maxLen; have := HTL.out; omega
      case c4 => have := HTL.out; omega
      case c5 => simp; omega
      intro v' w4 hown4 hgrow _
      obtain ⟨g', cap', rfl⟩ := ownsRow_succ hown4
      have hge := owns_ge how3
      have hb40 := (hb30.alloc (.cells #[.int .u64 (q : Int)] 89)).grown hgrow (fun e => by have := hge _ e.symm; omega)
      have hb41 := (hb31.alloc (.cells #[.int .u64 (q : Int)] 89)).grown hgrow (fun e => by have := hge _ e.symm; omega)
      have hB4 : Below w.heap.size w w4 := (hB3.alloc (by omega) _).grown hgrow (by simp; omega) (fun j e => by have := hge j e; omega)
      have hz4 : w.heap.size + 2 ≤ w4.heap.size := by have := hgrow.size; simp at this; omega
      have hown5 : w4.ownsRow (w.heap.size + 2) 89 1 (.slice (some ⟨g', 0, none⟩) (Q.length + 1) cap') (Q ++ [q]).length (us (Q ++ [q])) := by
        rw [List.length_append]
        have e : us (Q ++ [q]) = us Q ++ [.int .u64 (q : Int)] := by simp [us]
        rw [e]; exact hown4
      clear hown4 hgrow how3 hb30 hb31 hB3 hz3
      go_wp2
      go_roundw
      case rel => exact ⟨k + 1, by omega, by go_num, by rw [HS.out], by rw [HS.out]; exact hown5, hb40, hb41, hB4, hz4, by simp⟩
      case measure => simp [intOf]; omega
    · have hkk : k = ps.length := by omega
      subst hkk
      rw [List.take_length] at howk hcl htl ⊢
      have hval := tp_val m ps add
      have hsm := tp_small m ps add
      generalize (tp m ps add).1 = Q at howk htl hval hsm
      generalize (tp m ps add).2 = c0 at hcl hval ⊢
      have HV := hide hval
      have HTL := hide htl
      have HSM := hide hsm
      clear hval htl hsm hlt
      go_wp2
      go_loopw [7, 8] (fun v c wr => ∃ (c1 f : Nat) (D : List Nat), c = .int .u64 (c1 : Nat) ∧ c1 < 4294967296 ∧ c1 < 1000000000 ^ f ∧ D ++ dg f c1 = dg 2 c0 ∧ wr.ownsRow (w.heap.size + 2) 89 1 v (Q ++ D).length (us (Q ++ D)) ∧
          Blk wr (w.heap.size + 1) 60 [.slice none 0 0] ∧ Below w.heap.size w wr ∧ w.heap.size + 2 ≤ wr.heap.size ∧ v ≠ .slice none 0 0)
        (fun _ c _ => (intOf c).toNat)
      case atStart => exact ⟨c0, 2, [], rfl, hcl, by simp; omega, rfl, by simpa using howk, hbk1, hBk, hzk, hvk⟩
      case round =>
        obtain ⟨c1, f, D, rfl, hc1, hcf, hD, howd, hbd1, hBd, hzd, hvd⟩ := hrel
        obtain ⟨v2, rfl⟩ : ∃ v2, v2 = u7 := ⟨_, rfl⟩
        have HDD := hide hD
        have hdl : D.length ≤ 2 := by
          have h1 := dg_len 2 c0
          rw [← hD] at h1; simp at h1; omega
        clear hD howk hbk0 hbk1 hBk hzk
        by_cases hpos : 0 < c1
        · obtain ⟨f', hff, hcf', hdg⟩ := dg_on hpos hcf
          have hd3 : D.length + 1 ≤ 2 := by
            have h1 := dg_len 2 c0
            rw [← HDD.out, hdg] at h1; simp at h1; omega
          have HDG := hide hdg
          clear hff hdg hcf
          have HCF := hide hcf'
          clear hcf'
          have e1 : (c1 : Int) / 1000000000 = ((c1 / 1000000000 : Nat) : Int) := by omega
          have e2 : (c1 : Int) % 1000000000 = ((c1 % 1000000000 : Nat) : Int) := by omega
          have hpi : (0 : Int) < (c1 : Int) := by omega
          have hlen : (Q ++ D).length ≤ 1000002 := by rw [List.length_append, HTL.out]; omega
          have HLEN := hide hlen
          have H1 := hide e1
          have H2 := hide e2
          clear e1 e2
          go_wp2_with (first
            | (at_builtin; refine wpList_append_own _ rfl _ _ 58 rfl (w.heap.size + 2) 89 i0 (.int .u64 0) 1 8 under79 hi hz0 hz1 hz2 rfl (by decide) _ _ _ rfl (howd.alloc _) ⟨wr.heap.size, 0, none⟩ 1 1 [.int .u64 ((c1 : Int) % 1000000000)] rfl rfl ?d1 ?d2 ?d3 ?d4 ?d5 ?_))
          case d1 => exact cell_one_new _ _ _
          case d2 => simp [Value.oneCell']
          case d3 => unfold maxLen; have := HLEN.out; omega
          case d4 => have := HLEN.out; omega
          case d5 => simp; omega
          intro v' w4 hown4 hgrow _
          obtain ⟨g', cap', rfl⟩ := ownsRow_succ hown4
          have hge := owns_ge howd
          have hb41 := (hbd1.alloc (.cells #[.int .u64 ((c1 : Int) % 1000000000)] 89)).grown hgrow (fun e => by have := hge _ e.symm; omega)
          have hB4 : Below w.heap.size w w4 := (hBd.alloc (by omega) _).grown hgrow (by simp; omega) (fun j e => by have := hge j e; omega)
          have hz4 : w.heap.size + 2 ≤ w4.heap.size := by have := hgrow.size; simp at this; omega
          have hown5 : w4.ownsRow (w.heap.size + 2) 89 1 (.slice (some ⟨g', 0, none⟩) (Q.length + D.length + 1) cap') (Q ++ (D ++ [c1 % 1000000000])).length (us (Q ++ (D ++ [c1 % 1000000000]))) := by
            have e : us (Q ++ (D ++ [c1 % 1000000000])) = us (Q ++ D) ++ [.int .u64 ((c1 : Int) % 1000000000)] := by rw [H2.out]; simp [us]
            rw [e, show (Q ++ (D ++ [c1 % 1000000000])).length = Q.length + D.length + 1 by simp; omega]
            exact hown4
          clear hown4 hgrow howd hbd1 hBd hzd
          go_wp2
          go_roundw
          case rel => exact ⟨c1 / 1000000000, f', D ++ [c1 % 1000000000], by rw [H1.out], by omega, HCF.out, by rw [← HDD.out, HDG.out]; simp, hown5, hb41, hB4, hz4, by simp⟩
          case measure => simp [intOf]; omega
        · have hc10 : c1 = 0 := by omega
          subst hc10
          have hDD : D = dg 2 c0 := by rw [← HDD.out, dg_zero, List.append_nil]
          have hdv := dg_val 2 c0 (by simp; omega)
          have hdl2 := dg_len 2 c0
          have hds := dg_small 2 c0
          rw [← hDD] at hdv hdl2 hds
          clear hDD HDD
          obtain ⟨a2, g2, cap2, rfl, hr2, hcap2, hcm2, hg2⟩ := UReads.of_own howd
          obtain ⟨g3, rfl⟩ : ∃ g3, a2 = some ⟨g3, 0, none⟩ := by
            rcases howd.2 with ⟨hv, _⟩ | ⟨g3, cap3, _, hv, _⟩
            · exact absurd hv hvd
            · cases hv; exact ⟨g3, rfl⟩
          have hr3 : UReads wr (some ⟨g3, 0, none⟩) g3 (Q ++ D) := ⟨fun _ => rfl, fun j hj => by
            have := hr2.at_ (by omega)
            cases this
            exact hr2.cell j hj⟩
          have hfacts := trm_facts (Q ++ D)
          have htl2 := trm_len (Q ++ D)
          have htk := trm_take (Q ++ D)
          have hown6 : wr.ownsRow w.heap.size 89 1 (.slice (some ⟨g3, 0, none⟩) (trm (Q ++ D)).length cap2) (trm (Q ++ D)).length (us (trm (Q ++ D))) := by
            have h1 := owns_mono (owns_take howd htl2) (show w.heap.size ≤ w.heap.size + 2 by omega)
            have e : (us (Q ++ D)).take (trm (Q ++ D)).length = us (trm (Q ++ D)) := by
              conv => rhs; rw [htk]
              simp [us, List.map_take]
            rw [e] at h1
            exact h1
          have hval2 : val (trm (Q ++ D)) = val ps * m + add := by
            rw [hfacts.1, val_app, hdv, HTL.out]
            exact HV.out
          have hsm2 : ∀ q, q ∈ trm (Q ++ D) → q < 1000000000 := trm_small (fun p hp => by
            rcases List.mem_append.1 hp with h | h
            · exact HSM.out p h
            · exact hds p h)
          have hl2 : (trm (Q ++ D)).length ≤ ps.length + 2 := by
            have := HTL.out
            simp at htl2; omega
          have hlast := hfacts.2.2
          have hge3 : w.heap.size + 2 ≤ g3 := owns_ge howd g3 rfl
          have HX := hide (And.intro hown6 (And.intro hsm2 (And.intro hlast (And.intro hval2 hl2))))
          have HCAP := hide hcap2
          clear hown6 hsm2 hlast hval2 hl2 hfacts htk htl2 hdv hdl2 hds hr2 hg2 howd hcap2 hdl
          go_wp2_with fail
          refine (trimmed_any g3 cap2 _ (Q ++ D) _ (by simp) hr3 HCAP.out hcm2).mono ?_
          rintro e w5 ⟨rfl, rfl⟩
          have hc9 : w5.cell? ⟨w.heap.size + 1, 0, none⟩ = some (.slice none 0 0) := hbd1.cell 0
          have hf9 := hbd1.frozen 0
          generalize trm (Q ++ D) = R at HX ⊢
          go_wp2
          obtain ⟨x1, x2, x3, x4, x5⟩ := HX.out
          refine bodyPost_ret (v := .agg #[.slice (some ⟨g3, 0, none⟩) R.length cap2]) (by simp [results, Tryd.results85, go_sem, hc9]) rfl ⟨_, R, rfl, ?_, x2, x3, x4, x5, ?_⟩
          · exact x1.kept (gb_set w5 (w.heap.size + 1) 0 _) (.inr (by simp [Value.ownBlock]; omega))
          · exact hBd.setCell (p := ⟨w.heap.size + 1, 0, none⟩) (by simp) _

set_option maxRecDepth 100000 in
set_option maxHeartbeats 1000000 in
theorem of_any (n : Nat) (w : World) (hn : n < 4294967296) :
    Calls Tryd.prog 84 #[.int .u64 n] w fun e w' => ∃ v' qs, e = .returned (.agg #[v']) ∧ w'.ownsRow w.heap.size 89 1 v' qs.length (us qs) ∧ (∀ q, q ∈ qs → q < 1000000000) ∧ qs.getLast? ≠ some 0 ∧ val qs = n ∧ qs.length ≤ 2 ∧ Below w.heap.size w w' := by
  go_enter Tryd.func84, Tryd.ntmps84
  go_wp2_with fail
  refine (timesPlus_any 0 _ [] 0 n _ (World.ownsRow_nil _ _ _ _) (by simp) (by omega) hn (by simp)).mono ?_
  rintro e w1 ⟨v', qs, rfl, h1, h2, h3, h4, h5, h6⟩
  have hR : Blk w1 w.heap.size 60 [.slice none 0 0] := (h6.block w.heap.size (by simp)).trans (World.alloc_heap_new w _)
  have hc0 : w1.cell? ⟨w.heap.size, 0, none⟩ = some (.slice none 0 0) := hR.cell 0
  have hf0 := hR.frozen 0
  obtain ⟨a, g, cap, rfl, hr, _, _, _⟩ := UReads.of_own h1
  have hge := owns_ge h1
  have HX := hide (And.intro h1 (And.intro h2 (And.intro h3 (And.intro h4 h5))))
  have hB1 : Below w.heap.size w w1 := ((Below.refl _ w).alloc (Nat.le_refl _) _).trans (h6.mono (by simp))
  have HG := hide hge
  clear h1 h2 h3 h4 h5 hr hge
  go_wp2
  obtain ⟨x1, x2, x3, x4, x5⟩ := HX.out
  refine bodyPost_ret (v := .agg #[.slice a qs.length cap]) (by simp [results, Tryd.results84, go_sem, hc0]) rfl ⟨_, qs, rfl, ?_, x2, x3, by simpa [val] using x4, by simpa using x5, ?_⟩
  · refine owns_mono (x1.kept (gb_set w1 w.heap.size 0 _) (.inr (fun e => ?_))) (by simp)
    have := HG.out _ e
    simp at this
    omega
  · exact hB1.setCell (p := ⟨w.heap.size, 0, none⟩) (by simp) _
end Go.Proofs.YtojnjfkonaeegaaDoorQ
