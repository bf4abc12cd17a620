/- The law SubAll: all subgroups and Frattini's, the document's way and the packages', at every table. -/
import Derived.Test.YtmgengplfebmjaaDoorSg1
import Derived.Laws.OwnMore
import Derived.Lib.SliceRun
import Derived.Test.YtmgengplfebmjaaDoorOps
import Derived.Test.YtmgengplfebmjaaDoorCen
import Derived.Test.YtmgengplfebmjaaDoorSg3
import Derived.Test.YtmgengplfebmjaaDoorDw
import Derived.Test.YtmgengplfebmjaaDoorCsa
import Derived.Test.YtmgengplfebmjaaDoorSgw
import Derived.Maps.AppendAt
import Derived.Test.YtmgengplfebmjaaDoorSqr
namespace Go.Proofs.YtmgengplfebmjaaDoor
open Go Go.RowKit

/-- A slice of sets reads as these bits. -/
def SlU (w : World) (v : Value) (xs : List Nat) : Prop := ∃ a cap pb po, v = .slice a xs.length cap ∧ (0 < xs.length → a = some ⟨pb, po, none⟩) ∧ (∀ j, j < xs.length → w.cell? ⟨pb, po + j, none⟩ = some (.int .u64 (xs[j]?.getD 0 : Nat))) ∧ pb < w.heap.size ∧ xs.length ≤ cap ∧ cap ≤ maxLen
theorem SlU.below {w w' : World} {v : Value} {xs : List Nat} (h : SlU w v xs) (hb : Below w.heap.size w w') : SlU w' v xs := by
  obtain ⟨a, cap, pb, po, rfl, h1, h2, h3, h4, h5⟩ := h
  exact ⟨a, cap, pb, po, rfl, h1, fun j hj => below_cell hb (h2 j hj), Nat.lt_of_lt_of_le h3 hb.size, h4, h5⟩
theorem SlU.of_own {w : World} {base k : Nat} {v : Value} {xs : List Nat} (hk : k = xs.length) (h : w.ownsRow base 73 1 v k (xs.map fun (s : Nat) => Value.int .u64 (s : Int))) (h0 : 0 < w.heap.size) : SlU w v xs := by
  subst hk
  rcases h.2 with ⟨rfl, hz⟩ | ⟨g, cap, cur, rfl, _, hh, h1, h2, _⟩
  · exact ⟨none, 0, 0, 0, by rw [hz], fun h => by omega, fun j hj => by omega, h0, by omega, by unfold maxLen; omega⟩
  · refine ⟨some ⟨g, 0, none⟩, cap, g, 0, rfl, fun _ => rfl, fun j hj => ?_, (Array.getElem?_eq_some_iff.1 hh).1, h1, h2⟩
    have h3 := h.cells (g := g) rfl j (.int .u64 (xs[j]?.getD 0 : Nat)) (by simp [hj])
    rw [show (⟨g, 0, none⟩ : Addr).add j = ⟨g, j, none⟩ by unfold Addr.add; split <;> simp_all] at h3
    rw [Nat.zero_add]; exact h3
/-- The place of the first set of which it is so. -/
def idxI (xs : List Nat) (t : Nat → Bool) : Int := if xs.findIdx t < xs.length then (xs.findIdx t : Int) else -1
theorem idxI_at {xs : List Nat} {t : Nat → Bool} {k : Nat} (hk : k < xs.length) (h : t (xs[k]?.getD 0) = true) (hno : ∀ j, j < k → t (xs[j]?.getD 0) = false) : idxI xs t = k := by
  have h1 : xs.findIdx t = k := by
    rw [List.findIdx_eq hk]
    rw [List.getElem?_eq_getElem hk] at h
    refine ⟨h, fun j hj => ?_⟩
    have := hno j hj
    rw [List.getElem?_eq_getElem (by omega)] at this
    exact this
  unfold idxI
  rw [h1, if_pos hk]
theorem idxI_no {xs : List Nat} {t : Nat → Bool} (hno : ∀ j, j < xs.length → t (xs[j]?.getD 0) = false) : idxI xs t = -1 := by
  unfold idxI
  rw [if_neg]
  intro h
  have h2 := List.findIdx_getElem (w := h)
  have := hno _ h
  rw [List.getElem?_eq_getElem h] at this
  simp at this h2
  rw [this] at h2
  exact absurd h2 (by decide)
theorem idxI_any {xs : List Nat} {t : Nat → Bool} : decide (0 ≤ idxI xs t) = xs.any t := by
  unfold idxI
  rw [Bool.eq_iff_iff, decide_eq_true_eq, List.any_eq_true]
  by_cases h : xs.findIdx t < xs.length
  · rw [if_pos h]
    exact ⟨fun _ => ⟨xs[xs.findIdx t], List.getElem_mem h, List.findIdx_getElem (w := h)⟩, fun _ => by omega⟩
  · rw [if_neg h]
    constructor
    · intro h9; omega
    · rintro ⟨x, hx, ht⟩
      exact absurd (List.findIdx_lt_length_of_exists ⟨x, hx, ht⟩) h
set_option maxRecDepth 100000 in
set_option maxHeartbeats 2000000 in
theorem index_ok (k : Nat) (caps : Array Value) (v : Value) (xs : List Nat) (t : Nat → Bool) (w : World) (hv : SlU w v xs)
    (hcall : ∀ (s : Int) W, Sem.run Tryd.prog (callFunc k (#[.int .u64 s] ++ caps)) W = .ok (.enter k (#[.int .u64 s] ++ caps)) W)
    (hp : ∀ (W : World) (s : Nat), Below w.heap.size w W → s ∈ xs → Calls Tryd.prog k (#[.int .u64 s] ++ caps) W fun e w' => e = .returned (.bool (t s)) ∧ Below W.heap.size W w') :
    Calls Tryd.prog 118 #[v, .func (.func k) #[] caps] w fun x w' => x = .returned (.int .i64 (idxI xs t)) ∧ Below w.heap.size w w' := by
  obtain ⟨va, vc, vb, vo, rfl, v1, v2, v3, v4, v5⟩ := hv
  have hm1 : xs.length ≤ 9223372036854775807 := by unfold maxLen at v5; omega
  have HV := hide v2
  have HV1 := hide v1
  have HP := hide hp
  clear v1 v2 v5 hp
  go_enter Tryd.func118, Tryd.ntmps118
  go_wp2
  go_loopw [8] (fun i wr => ∃ j : Nat, j ≤ xs.length ∧ i = .int .i64 j ∧ (∀ b, b < j → t (xs[b]?.getD 0) = false) ∧ Below w.heap.size w wr) (fun i _ => xs.length - (intOf i).toNat)
  case atStart => exact ⟨0, Nat.zero_le _, rfl, fun b hb => by omega, Below.refl _ _⟩
  case round =>
    obtain ⟨j, hj, rfl, hno, hB⟩ := hrel
    have HNO := hide hno
    clear hno
    by_cases hlt : j < xs.length
    · have hji : (j : Int) < (xs.length : Int) := by omega
      obtain rfl := HV1.out (by omega)
      have cy := below_cell hB (HV.out j hlt)
      obtain ⟨s, hs⟩ : ∃ s, xs[j]?.getD 0 = s := ⟨_, rfl⟩
      have hmem : s ∈ xs := by rw [← hs, List.getElem?_eq_getElem hlt]; exact List.getElem_mem hlt
      have HS := hide hs
      rw [hs] at cy
      clear hs
      have HK := hide (HP.out wr s hB hmem)
      cases hts : t s with
      | true =>
        rw [hts] at HK
        have HW := hide (idxI_at hlt (by rw [HS.out]; exact hts) HNO.out)
        go_wp2_with fail
        refine HK.out.mono ?_
        rintro x w1 ⟨rfl, hb1⟩
        go_wp2
        go_ret
        exact ⟨by rw [HW.out]; rfl, bcat2 hB hb1⟩
      | false =>
        rw [hts] at HK
        go_wp2_with fail
        refine HK.out.mono ?_
        rintro x w1 ⟨rfl, hb1⟩
        go_wp2
        go_roundw
        case rel => exact ⟨j + 1, by omega, by go_num, fun b hb => by
          by_cases e9 : b = j
          · subst e9; rw [HS.out]; exact hts
          · exact HNO.out b (by omega), bcat2 hB hb1⟩
        case measure => simp [intOf]; omega
    · have hji : ¬ (j : Int) < (xs.length : Int) := by omega
      have HW := hide (idxI_no (xs := xs) (t := t) (fun b hb => HNO.out b (by omega)))
      go_wp2
      go_ret
      exact ⟨by rw [HW.out]; rfl, hB⟩
set_option maxRecDepth 100000 in
theorem contains_ok (k : Nat) (caps : Array Value) (v : Value) (xs : List Nat) (t : Nat → Bool) (w : World) (hv : SlU w v xs)
    (hcall : ∀ (s : Int) W, Sem.run Tryd.prog (callFunc k (#[.int .u64 s] ++ caps)) W = .ok (.enter k (#[.int .u64 s] ++ caps)) W)
    (hp : ∀ (W : World) (s : Nat), Below w.heap.size w W → s ∈ xs → Calls Tryd.prog k (#[.int .u64 s] ++ caps) W fun e w' => e = .returned (.bool (t s)) ∧ Below W.heap.size W w') :
    Calls Tryd.prog 93 #[v, .func (.func k) #[] caps] w fun x w' => x = .returned (.bool (xs.any t)) ∧ Below w.heap.size w w' := by
  have HI := hide (index_ok k caps v xs t w hv hcall hp)
  have HE := hide (idxI_any (xs := xs) (t := t))
  clear hcall hp hv
  rw [← HE.out]
  clear HE
  go_enter Tryd.func93, Tryd.ntmps93
  go_wp2_with fail
  refine HI.out.mono ?_
  rintro x w1 ⟨rfl, hb1⟩
  by_cases h0 : 0 ≤ idxI xs t
  · skip
    go_wp2
    go_ret
    exact ⟨by rw [decide_eq_true (by omega)]; rfl, hb1⟩
  · skip
    go_wp2
    go_ret
    exact ⟨by rw [decide_eq_false (by omega)]; rfl, hb1⟩
end Go.Proofs.YtmgengplfebmjaaDoor

namespace Go.Proofs.YtmgengplfebmjaaDoor
open Go Go.RowKit

theorem zero82 (w : World) : (zeroValue 73).run Tryd.prog w = .ok (.int .u64 0) w := by kernel_rfl
/-- A slice of numbers, as values. -/
def uv (xs : List Nat) : List Value := xs.map fun (s : Nat) => Value.int .u64 (s : Int)
theorem uv_len (xs : List Nat) : (uv xs).length = xs.length := by simp [uv]
theorem uv_set (xs : List Nat) (i s : Nat) : (uv xs).set i (.int .u64 (s : Int)) = uv (xs.set i s) := by simp [uv, List.map_set]
theorem uv_cell {w : World} {base g n cap : Nat} {xs : List Nat} (h : w.ownsRow base 73 1 (.slice (some ⟨g, 0, none⟩) n cap) n (uv xs)) {j : Nat} (hj : j < xs.length) : w.cell? ⟨g, j, none⟩ = some (.int .u64 (xs[j]?.getD 0 : Nat)) := by
  have h3 := h.cells (g := g) rfl j (.int .u64 (xs[j]?.getD 0 : Nat)) (by simp [uv, hj])
  rw [show (⟨g, 0, none⟩ : Addr).add j = ⟨g, j, none⟩ by unfold Addr.add; split <;> simp_all] at h3
  exact h3
/-- Where i of the first j are kept, and lie ahead. -/
structure Del (xs L : List Nat) (t : Nat → Bool) (i j : Nat) : Prop where
  len : L.length = xs.length
  ij : i < j
  jl : j ≤ xs.length
  kept : L.take i = (xs.take j).filter fun s => !t s
  rest : ∀ b, j ≤ b → L[b]?.getD 0 = xs[b]?.getD 0
theorem Del.start {xs : List Nat} {t : Nat → Bool} (h : xs.findIdx t < xs.length) : Del xs xs t (xs.findIdx t) (xs.findIdx t + 1) := by
  refine ⟨rfl, by omega, by omega, ?_, fun _ _ => rfl⟩
  have h1 : ∀ b, b < xs.findIdx t → t (xs[b]?.getD 0) = false := fun b hb => by
    have := List.not_of_lt_findIdx hb
    rw [List.getElem?_eq_getElem (by omega)]
    simpa using this
  rw [List.take_succ_eq_append_getElem h, List.filter_append, List.filter_cons, if_neg (by simp [List.findIdx_getElem (w := h)]), List.filter_nil, List.append_nil, List.filter_eq_self.2]
  intro s hs
  obtain ⟨b, hb, rfl⟩ := List.mem_iff_getElem.1 hs
  rw [List.length_take] at hb
  have := h1 b (by omega)
  rw [List.getElem?_eq_getElem (by omega)] at this
  rw [List.getElem_take]
  simpa using this
theorem Del.drop {xs L : List Nat} {t : Nat → Bool} {i j : Nat} (h : Del xs L t i j) (hj : j < xs.length) (ht : t (xs[j]?.getD 0) = true) : Del xs L t i (j + 1) := by
  obtain ⟨h1, h2, h3, h4, h5⟩ := h
  refine ⟨h1, by omega, by omega, ?_, fun b hb => h5 b (by omega)⟩
  rw [List.getElem?_eq_getElem hj] at ht
  rw [h4, List.take_succ_eq_append_getElem hj, List.filter_append, List.filter_cons, if_neg (by simpa using ht), List.filter_nil, List.append_nil]
theorem Del.keep {xs L : List Nat} {t : Nat → Bool} {i j : Nat} (h : Del xs L t i j) (hj : j < xs.length) (ht : t (xs[j]?.getD 0) = false) : Del xs (L.set i (xs[j]?.getD 0)) t (i + 1) (j + 1) := by
  obtain ⟨h1, h2, h3, h4, h5⟩ := h
  refine ⟨by rw [List.length_set]; exact h1, by omega, by omega, ?_, fun b hb => ?_⟩
  · rw [List.getElem?_eq_getElem hj] at ht ⊢
    rw [List.take_succ_eq_append_getElem hj, List.filter_append, List.filter_cons, if_pos (by simpa using ht), List.filter_nil, ← h4]
    rw [List.take_succ_eq_append_getElem (by rw [List.length_set]; omega), List.take_set, List.set_eq_of_length_le (by rw [List.length_take]; omega)]
    simp
  · rw [List.getElem?_set_ne (by omega)]
    exact h5 b (by omega)
theorem Del.fin {xs L : List Nat} {t : Nat → Bool} {i j : Nat} (h : Del xs L t i j) (hj : xs.length ≤ j) : L.take i = xs.filter fun s => !t s := by
  rw [h.kept, List.take_of_length_le hj]
end Go.Proofs.YtmgengplfebmjaaDoor

namespace Go.Proofs.YtmgengplfebmjaaDoor
open Go Go.RowKit

theorem setCells_cell (g : Nat) : ∀ (vs : List Value) (o : Nat) (w : World) (j : Nat), j < o → (w.setCells g o vs).cell? ⟨g, j, none⟩ = w.cell? ⟨g, j, none⟩
  | [], _, _, _, _ => rfl
  | v :: vs, o, w, j, h => by
    show ((w.setCell ⟨g, o, none⟩ v).setCells g (o + 1) vs).cell? ⟨g, j, none⟩ = w.cell? ⟨g, j, none⟩
    rw [setCells_cell g vs (o + 1) _ j (by omega)]
    exact World.cell?_setCell_other w ⟨g, o, none⟩ ⟨g, j, none⟩ v (fun e => by injection e with _ e; omega)
theorem setCells_below {B g : Nat} {a : World} (hg : B ≤ g) : ∀ (vs : List Value) (o : Nat) (w : World), Below B a w → Below B a (w.setCells g o vs)
  | [], _, _, h => h
  | v :: vs, o, _, h => setCells_below hg vs (o + 1) _ (h.setCell (p := ⟨g, o, none⟩) hg v)
set_option maxRecDepth 100000 in
set_option maxHeartbeats 4000000 in
theorem delete_ok (k base : Nat) (caps : Array Value) (v : Value) (xs : List Nat) (t : Nat → Bool) (w : World) (h0 : 0 < base) (hbs : base ≤ w.heap.size) (hrow : w.ownsRow base 73 1 v xs.length (uv xs))
    (hcall : ∀ (s : Int) W, Sem.run Tryd.prog (callFunc k (#[.int .u64 s] ++ caps)) W = .ok (.enter k (#[.int .u64 s] ++ caps)) W)
    (hp : ∀ (W : World) (s : Nat), Below base w W → Calls Tryd.prog k (#[.int .u64 s] ++ caps) W fun e w' => e = .returned (.bool (t s)) ∧ Below W.heap.size W w') :
    Calls Tryd.prog 91 #[v, .func (.func k) #[] caps] w fun x w' => ∃ r, x = .returned r ∧ SlU w' r (xs.filter fun s => !t s) ∧ Below base w w' := by
  have hsl := SlU.of_own rfl hrow (by omega)
  have HI := hide (index_ok k caps v xs t w hsl hcall (fun W s h _ => hp W s (h.mono hbs)))
  have HP := hide hp
  have HRW := hide hrow
  clear hp
  obtain ⟨va, vc, rfl⟩ := own_val hrow
  by_cases hany : xs.findIdx t < xs.length
  · have hix : idxI xs t = (xs.findIdx t : Int) := by unfold idxI; rw [if_pos hany]
    rw [hix] at HI
    clear hix
    obtain ⟨g, rfl⟩ : ∃ g, va = some ⟨g, 0, none⟩ := by
      rcases hrow.2 with ⟨h1, h2⟩ | ⟨g, cap, cur, h1, _⟩
      · omega
      · injection h1 with h1; exact ⟨g, h1⟩
    have hgb := owns_ge hrow g rfl
    have hD0 := Del.start hany
    have hm1 : xs.length ≤ 9223372036854775807 := by
      obtain ⟨_, _, _, _, _, _, _, _, h4, h5⟩ := hsl
      unfold maxLen at h5; omega
    have hne : ¬ ((xs.findIdx t : Nat) : Int) = -1 := by omega
    have hneb : (((xs.findIdx t : Nat) : Int) == -1) = false := by rw [beq_eq_false_iff_ne]; exact hne
    generalize xs.findIdx t = i0 at *
    clear hrow hsl
    go_enter Tryd.func91, Tryd.ntmps91
    go_wp2_with fail
    refine HI.out.mono ?_
    rintro x w1 ⟨rfl, hb1⟩
    have hr1 : w1.ownsRow base 73 1 (.slice (some ⟨g, 0, none⟩) xs.length vc) xs.length (uv xs) := own_keep2 HRW.out (fun b _ h2 => hb1.block b h2)
    have hB1 : Below base w w1 := hb1.mono hbs
    go_wp2
    go_loopw [5, 6] (fun i j wr => ∃ (a b : Nat) (L : List Nat), i = .int .i64 a ∧ j = .int .i64 b ∧ Del xs L t a b ∧ wr.ownsRow base 73 1 (.slice (some ⟨g, 0, none⟩) xs.length vc) xs.length (uv L) ∧ Below base w wr) (fun _ j _ => xs.length - (intOf j).toNat)
    case atStart => exact ⟨i0, i0 + 1, xs, rfl, by go_num, hD0, hr1, hB1⟩
    case round =>
      clear hr1 hB1 hD0
      obtain ⟨a, b, L, rfl, rfl, hD, hr, hB⟩ := hrel
      have hDl := hD.len
      have hij := hD.ij
      have hjl := hD.jl
      by_cases hlt : b < xs.length
      · have hbi : (b : Int) < (xs.length : Int) := by omega
        have hai : (a : Int) < (xs.length : Int) := by omega
        have cb := uv_cell hr (j := b) (by omega)
        rw [hD.rest b (Nat.le_refl _)] at cb
        obtain ⟨s, hs⟩ : ∃ s, xs[b]?.getD 0 = s := ⟨_, rfl⟩
        have HS := hide hs
        rw [hs] at cb
        clear hs
        have HK := hide (HP.out wr s hB)
        cases hts : t s with
        | true =>
          rw [hts] at HK
          have HD := hide (hD.drop hlt (by rw [HS.out]; exact hts))
          clear hDl
          go_wp2_with fail
          refine HK.out.mono ?_
          rintro x w2 ⟨rfl, hb2⟩
          have hr2 := own_keep2 hr (fun g _ h2 => hb2.block g h2)
          have hB2 := hB.trans (hb2.mono (Nat.le_trans hbs hB.size))
          go_wp2
          go_roundw
          case rel => exact ⟨a, b + 1, L, rfl, by go_num, HD.out, hr2, hB2⟩
          case measure => simp [intOf]; omega
        | false =>
          rw [hts] at HK
          have HD := hide (hD.keep hlt (by rw [HS.out]; exact hts))
          rw [HS.out] at HD
          have ca0 := uv_cell hr (j := a) (by omega)
          have hDL := hide hDl
          clear hDl
          go_wp2_with fail
          refine HK.out.mono ?_
          rintro x w2 ⟨rfl, hb2⟩
          have hr2 := own_keep2 hr (fun g _ h2 => hb2.block g h2)
          have hB2 := hB.trans (hb2.mono (Nat.le_trans hbs hB.size))
          have ca := below_cell hb2 ca0
          have fa := hr2.frozenAt a
          obtain ⟨hr3, hg3⟩ := hr2.stored a (.int .u64 (s : Int))
          rw [uv_set] at hr3
          have hB3 := hB2.setCell (p := ⟨g, a, none⟩) (by simpa using hgb) (.int .u64 (s : Int))
          clear ca0
          go_wp2
          go_roundw
          case rel => exact ⟨a + 1, b + 1, _, by go_num, by go_num, HD.out, hr3, hB3⟩
          case measure => simp [intOf]; omega
      · have hbi : ¬ (b : Int) < (xs.length : Int) := by omega
        have hal : a < xs.length := by omega
        obtain ⟨m9, hm9⟩ : ∃ m9, xs.length = a + (m9 + 1) := ⟨xs.length - a - 1, by omega⟩
        have HFN := hide (hD.fin (by omega))
        have hLa : (L.take a).length = a := by rw [List.length_take]; omega
        have hvc : xs.length ≤ vc ∧ vc ≤ maxLen := by
          rcases hr.2 with ⟨h1, _⟩ | ⟨g', cap', cur, h1, _, _, h2, h3, _⟩
          · cases h1
          · injection h1 with _ _ h1
            subst h1
            exact ⟨h2, h3⟩
        have hvc1 := hvc.1
        have hcl : ∀ ty, (Builtin.clear_ #[70] ty #[.slice (some ⟨g, a, none⟩) (m9 + 1) (vc - a)]).run Tryd.prog wr = .ok (.tuple #[]) (wr.setCells g a (List.replicate (m9 + 1) (.int .u64 0))) := fun ty =>
          Lib.run_clear_slice wr 70 73 ty (.int .u64 0) und79 zero82 rfl rfl g a (m9 + 1) (vc - a) (by omega)
            (fun j hj => by rw [uv_cell hr (j := a + j) (by omega)]; rfl) (fun j _ => hr.frozenAt (a + j))
        have hB9 := setCells_below hgb (List.replicate (m9 + 1) (.int .u64 0)) a wr hB
        have hS9 : SlU (wr.setCells g a (List.replicate (m9 + 1) (.int .u64 0))) (.slice (some ⟨g, 0, none⟩) a vc) (L.take a) := by
          have hgl : g < wr.heap.size := World.block_lt_of_cell? wr ⟨g, 0, none⟩ (uv_cell hr (j := 0) (by omega))
          refine ⟨some ⟨g, 0, none⟩, vc, g, 0, by rw [hLa], fun _ => rfl, fun j hj => ?_, Nat.lt_of_lt_of_le hgl (setCells_below (B := 0) (a := wr) (Nat.zero_le _) _ a wr ⟨rfl, rfl, rfl, Nat.le_refl _, fun _ h => by omega⟩).size, by rw [hLa]; omega, hvc.2⟩
          rw [hLa] at hj
          rw [Nat.zero_add, setCells_cell g _ a wr j hj, uv_cell hr (j := j) (by omega), List.getElem?_take_of_lt hj]
        rw [HFN.out] at hS9
        have hai : (a : Int) ≤ (xs.length : Int) := by omega
        go_wp2
        go_ret
        exact ⟨_, rfl, hS9, hB9⟩
  · have hix : idxI xs t = -1 := by unfold idxI; rw [if_neg hany]
    rw [hix] at HI
    have hfl : (xs.filter fun s => !t s) = xs := by
      rw [List.filter_eq_self]
      intro s hs
      cases hts : t s with
      | false => rfl
      | true => exact absurd (List.findIdx_lt_length_of_exists ⟨s, hs, hts⟩) hany
    rw [hfl]
    clear hix hfl hany
    go_enter Tryd.func91, Tryd.ntmps91
    go_wp2_with fail
    refine HI.out.mono ?_
    rintro x w1 ⟨rfl, hb1⟩
    have hs1 := hsl.below hb1
    clear hsl hrow
    go_wp2
    go_ret
    exact ⟨_, rfl, hs1, hb1.mono hbs⟩
end Go.Proofs.YtmgengplfebmjaaDoor

namespace Go.Proofs.YtmgengplfebmjaaDoor
open Go Go.RowKit

set_option maxRecDepth 100000 in
set_option maxHeartbeats 4000000 in
theorem osml_bad (N : Int) (v : Value) (zs : List Int) (w : World) (hv : Sl w v zs) (hc : (gfault N zs).1 ≠ 0) :
    Calls Tryd.prog 48 #[.agg #[.int .i64 N, v]] w fun x w' => x = .returned (.tuple #[.agg #[.int .i64 0, .slice none 0 0, .int .i64 0, .slice none 0 0], .agg #[.int .i64 (gfault N zs).1, .int .i64 (gfault N zs).2]]) ∧ Below w.heap.size w w' := by
  obtain ⟨w0, BG⟩ := Beg4.new w N v
  have hv0 := hv.below BG.bel
  obtain ⟨c0, c1, _, _⟩ := BG.box.two
  have hck := opened_bad N v zs w0 hv0 hc
  obtain ⟨c, i, hci⟩ : ∃ c i, gfault N zs = (c, i) := ⟨_, _, rfl⟩
  rw [hci] at hck hc ⊢
  simp only at hc hck
  have HCK := hide hck
  clear hck hci
  have hcb : (c != 0) = true := by simpa using hc
  rw [BG.eq] at c0 c1
  go_enter Tryd.func48, Tryd.ntmps48
  go_wp2_with fail
  rw [← BG.eq]
  refine HCK.out.mono ?_
  rintro x w1 ⟨rfl, hb1⟩
  clear c0 c1
  obtain ⟨w2, hw2⟩ : ∃ w2, w2 = (w1.alloc (.cells #[.int .i64 0, .slice none 0 0, .int .i64 0, .slice none 0 0] 67)).alloc (.cells #[.int .i64 c, .int .i64 i] 27) := ⟨_, rfl⟩
  have hB1 : Below w0.heap.size w0 w2 := by rw [hw2]; exact bcat2 hb1 ((balloc w1 _).alloc (by simp) _)
  have hF1 : Blk w2 (w1.heap.size + 1) 27 [.int .i64 c, .int .i64 i] := by
    rw [hw2]
    have := blk0 (w := w1.alloc (.cells #[.int .i64 0, .slice none 0 0, .int .i64 0, .slice none 0 0] 67)) (T := 27) (.int .i64 c) (.int .i64 i)
    rwa [World.size_alloc] at this
  obtain ⟨hG1, g0, g1, g2, g3, gf0, gf1, gf2, gf3, gs0, gs1, gs2, gs3⟩ := Four.mk' (blk_below BG.grp hB1)
  have hR1 := blk_below BG.res hB1
  have hBw := bcat BG.bel hB1 BG.bel.size
  obtain ⟨y0, y1, fy0, fy1⟩ := hR1.two
  obtain ⟨t0, t1, _, _⟩ := hF1.two
  rw [hw2] at t0 t1
  go_wp2_with fail
  rw [← hw2]
  rw [← hw2] at t0 t1
  clear hw2
  go_region
  all_goals (
    go_wp2
    obtain ⟨hR6, hB6⟩ := put2 hR1 hBw (by omega) c i
    have hB7 := bdrew hB6
    have hR7 : Blk ((w2.setCell ⟨w.heap.size + 1 + 1, 0, none⟩ (.int .i64 c)).setCell ⟨w.heap.size + 1 + 1, 1, none⟩ (.int .i64 i)).drew (w.heap.size + 1 + 1) 27 [.int .i64 c, .int .i64 i] := hR6
    have hG7 : Blk ((w2.setCell ⟨w.heap.size + 1 + 1, 0, none⟩ (.int .i64 c)).setCell ⟨w.heap.size + 1 + 1, 1, none⟩ (.int .i64 i)).drew (w.heap.size + 1) 67 [.int .i64 0, .slice none 0 0, .int .i64 0, .slice none 0 0] :=
      (hG1.other (p := ⟨w.heap.size + 1 + 1, 0, none⟩) (by simp) (.int .i64 c)).other (p := ⟨w.heap.size + 1 + 1, 1, none⟩) (by simp) (.int .i64 i)
    generalize ((w2.setCell ⟨w.heap.size + 1 + 1, 0, none⟩ (.int .i64 c)).setCell ⟨w.heap.size + 1 + 1, 1, none⟩ (.int .i64 i)).drew = W at hR7 hB7 hG7 ⊢
    obtain ⟨z0, z1, _, _⟩ := hR7.two
    obtain ⟨_, q0, q1, q2, q3, _⟩ := Four.mk' hG7
    exact bodyPost_ret (v := .tuple #[.agg #[.int .i64 0, .slice none 0 0, .int .i64 0, .slice none 0 0], .agg #[.int .i64 c, .int .i64 i]]) (by simp [results, Tryd.results48, go_sem, z0, z1, q0, q1, q2, q3]) rfl ⟨rfl, hB7⟩)

set_option maxRecDepth 100000 in
set_option maxHeartbeats 4000000 in
theorem osml_good (n e : Nat) (v : Value) (zs : List Int) (w : World) (hv : Sl w v zs) (hg : IsGrp n zs e) (h24 : n ≤ 24) :
    Calls Tryd.prog 48 #[.agg #[.int .i64 n, v]] w fun x w' => ∃ iv9, x = .returned (.tuple #[.agg #[.int .i64 n, v, .int .i64 e, iv9], .agg #[.int .i64 0, .int .i64 0]]) ∧ SlF w.heap.size w' iv9 (li ((List.range n).map (iv n zs e))) ∧ Below w.heap.size w w' := by
  obtain ⟨va, vl, vc, rfl⟩ := hv.isSlice
  obtain ⟨w0, BG⟩ := Beg4.new w n (.slice va vl vc)
  have hv0 := hv.below BG.bel
  obtain ⟨c0, c1, _, _⟩ := BG.box.two
  have HCK := hide (opened_good n e (.slice va vl vc) zs w0 hv0 hg)
  rw [BG.eq] at c0 c1
  go_enter Tryd.func48, Tryd.ntmps48
  go_wp2_with fail
  rw [← BG.eq]
  refine HCK.out.mono ?_
  rintro x w1 ⟨iv9, rfl, hGA, hb1⟩
  obtain ⟨ia, il, ic, rfl⟩ := hGA.sl.isSlice
  clear c0 c1 HCK
  obtain ⟨w2, hw2⟩ : ∃ w2, w2 = (w1.alloc (.cells #[.int .i64 n, (.slice va vl vc), .int .i64 e, (.slice ia il ic)] 67)).alloc (.cells #[.int .i64 0, .int .i64 0] 27) := ⟨_, rfl⟩
  have hb2 : Below w1.heap.size w1 w2 := by rw [hw2]; exact (balloc w1 _).alloc (by simp) _
  have hB1 : Below w0.heap.size w0 w2 := bcat2 hb1 hb2
  have hF1 : Blk w2 (w1.heap.size + 1) 27 [.int .i64 0, .int .i64 0] := by
    rw [hw2]
    have := blk0 (w := w1.alloc (.cells #[.int .i64 n, (.slice va vl vc), .int .i64 e, (.slice ia il ic)] 67)) (T := 27) (.int .i64 0) (.int .i64 0)
    rwa [World.size_alloc] at this
  have hH1 : Blk w2 w1.heap.size 67 [.int .i64 n, (.slice va vl vc), .int .i64 e, (.slice ia il ic)] := by
    rw [hw2]; exact (blk4 _ _ _ _).alloc _
  obtain ⟨t0, t1, _, _⟩ := hF1.two
  obtain ⟨k0, k1, _, _⟩ := (blk_below BG.box hB1).two
  rw [hw2] at t0 t1 k0 k1
  have hz9 : w.heap.size + 3 ≤ w1.heap.size := by rw [← BG.size]; exact hb1.size
  obtain ⟨_, f0, f1, ff0, ff1, fs0, fs1⟩ := Two.mk' hF1
  have hBw3 := bcat BG.bel hB1 BG.bel.size
  have hG3 := blk_below BG.grp hB1
  obtain ⟨_, h0, h1, h2, h3, _⟩ := Four.mk' hH1
  obtain ⟨_, g0, g1, g2, g3, gf0, gf1, gf2, gf3, _⟩ := Four.mk' hG3
  obtain ⟨hR3, y0, y1, fy0, fy1, s0, s1⟩ := Two.mk' (blk_below BG.res hB1)
  have hGA3 := (hGA.below hb2).mono (show w.heap.size + 3 ≤ w0.heap.size by rw [BG.size]; exact Nat.le_refl _)
  have HW2 := hide hw2
  rw [hw2] at f0 f1 ff0 ff1 fs0 fs1 h0 h1 h2 h3 g0 g1 g2 g3 gf0 gf1 gf2 gf3 y0 y1 fy0 fy1 s0 s1
  clear hw2
  have hni : ¬ (24 : Int) < (n : Int) := by omega
  go_wp2
  rw [← HW2.out]
  obtain ⟨W, hW, hG8, hR8, hB8, hS8, hK8⟩ := put6 hG3 hR3 hBw3 (.int .i64 n) (.slice va vl vc) (.int .i64 e) (.slice ia il ic) (.int .i64 0) (.int .i64 0)
  rw [← hW]
  clear hW
  obtain ⟨z0, z1, _, _⟩ := hR8.two
  obtain ⟨_, q0, q1, q2, q3, _⟩ := Four.mk' hG8
  have hGA9 := (hGA3.keep (fun b h1 _ => hK8 b h1) (by omega)).mono (show w.heap.size ≤ w.heap.size + 3 by omega)
  exact bodyPost_ret (v := .tuple #[.agg #[.int .i64 n, .slice va vl vc, .int .i64 e, .slice ia il ic], .agg #[.int .i64 0, .int .i64 0]]) (by simp [results, Tryd.results48, go_sem, z0, z1, q0, q1, q2, q3]) rfl ⟨_, rfl, hGA9, hB8⟩
set_option maxRecDepth 100000 in
set_option maxHeartbeats 4000000 in
theorem osml_many (n e : Nat) (v : Value) (zs : List Int) (w : World) (hv : Sl w v zs) (hg : IsGrp n zs e) (h24 : 24 < n) :
    Calls Tryd.prog 48 #[.agg #[.int .i64 n, v]] w fun x w' => x = .returned (.tuple #[.agg #[.int .i64 0, .slice none 0 0, .int .i64 0, .slice none 0 0], .agg #[.int .i64 2, .int .i64 0]]) ∧ Below w.heap.size w w' := by
  obtain ⟨va, vl, vc, rfl⟩ := hv.isSlice
  obtain ⟨w0, BG⟩ := Beg4.new w n (.slice va vl vc)
  have hv0 := hv.below BG.bel
  obtain ⟨c0, c1, _, _⟩ := BG.box.two
  have HCK := hide (opened_good n e (.slice va vl vc) zs w0 hv0 hg)
  rw [BG.eq] at c0 c1
  go_enter Tryd.func48, Tryd.ntmps48
  go_wp2_with fail
  rw [← BG.eq]
  refine HCK.out.mono ?_
  rintro x w1 ⟨iv9, rfl, hGA, hb1⟩
  obtain ⟨ia, il, ic, rfl⟩ := hGA.sl.isSlice
  clear c0 c1 HCK
  obtain ⟨w2, hw2⟩ : ∃ w2, w2 = (w1.alloc (.cells #[.int .i64 n, (.slice va vl vc), .int .i64 e, (.slice ia il ic)] 67)).alloc (.cells #[.int .i64 0, .int .i64 0] 27) := ⟨_, rfl⟩
  have hb2 : Below w1.heap.size w1 w2 := by rw [hw2]; exact (balloc w1 _).alloc (by simp) _
  have hB1 : Below w0.heap.size w0 w2 := bcat2 hb1 hb2
  have hF1 : Blk w2 (w1.heap.size + 1) 27 [.int .i64 0, .int .i64 0] := by
    rw [hw2]
    have := blk0 (w := w1.alloc (.cells #[.int .i64 n, (.slice va vl vc), .int .i64 e, (.slice ia il ic)] 67)) (T := 27) (.int .i64 0) (.int .i64 0)
    rwa [World.size_alloc] at this
  have hH1 : Blk w2 w1.heap.size 67 [.int .i64 n, (.slice va vl vc), .int .i64 e, (.slice ia il ic)] := by
    rw [hw2]; exact (blk4 _ _ _ _).alloc _
  obtain ⟨t0, t1, _, _⟩ := hF1.two
  obtain ⟨k0, k1, _, _⟩ := (blk_below BG.box hB1).two
  rw [hw2] at t0 t1 k0 k1
  have hz9 : w.heap.size + 3 ≤ w1.heap.size := by rw [← BG.size]; exact hb1.size
  obtain ⟨_, f0, f1, ff0, ff1, fs0, fs1⟩ := Two.mk' hF1
  have hBw3 := bcat BG.bel hB1 BG.bel.size
  have hG3 := blk_below BG.grp hB1
  obtain ⟨_, h0, h1, h2, h3, _⟩ := Four.mk' hH1
  obtain ⟨_, g0, g1, g2, g3, gf0, gf1, gf2, gf3, _⟩ := Four.mk' hG3
  obtain ⟨hR3, y0, y1, fy0, fy1, s0, s1⟩ := Two.mk' (blk_below BG.res hB1)
  have hGA3 := (hGA.below hb2).mono (show w.heap.size + 3 ≤ w0.heap.size by rw [BG.size]; exact Nat.le_refl _)
  have HW2 := hide hw2
  rw [hw2] at f0 f1 ff0 ff1 fs0 fs1 h0 h1 h2 h3 g0 g1 g2 g3 gf0 gf1 gf2 gf3 y0 y1 fy0 fy1 s0 s1
  clear hw2
  have hni : (24 : Int) < (n : Int) := by omega
  go_wp2
  rw [← HW2.out]
  obtain ⟨W, hW, hG8, hR8, hB8, hS8, hK8⟩ := put6 hG3 hR3 hBw3 (.int .i64 0) (.slice none 0 0) (.int .i64 0) (.slice none 0 0) (.int .i64 2) (.int .i64 0)
  rw [← hW]
  clear hW
  obtain ⟨z0, z1, _, _⟩ := hR8.two
  obtain ⟨_, q0, q1, q2, q3, _⟩ := Four.mk' hG8
  exact bodyPost_ret (v := .tuple #[.agg #[.int .i64 0, .slice none 0 0, .int .i64 0, .slice none 0 0], .agg #[.int .i64 2, .int .i64 0]]) (by simp [results, Tryd.results48, go_sem, z0, z1, q0, q1, q2, q3]) rfl ⟨rfl, hB8⟩
end Go.Proofs.YtmgengplfebmjaaDoor

namespace Go.Proofs.YtmgengplfebmjaaDoor
open Go Go.RowKit

theorem andn_bs (p q : Nat → Bool) {n : Nat} (hn : n ≤ 60) : Go.bits BinOp.andNot IntKind.u64 (bs p n : Int) (bs q n : Int) = (bs (fun a => p a && !q a) n : Int) := by
  have h64 : ∀ r : Nat → Bool, bs r n < 2 ^ 64 := fun r => Nat.lt_of_lt_of_le (bs_64 hn) (by decide)
  have hv : ∀ r : Nat → Bool, (BitVec.ofInt 64 (bs r n : Int)).toNat = bs r n := fun r => by
    rw [BitVec.ofInt_natCast, BitVec.toNat_ofNat]; exact Nat.mod_eq_of_lt (h64 r)
  have hx : (BitVec.ofInt 64 (bs p n : Int) &&& ~~~BitVec.ofInt 64 (bs q n : Int)).toNat = bs (fun a => p a && !q a) n := by
    apply Nat.eq_of_testBit_eq
    intro i
    rw [BitVec.testBit_toNat, BitVec.getLsbD_and, BitVec.getLsbD_not, ← BitVec.testBit_toNat, ← BitVec.testBit_toNat, hv, hv, bs_bit, bs_bit, bs_bit]
    by_cases hi : i < n
    · have : i < 64 := by omega
      simp [hi, this]
    · simp [hi]
  show IntKind.u64.wrap ((BitVec.ofInt 64 (bs p n : Int) &&& ~~~BitVec.ofInt 64 (bs q n : Int)).toNat : Int) = _
  rw [hx, IntKind.wrap_u64]
  have := h64 (fun a => p a && !q a)
  omega
/-- Is one set in another one? -/
def inB (s t : Nat) : Bool := decide (s &&& t = s)
theorem inB_iff {n : Nat} {p q : Nat → Bool} : inB (bs p n) (bs q n) = true ↔ ∀ a, a < n → p a = true → q a = true := by
  unfold inB
  rw [decide_eq_true_eq]
  constructor
  · intro h a ha hp
    have := congrArg (fun x => Nat.testBit x a) h
    simp only [Nat.testBit_and, bs_bit] at this
    simp [ha, hp] at this
    exact this
  · intro h
    apply Nat.eq_of_testBit_eq
    intro a
    rw [Nat.testBit_and, bs_bit, bs_bit]
    by_cases ha : a < n
    · cases hp : p a with
      | false => simp
      | true => simp [ha, h a ha hp]
    · simp [ha]
theorem andn_zero {n : Nat} {p q : Nat → Bool} : decide (bs (fun a => p a && !q a) n = 0) = inB (bs p n) (bs q n) := by
  rw [Bool.eq_iff_iff, decide_eq_true_eq, inB_iff]
  constructor
  · intro h a ha hp
    have := congrArg (fun x => Nat.testBit x a) h
    simp only [bs_bit, Nat.zero_testBit] at this
    simp [ha, hp] at this
    exact this
  · intro h
    apply Nat.eq_of_testBit_eq
    intro a
    rw [bs_bit, Nat.zero_testBit]
    by_cases ha : a < n
    · cases hp : p a with
      | false => simp
      | true => simp [h a ha hp]
    · simp [ha]
set_option maxRecDepth 100000 in
theorem in_ok (n : Nat) (p q : Nat → Bool) (w : World) (hn : n ≤ 60) : Calls Tryd.prog 95 #[.int .u64 (bs p n : Nat), .int .u64 (bs q n : Nat)] w fun e w' => e = .returned (.bool (inB (bs p n) (bs q n))) ∧ w' = w := by
  have ha := andn_bs p q hn
  rw [← andn_zero]
  generalize bs (fun a => p a && !q a) n = Z at *
  generalize bs p n = X at *
  generalize bs q n = Y at *
  by_cases hz : Z = 0
  · have hzi : ((Z : Nat) : Int) = 0 := by omega
    have HZ := hide hz
    clear hz
    go_enter Tryd.func95, Tryd.ntmps95
    go_wp2
    go_ret
    exact ⟨by rw [decide_eq_true HZ.out]; rfl, rfl⟩
  · have hzi : ¬ ((Z : Nat) : Int) = 0 := by omega
    have hzb : (((Z : Nat) : Int) == 0) = false := by rw [beq_eq_false_iff_ne]; exact hzi
    have hd : decide (Z = 0) = false := decide_eq_false hz
    have HD := hide hd
    clear hd hz
    go_enter Tryd.func95, Tryd.ntmps95
    go_wp2
    go_ret
    exact ⟨by rw [HD.out]; rfl, rfl⟩
theorem ent123 (s : Int) (x : Value) (W : World) : Sem.run Tryd.prog (callFunc 92 (#[.int .u64 s] ++ #[x])) W = .ok (.enter 92 (#[.int .u64 s] ++ #[x])) W := by kernel_rfl
theorem ent125 (s : Int) (x : Value) (W : World) : Sem.run Tryd.prog (callFunc 94 (#[.int .u64 s] ++ #[x])) W = .ok (.enter 94 (#[.int .u64 s] ++ #[x])) W := by kernel_rfl
set_option maxRecDepth 100000 in
theorem gr1_ok (b s A : Nat) (w : World) (hA : Boxed w b 73 (.int .u64 (A : Nat))) : Calls Tryd.prog 92 (#[.int .u64 (s : Nat)] ++ #[.pointer (some ⟨b, 0, none⟩)]) w fun e w' => e = .returned (.bool (decide (s = A))) ∧ Below w.heap.size w w' := by
  show Calls Tryd.prog 92 #[.int .u64 (s : Nat), .pointer (some ⟨b, 0, none⟩)] w _
  have c0 := hA.cell
  by_cases h : s = A
  · subst h
    go_enter Tryd.func92, Tryd.ntmps92
    go_wp2
    go_ret
    exact ⟨by simp, Below.refl _ _⟩
  · have hi : ¬ (s : Int) = (A : Int) := by omega
    have hib : ((s : Int) == (A : Int)) = false := by rw [beq_eq_false_iff_ne]; exact hi
    have HD := hide (show decide (s = A) = false from decide_eq_false h)
    clear h
    go_enter Tryd.func92, Tryd.ntmps92
    go_wp2
    go_ret
    exact ⟨by rw [HD.out]; rfl, Below.refl _ _⟩
/-- Is a set less than another one? -/
def lessB (s t : Nat) : Bool := decide (s ≠ t) && inB s t
set_option maxRecDepth 100000 in
set_option maxHeartbeats 1000000 in
theorem gr2_ok (n b : Nat) (p q : Nat → Bool) (w : World) (hn : n ≤ 60) (hA : Boxed w b 73 (.int .u64 (bs p n : Nat))) : Calls Tryd.prog 94 (#[.int .u64 (bs q n : Nat)] ++ #[.pointer (some ⟨b, 0, none⟩)]) w fun e w' => e = .returned (.bool (lessB (bs p n) (bs q n))) ∧ Below w.heap.size w w' := by
  show Calls Tryd.prog 94 #[.int .u64 (bs q n : Nat), .pointer (some ⟨b, 0, none⟩)] w _
  have c0 := hA.cell
  have HI := hide (in_ok n p q w hn)
  unfold lessB
  generalize inB (bs p n) (bs q n) = B9 at *
  generalize bs p n = X at *
  generalize bs q n = Y at *
  by_cases h : X = Y
  · have hi : (X : Int) = (Y : Int) := by omega
    have HD := hide (show decide (X ≠ Y) = false from decide_eq_false (fun h9 => h9 h))
    clear h
    go_enter Tryd.func94, Tryd.ntmps94
    go_wp2
    go_ret
    exact ⟨by rw [HD.out]; rfl, Below.refl _ _⟩
  · have hi : ¬ (X : Int) = (Y : Int) := by omega
    have hib : ((X : Int) != (Y : Int)) = true := by rw [bne_iff_ne]; exact hi
    have HD := hide (show decide (X ≠ Y) = true from decide_eq_true h)
    clear h
    go_enter Tryd.func94, Tryd.ntmps94
    go_wp2_with fail
    refine HI.out.mono ?_
    rintro x w1 ⟨rfl, rfl⟩
    go_wp2
    go_ret
    exact ⟨by rw [HD.out, Bool.true_and]; rfl, Below.refl _ _⟩
end Go.Proofs.YtmgengplfebmjaaDoor

namespace Go.Proofs.YtmgengplfebmjaaDoor
open Go Go.RowKit

/-- The sets that are not all, and those of them that are in no other one. -/
def prop (xs : List Nat) (A : Nat) : List Nat := xs.filter fun s => !decide (s = A)
def grt (ys : List Nat) (k : Nat) : List Nat := (ys.take k).filter fun s => !ys.any (lessB s)
theorem grt_yes {ys : List Nat} {k : Nat} (hk : k < ys.length) (h : ys.any (lessB ys[k]) = false) : grt ys (k + 1) = grt ys k ++ [ys[k]] := by
  unfold grt
  rw [List.take_succ_eq_append_getElem hk, List.filter_append, List.filter_cons, if_pos (by rw [h]; rfl), List.filter_nil]
theorem grt_no {ys : List Nat} {k : Nat} (hk : k < ys.length) (h : ys.any (lessB ys[k]) = true) : grt ys (k + 1) = grt ys k := by
  unfold grt
  rw [List.take_succ_eq_append_getElem hk, List.filter_append, List.filter_cons, if_neg (by rw [h]; simp), List.filter_nil, List.append_nil]
theorem grt_len (ys : List Nat) (k : Nat) : (grt ys k).length ≤ ys.length := Nat.le_trans (List.length_filter_le _ _) (by rw [List.length_take]; omega)
theorem uv_snoc (xs : List Nat) (s : Nat) : uv (xs ++ [s]) = uv xs ++ [.int .u64 (s : Int)] := by simp [uv]
set_option maxRecDepth 100000 in
set_option maxHeartbeats 4000000 in
theorem greatest_ok (n e : Nat) (v u : Value) (zs : List Int) (w : World) (hG : GA w n v e u zs) (hT : Tab w) (hn24 : n ≤ 24) :
    Calls Tryd.prog 57 #[.agg #[.int .i64 n, v, .int .i64 e, u]] w fun x w' => ∃ (r : Value) (P : List (Nat → Bool)), x = .returned r ∧ SlU w' r (grt (prop (bits n P) (bs (fun _ => true) n)) (prop (bits n P) (bs (fun _ => true) n)).length) ∧ (∃ k, P.length ≤ k ∧ SInv n zs e P k 0) ∧ Below w.heap.size w w' := by
  obtain ⟨i0, hi, hz0, hz1, hz2⟩ := info_parts info82
  have hn := hG.le
  have hB0 : Below w.heap.size w (w.alloc (.cells #[.int .i64 n, v, .int .i64 e, u] 67)) := balloc w _
  have hX0 : Box4 (w.alloc (.cells #[.int .i64 n, v, .int .i64 e, u] 67)) w.heap.size n e v u := ⟨blk4 _ _ _ _⟩
  obtain ⟨w0, hw0⟩ : ∃ w0, w0 = w.alloc (.cells #[.int .i64 n, v, .int .i64 e, u] 67) := ⟨_, rfl⟩
  rw [← hw0] at hB0 hX0
  have HAL := hide (all_ok n v u e w0 hn)
  obtain ⟨c0, c1, c2, c3⟩ := hX0.cells
  rw [hw0] at c0 c1 c2 c3
  go_enter Tryd.func57, Tryd.ntmps57
  go_wp2_with fail
  rw [← hw0]
  clear hw0 c0 c1 c2 c3
  refine HAL.out.mono ?_
  rintro x w1 ⟨rfl, hb1⟩
  generalize hA : bs (fun _ => true) n = A at *
  have HA0 := hide hA
  clear hA
  have hb2 := bcat2 hb1 (balloc w1 (.cells #[.int .u64 (A : Nat)] 73))
  have hAb := Boxed.new w1 73 (.int .u64 (A : Nat))
  have hX2 := hX0.below hb2
  have hB2 := bcat2 hB0 hb2
  obtain ⟨c0, c1, c2, c3⟩ := hX2.cells
  go_wp2_with fail
  clear c0 c1 c2 c3
  generalize w1.alloc (.cells #[.int .u64 (A : Nat)] 73) = w2 at *
  refine (subgroups_ok n e v u zs w2 (hG.below hB2) (hT.below hB2) hn24).mono ?_
  rintro x w3 ⟨r, P, rfl, hrow, hI, hb3⟩
  have HI := hide hI
  have hPl : P.length ≤ 16777216 := by
    obtain ⟨k, _, h⟩ := hI
    exact h.len hn24
  clear hI
  have hAb3 := Boxed.below hAb hb3
  have hB3 := bcat2 hB2 hb3
  have hrow3 : w3.ownsRow w2.heap.size 73 1 r (bits n P).length (uv (bits n P)) := by rw [bits_len]; exact hrow
  have hlt2 : w1.heap.size < w2.heap.size := hAb.lt
  obtain ⟨ra, rcap, rfl⟩ := own_val hrow
  have HDE := hide (delete_ok 92 w2.heap.size #[.pointer (some ⟨w1.heap.size, 0, none⟩)] (.slice ra P.length rcap) (bits n P) (fun s => decide (s = A)) w3 (by omega) hb3.size hrow3 (fun s W => ent123 s _ W) (fun W s hW => gr1_ok w1.heap.size s A W ((hW.block _ hlt2).trans hAb3)))
  clear hrow hrow3
  go_wp2_with fail
  refine HDE.out.mono ?_
  rintro x w4 ⟨r4, rfl, hS4, hb4⟩
  have hB4 : Below w.heap.size w w4 := hB3.trans (hb4.mono (by have := hB2.size; omega))
  have hyp : ∀ y, y ∈ prop (bits n P) A → ∃ p, y = bs p n := fun y hy => by
    unfold prop bits at hy
    obtain ⟨p, _, rfl⟩ := List.mem_map.1 (List.mem_filter.1 hy).1
    exact ⟨p, rfl⟩
  have hyl : (prop (bits n P) A).length ≤ 16777216 := Nat.le_trans (List.length_filter_le _ _) (by rw [bits_len]; exact hPl)
  have hS4 : SlU w4 r4 (prop (bits n P) A) := hS4
  have HYP := hide hyp
  clear HDE hb4 hyp hAb3 hAb
  generalize hys : prop (bits n P) A = ys at *
  have HYS0 := hide hys
  clear hys
  obtain ⟨ya, ycap, yb, yo, rfl, y1, y2, y3, y4, y5⟩ := id hS4
  have HY1 := hide y1
  have HY2 := hide y2
  have HS4 := hide hS4
  have h04 : 0 < w4.heap.size := by omega
  clear y1 y2 y5 hS4
  go_wp2
  go_loopw [5, 16] (fun r i wr => ∃ k : Nat, k ≤ ys.length ∧ i = .int .i64 k ∧ wr.ownsRow w4.heap.size 73 1 r (grt ys k).length (uv (grt ys k)) ∧ Below w4.heap.size w4 wr) (fun _ i _ => ys.length - (intOf i).toNat)
  case atStart => exact ⟨0, Nat.zero_le _, rfl, World.ownsRow_nil _ _ _ _, Below.refl _ _⟩
  case round =>
    obtain ⟨k, hk, rfl, hrow, hB⟩ := hrel
    obtain ⟨ra9, rcap9, rfl⟩ := own_val hrow
    have hgl := grt_len ys k
    by_cases hlt : k < ys.length
    · have hki : (k : Int) < (ys.length : Int) := by omega
      obtain rfl := HY1.out (by omega)
      have cy := below_cell hB (HY2.out k hlt)
      rw [List.getElem?_eq_getElem hlt, Option.getD_some] at cy
      have hmem := List.getElem_mem hlt
      have HYS := hide (fun h => grt_yes (ys := ys) hlt h)
      have HNO := hide (fun h => grt_no (ys := ys) hlt h)
      generalize ys[k] = s at *
      obtain ⟨p, rfl⟩ := HYP.out s hmem
      have hbA := balloc wr (.cells #[.int .u64 (bs p n : Nat)] 73)
      have hsb := Boxed.new wr 73 (.int .u64 (bs p n : Nat))
      have csA := hsb.cell
      have HCO := hide (contains_ok 94 #[.pointer (some ⟨wr.heap.size, 0, none⟩)] _ ys (lessB (bs p n)) (wr.alloc (.cells #[.int .u64 (bs p n : Nat)] 73)) (HS4.out.below (bcat2 hB hbA)) (fun s W => ent125 s _ W) (fun W s hW hs => by
        obtain ⟨q, rfl⟩ := HYP.out s hs
        exact gr2_ok n wr.heap.size p q W hn (Boxed.below hsb hW)))
      have hrowA := World.ownsRow.alloc hrow (.cells #[.int .u64 (bs p n : Nat)] 73)
      have hBA := bcat2 hB hbA
      clear hrow hB
      generalize hX9 : bs p n = X9 at *
      generalize hwA : wr.alloc (.cells #[.int .u64 (X9 : Nat)] 73) = wA at *
      rw [← hwA] at csA
      have HWA := hide hwA
      clear hwA hX9
      cases hany : ys.any (lessB X9) with
      | true =>
        rw [hany] at HCO
        have HE := hide (HNO.out hany)
        go_wp2_with fail
        rw [HWA.out]
        refine HCO.out.mono ?_
        rintro x w5 ⟨rfl, hb5⟩
        have hrow5 := own_keep2 hrowA (fun g _ h2 => hb5.block g h2)
        have hB5 := bcat2 hBA hb5
        go_wp2
        go_roundw
        case rel => exact ⟨k + 1, by omega, by go_num, by rw [HE.out]; exact hrow5, hB5⟩
        case measure => simp [intOf]; omega
      | false =>
        rw [hany] at HCO
        have HE := hide (HYS.out hany)
        go_wp2_with fail
        rw [HWA.out]
        refine HCO.out.mono ?_
        rintro x w5 ⟨rfl, hb5⟩
        have hrow5 := own_keep2 hrowA (fun g _ h2 => hb5.block g h2)
        have hB5 := bcat2 hBA hb5
        have cs5 := below_cell hb5 (by rw [← HWA.out]; exact csA)
        have hz5 := hB5.size
        go_wp2_with (first
          | (at_builtin; refine wpList_append_own _ rfl _ _ 70 rfl w4.heap.size 73 i0 (.int .u64 0) 1 8 und79 hi hz0 hz1 hz2 rfl (by decide) _ _ _ rfl (World.ownsRow.alloc hrow5 _) ⟨w5.heap.size, 0, none⟩ 1 1 [.int .u64 X9] rfl rfl ?c1 ?c2 ?c3 ?c4 ?c5 ?_))
        case c1 => exact cell_one_new _ _ _
        case c2 => simp [Value.oneCell']
        case c3 => unfold maxLen; omega
        case c4 => omega
        case c5 => simp; omega
        intro v9 w6 hown' hgrow _
        obtain ⟨g', cap', rfl⟩ := ownsRow_succ hown'
        have hB6 : Below w4.heap.size w4 w6 := (hB5.alloc hB5.size _).grown hgrow (by simp; omega) (fun t e => by have := owns_ge hrow5 t e; omega)
        have hrow6 : w6.ownsRow w4.heap.size 73 1 (.slice (some ⟨g', 0, none⟩) ((grt ys k).length + 1) cap') (grt ys (k + 1)).length (uv (grt ys (k + 1))) := by
          rw [HE.out, uv_snoc]
          simpa using hown'
        clear hown' hgrow
        go_wp2
        go_roundw
        case rel => exact ⟨k + 1, by omega, by go_num, hrow6, hB6⟩
        case measure => simp [intOf]; omega
    · have hki : ¬ (k : Int) < (ys.length : Int) := by omega
      have HKK := hide (show k = ys.length by omega)
      have hs9 := SlU.of_own rfl hrow (Nat.lt_of_lt_of_le h04 hB.size)
      have hB9 := bcat2 hB4 hB
      clear hrow
      go_wp2
      go_ret
      exact ⟨_, rfl, P, by rw [HA0.out, HYS0.out, ← HKK.out]; exact hs9, HI.out, hB9⟩
end Go.Proofs.YtmgengplfebmjaaDoor

namespace Go.Proofs.YtmgengplfebmjaaDoor
open Go Go.RowKit

/-- The greatest of the sets that are not all. -/
def grtA (n : Nat) (P : List (Nat → Bool)) : List Nat := grt (prop (bits n P) (bs (fun _ => true) n)) (prop (bits n P) (bs (fun _ => true) n)).length
theorem grtA_bs {n : Nat} {P : List (Nat → Bool)} {s : Nat} (h : s ∈ grtA n P) : ∃ p, p ∈ P ∧ s = bs p n := by
  unfold grtA grt at h
  have h1 := List.mem_of_mem_take (List.mem_filter.1 h).1
  unfold prop bits at h1
  obtain ⟨p, hp, rfl⟩ := List.mem_map.1 (List.mem_filter.1 h1).1
  exact ⟨p, hp, rfl⟩
set_option maxRecDepth 100000 in
set_option maxHeartbeats 4000000 in
theorem frat_bad (N c i : Int) (v : Value) (w : World) (HCK : Hid (∀ W, Below w.heap.size w W → Calls Tryd.prog 48 #[.agg #[.int .i64 N, v]] W fun x W' => x = .returned (.tuple #[.agg #[.int .i64 0, .slice none 0 0, .int .i64 0, .slice none 0 0], .agg #[.int .i64 c, .int .i64 i]]) ∧ Below W.heap.size W W')) (hc : c ≠ 0) :
    Calls Tryd.prog 11 #[.agg #[.int .i64 N, v]] w fun x w' => x = .returned (.tuple #[.slice none 0 0, .agg #[.int .i64 c, .int .i64 i]]) ∧ Below w.heap.size w w' := by
  obtain ⟨w0, BG⟩ := Beg.new w N v
  obtain ⟨c0, c1, _, _⟩ := BG.box.two
  have hcb : (c != 0) = true := by simpa using hc
  rw [BG.eq] at c0 c1
  go_enter Tryd.func11, Tryd.ntmps11
  go_wp2_with fail
  rw [← BG.eq]
  refine (HCK.out w0 BG.bel).mono ?_
  rintro x w1 ⟨rfl, hb1⟩
  clear c0 c1
  obtain ⟨w2, hw2⟩ : ∃ w2, w2 = (w1.alloc (.cells #[.int .i64 0, .slice none 0 0, .int .i64 0, .slice none 0 0] 67)).alloc (.cells #[.int .i64 c, .int .i64 i] 27) := ⟨_, rfl⟩
  have hB1 : Below w0.heap.size w0 w2 := by rw [hw2]; exact bcat2 hb1 ((balloc w1 _).alloc (by simp) _)
  have hF1 : Blk w2 (w1.heap.size + 1) 27 [.int .i64 c, .int .i64 i] := by
    rw [hw2]
    have := blk0 (w := w1.alloc (.cells #[.int .i64 0, .slice none 0 0, .int .i64 0, .slice none 0 0] 67)) (T := 27) (.int .i64 c) (.int .i64 i)
    rwa [World.size_alloc] at this
  have hR1 := blk_below BG.res hB1
  have hBw := bcat BG.bel hB1 BG.bel.size
  obtain ⟨y0, y1, fy0, fy1⟩ := hR1.two
  obtain ⟨t0, t1, _, _⟩ := hF1.two
  rw [hw2] at t0 t1
  go_wp2_with fail
  rw [← hw2]
  rw [← hw2] at t0 t1
  clear hw2
  go_region
  all_goals (
    go_wp2
    obtain ⟨hR6, hB6⟩ := put2 hR1 hBw (by omega) c i
    have hB7 := bdrew hB6
    have hR7 : Blk ((w2.setCell ⟨w.heap.size + 1, 0, none⟩ (.int .i64 c)).setCell ⟨w.heap.size + 1, 1, none⟩ (.int .i64 i)).drew (w.heap.size + 1) 27 [.int .i64 c, .int .i64 i] := hR6
    generalize ((w2.setCell ⟨w.heap.size + 1, 0, none⟩ (.int .i64 c)).setCell ⟨w.heap.size + 1, 1, none⟩ (.int .i64 i)).drew = W at hR7 hB7 ⊢
    obtain ⟨z0, z1, _, _⟩ := hR7.two
    exact bodyPost_ret (v := .tuple #[.slice none 0 0, .agg #[.int .i64 c, .int .i64 i]]) (by simp [results, Tryd.results11, go_sem, z0, z1]) rfl ⟨rfl, hB7⟩)

set_option maxRecDepth 100000 in
set_option maxHeartbeats 4000000 in
theorem frat_good (n e : Nat) (v : Value) (zs : List Int) (w : World) (hv : Sl w v zs) (hg : IsGrp n zs e) (hT : Tab w) (h24 : n ≤ 24) :
    Calls Tryd.prog 11 #[.agg #[.int .i64 n, v]] w fun x w' => ∃ (r : Value) (P : List (Nat → Bool)), x = .returned (.tuple #[r, .agg #[.int .i64 0, .int .i64 0]]) ∧ (∃ k, P.length ≤ k ∧ SInv n zs e P k 0) ∧ SlF w.heap.size w' r (li (lst n (fun x => (grtA n P).all fun s => s.testBit x))) ∧ Below w.heap.size w w' := by
  obtain ⟨va, vl, vc, rfl⟩ := hv.isSlice
  obtain ⟨w0, BG⟩ := Beg.new w n (.slice va vl vc)
  have hv0 := hv.below BG.bel
  obtain ⟨c0, c1, _, _⟩ := BG.box.two
  have HCK := hide (osml_good n e (.slice va vl vc) zs w0 hv0 hg h24)
  have HZ0 := hide (show w.heap.size + 2 ≤ w0.heap.size by rw [BG.eq]; simp)
  rw [BG.eq] at c0 c1
  go_enter Tryd.func11, Tryd.ntmps11
  go_wp2_with fail
  rw [← BG.eq]
  refine HCK.out.mono ?_
  rintro x w1 ⟨iv9, rfl, hSI, hb1⟩
  obtain ⟨ia, il, ic, rfl⟩ := hSI.sl.isSlice
  clear c0 c1 HCK
  obtain ⟨w2, hw2⟩ : ∃ w2, w2 = (w1.alloc (.cells #[.int .i64 n, (.slice va vl vc), .int .i64 e, (.slice ia il ic)] 67)).alloc (.cells #[.int .i64 0, .int .i64 0] 27) := ⟨_, rfl⟩
  have hb2 : Below w1.heap.size w1 w2 := by rw [hw2]; exact (balloc w1 _).alloc (by simp) _
  have hB1 : Below w0.heap.size w0 w2 := bcat2 hb1 hb2
  have hF1 : Blk w2 (w1.heap.size + 1) 27 [.int .i64 0, .int .i64 0] := by
    rw [hw2]
    have := blk0 (w := w1.alloc (.cells #[.int .i64 n, (.slice va vl vc), .int .i64 e, (.slice ia il ic)] 67)) (T := 27) (.int .i64 0) (.int .i64 0)
    rwa [World.size_alloc] at this
  have hH2 : Blk w2 w1.heap.size 67 [.int .i64 n, (.slice va vl vc), .int .i64 e, (.slice ia il ic)] := by
    rw [hw2]; exact (blk4 _ _ _ _).alloc _
  have hBw2 := bcat BG.bel hB1 BG.bel.size
  have hR2 := blk_below BG.res hB1
  have hT2 := hT.below hBw2
  have hGA2 : GA w2 n (.slice va vl vc) e (.slice ia il ic) zs := ⟨hg, hv.below hBw2, (hSI.below hb2).sl⟩
  obtain ⟨t0, t1, _, _⟩ := hF1.two
  obtain ⟨_, h0, h1, h2, h3, _⟩ := Four.mk' hH2
  have hx2 := blk_below BG.box hB1
  have HZ1 := hide (Nat.le_trans HZ0.out hb1.size)
  have HZ2 := hide hb2.size
  rw [hw2] at t0 t1 h0 h1 h2 h3
  go_wp2_with fail
  rw [← hw2]
  rw [← hw2] at t0 t1 h0 h1 h2 h3
  clear hw2 t0 t1
  refine (all_ok n (.slice va vl vc) (.slice ia il ic) e w2 hg.tab.le).mono ?_
  rintro x w3 ⟨rfl, hb3⟩
  have c0 := below_cell hb3 h0
  have c1 := below_cell hb3 h1
  have c2 := below_cell hb3 h2
  have c3 := below_cell hb3 h3
  have hB3 := bcat2 hBw2 hb3
  go_wp2_with fail
  clear c0 c1 c2 c3
  refine (greatest_ok n e (.slice va vl vc) (.slice ia il ic) zs w3 (hGA2.below hb3) (hT.below hB3) h24).mono ?_
  rintro x w4 ⟨r4, P, rfl, hS4, hI4, hb4⟩
  have hB4 := bcat2 hB3 hb4
  have hR4 := blk_below hR2 (bcat2 hb3 hb4)
  have HG := hide (fun s (h : s ∈ grtA n P) => grtA_bs h)
  have hS4 : SlU w4 r4 (grtA n P) := hS4
  have HI4 := hide hI4
  have HT4 := hide (hT.below hB4)
  have HR4 := hide hR4
  generalize hgs : grtA n P = gs at *
  have HGS := hide hgs
  clear hgs hI4 hR4 h0 h1 h2 h3
  obtain ⟨ya, ycap, yb, yo, rfl, y1, y2, y3, y4, y5⟩ := hS4
  have hyl : gs.length ≤ 9223372036854775807 := by unfold maxLen at y5; omega
  have HY1 := hide y1
  have HY2 := hide y2
  clear y1 y2 y5
  have hn := hg.tab.le
  have HA0 := hide (show bs (fun _ => true) n = bs (fun x => (gs.take 0).all fun s => s.testBit x) n by simp)
  rw [HA0.out]
  go_wp2
  go_loopw [6, 23] (fun c i wr => ∃ k : Nat, k ≤ gs.length ∧ i = .int .i64 k ∧ c = .int .u64 (bs (fun x => (gs.take k).all fun s => s.testBit x) n : Nat) ∧ wr = w4) (fun _ i _ => gs.length - (intOf i).toNat)
  case atStart => exact ⟨0, Nat.zero_le _, rfl, rfl, rfl⟩
  case round =>
    obtain ⟨k, hk, rfl, rfl, hwr⟩ := hrel
    rw [hwr]
    clear hwr
    by_cases hlt : k < gs.length
    · have hki : (k : Int) < (gs.length : Int) := by omega
      obtain rfl := HY1.out (by omega)
      have cy := HY2.out k hlt
      rw [List.getElem?_eq_getElem hlt, Option.getD_some] at cy
      obtain ⟨p, hp, hse⟩ := HG.out gs[k] (List.getElem_mem hlt)
      rw [hse] at cy
      have hand := and_bs (fun x => (gs.take k).all fun s => s.testBit x) p hn
      have HE := hide (show bs (fun x => ((gs.take k).all fun s => s.testBit x) && p x) n = bs (fun x => (gs.take (k + 1)).all fun s => s.testBit x) n from bs_ext fun x hx => by
        rw [List.take_succ_eq_append_getElem hlt, List.all_append]
        simp [hse, bs_bit, hx])
      generalize bs (fun x => ((gs.take k).all fun s => s.testBit x) && p x) n = Z9 at *
      generalize bs (fun x => (gs.take k).all fun s => s.testBit x) n = X9 at *
      generalize bs p n = Y9 at *
      clear hse
      go_wp2
      go_roundw
      case rel => exact ⟨k + 1, by omega, by go_num, by rw [HE.out], trivial⟩
      case measure => simp [intOf]; omega
    · have hki : ¬ (k : Int) < (gs.length : Int) := by omega
      have hgt : gs.take k = gs := List.take_of_length_le (by omega)
      rw [hgt]
      clear hgt
      have HL := hide (list_at n w.heap.size (fun x => gs.all fun s => s.testBit x) w4 hn HT4.out hB4.size)
      generalize bs (fun x => gs.all fun s => s.testBit x) n = C9 at *
      obtain ⟨_, y0, y1, fy0, fy1, s0, s1⟩ := Two.mk' HR4.out
      clear y0 y1 fy0 fy1 s0 s1
      go_wp2_with fail
      refine HL.out.mono ?_
      rintro x w5 ⟨r5, rfl, hr5, hb5⟩
      obtain ⟨_, y0, y1, fy0, fy1, s0, s1⟩ := Two.mk' (blk_below HR4.out hb5)
      have hB5 := bcat2 hB4 hb5
      go_wp2
      exact bodyPost_ret (v := .tuple #[r5, .agg #[.int .i64 0, .int .i64 0]]) (by simp [results, Tryd.results11, go_sem, y0, y1]) rfl ⟨_, P, rfl, HI4.out, by rw [HGS.out]; exact hr5, hB5⟩
end Go.Proofs.YtmgengplfebmjaaDoor

namespace Go.Proofs.YtmgengplfebmjaaDoor
open Go Go.RowKit

theorem mem_prop {n : Nat} {P : List (Nat → Bool)} {s : Nat} : s ∈ prop (bits n P) (bs (fun _ => true) n) ↔ (∃ p, p ∈ P ∧ s = bs p n) ∧ s ≠ bs (fun _ => true) n := by
  unfold prop bits
  rw [List.mem_filter, List.mem_map]
  constructor
  · rintro ⟨⟨p, hp, rfl⟩, h⟩
    exact ⟨⟨p, hp, rfl⟩, by simpa using h⟩
  · rintro ⟨⟨p, hp, rfl⟩, h⟩
    exact ⟨⟨p, hp, rfl⟩, by simpa using h⟩
theorem mem_grtA {n : Nat} {P : List (Nat → Bool)} {s : Nat} : s ∈ grtA n P ↔ s ∈ prop (bits n P) (bs (fun _ => true) n) ∧ ∀ t, t ∈ prop (bits n P) (bs (fun _ => true) n) → lessB s t = false := by
  unfold grtA grt
  rw [List.take_length, List.mem_filter]
  simp
theorem lessB_iff {n : Nat} {p q : Nat → Bool} : lessB (bs p n) (bs q n) = true ↔ (∃ a, a < n ∧ q a = true ∧ ¬ p a = true) ∧ ∀ a, a < n → p a = true → q a = true := by
  unfold lessB
  rw [Bool.and_eq_true, inB_iff, decide_eq_true_eq]
  constructor
  · rintro ⟨h1, h2⟩
    refine ⟨?_, h2⟩
    rcases Classical.em (∃ a, a < n ∧ q a = true ∧ ¬ p a = true) with h | h
    · exact h
    · refine absurd (bs_ext fun a ha => ?_) h1
      rw [Bool.eq_iff_iff]
      exact ⟨h2 a ha, fun hq => Classical.byContradiction fun hp => h ⟨a, ha, hq, hp⟩⟩
  · rintro ⟨⟨a, ha, h1, h2⟩, h3⟩
    exact ⟨fun he => h2 (by rw [bs_inj he a ha]; exact h1), h3⟩
theorem less_all {n : Nat} {p : Nat → Bool} : bs p n ≠ bs (fun _ => true) n ↔ ∃ x, x ∈ List.range n ∧ ¬ p x = true := by
  constructor
  · intro h
    rcases Classical.em (∃ x, x ∈ List.range n ∧ ¬ p x = true) with k | k
    · exact k
    · exact absurd (bs_ext fun a ha => Classical.byContradiction fun hp => k ⟨a, List.mem_range.2 ha, fun h9 => hp (by rw [h9])⟩) h
  · rintro ⟨x, hx, h⟩ he
    exact h (bs_inj he x (List.mem_range.1 hx))
theorem frat_mem {n e k : Nat} {zs : List Int} {P : List (Nat → Bool)} (g : IsGrp n zs e) (hk : P.length ≤ k) (hI : SInv n zs e P k 0) {x : Nat} (hx : x < n) :
    ((grtA n P).all fun s => s.testBit x) = true ↔ Fin.Frat (List.range n) (tm n zs) e x := by
  have hin : ∀ t : Nat → Bool, Fin.Sg (List.range n) (tm n zs) e (fun a => t a = true) → (∃ p, p ∈ P ∧ bs t n = bs p n) := fun t ht => by
    have := SInv.all g hI hk (subT_iff.2 ht)
    unfold bits at this
    obtain ⟨p, hp, he⟩ := List.mem_map.1 this
    exact ⟨p, hp, he.symm⟩
  rw [List.all_eq_true]
  constructor
  · intro h M hM
    obtain ⟨t, ht⟩ := Fin.test_of M
    have St : Fin.Sg (List.range n) (tm n zs) e (fun a => t a = true) := ⟨(ht e).2 hM.sg.one, fun a b ha hb h3 h4 => (ht _).2 (hM.sg.mul a b ha hb ((ht a).1 h3) ((ht b).1 h4))⟩
    have hm : bs t n ∈ grtA n P := by
      rw [mem_grtA, mem_prop]
      refine ⟨⟨hin t St, less_all.2 ?_⟩, fun s hs => ?_⟩
      · obtain ⟨y, hy, h2⟩ := hM.less
        exact ⟨y, hy, fun h9 => h2 ((ht y).1 h9)⟩
      · obtain ⟨⟨q, hq, rfl⟩, hne⟩ := mem_prop.1 hs
        cases hl : lessB (bs t n) (bs q n) with
        | false => rfl
        | true =>
          exfalso
          obtain ⟨⟨a, ha, h1, h2⟩, h3⟩ := lessB_iff.1 hl
          obtain ⟨y, hy, h4⟩ := less_all.1 hne
          exact h4 (hM.top (fun a => q a = true) (subT_iff.1 (hI.sub q hq)) (fun z hz hMz => h3 z (List.mem_range.1 hz) ((ht z).2 hMz)) ⟨a, List.mem_range.2 ha, h1, fun h9 => h2 ((ht a).2 h9)⟩ y hy)
    have := h _ hm
    rw [bs_bit] at this
    simp [hx] at this
    exact (ht x).1 this
  · intro h s hs
    obtain ⟨h1, h2⟩ := mem_grtA.1 hs
    obtain ⟨⟨p, hp, rfl⟩, hne⟩ := mem_prop.1 h1
    rw [bs_bit]
    simp only [hx, decide_true, Bool.true_and]
    refine h (fun a => p a = true) ⟨subT_iff.1 (hI.sub p hp), less_all.1 hne, fun Q SQ hpQ ⟨y, hy, hy1, hy2⟩ z hz => ?_⟩
    refine Classical.byContradiction fun hnz => ?_
    obtain ⟨q, hq⟩ := Fin.test_of Q
    have Sq : Fin.Sg (List.range n) (tm n zs) e (fun a => q a = true) := ⟨(hq e).2 SQ.one, fun a b ha hb h3 h4 => (hq _).2 (SQ.mul a b ha hb ((hq a).1 h3) ((hq b).1 h4))⟩
    have hlf := h2 (bs q n) (mem_prop.2 ⟨hin q Sq, less_all.2 ⟨z, hz, fun h9 => hnz ((hq z).1 h9)⟩⟩)
    have hlt : lessB (bs p n) (bs q n) = true := lessB_iff.2 ⟨⟨y, List.mem_range.1 hy, (hq y).2 hy1, hy2⟩, fun a ha h9 => (hq a).2 (hpQ a (List.mem_range.2 ha) h9)⟩
    rw [hlt] at hlf
    exact absurd hlf (by decide)
/-- FRATTINI, of lists: what makes all makes all also without what is in the greatest subgroups' meet. -/
theorem frat_less {n e k : Nat} {zs l : List Int} {P : List (Nat → Bool)} {p : Nat → Bool} (g : IsGrp n zs e) (hk : P.length ≤ k) (hI : SInv n zs e P k 0)
    (hp : ∀ a, a < n → (p a = true ↔ Mkd n zs e (pset l) a)) (hl : (lst n p).length = n) {q : Nat → Bool} (hq : ∀ a, a < n → q a = (pset l a && !((grtA n P).all fun s => s.testBit a))) {r : Nat → Bool} (hr : ∀ a, a < n → (r a = true ↔ Mkd n zs e q a)) : (lst n r).length = n := by
  have hall : ∀ a, a < n → p a = true := by
    intro a ha
    have h1 : (List.range n).filter p = List.range n := List.filter_sublist.eq_of_length (by
      have : ((List.range n).filter p).length = n := hl
      rw [this, List.length_range])
    exact (List.filter_eq_self.1 h1) a (List.mem_range.2 ha)
  have hG := Fin.frat_needless (grp_fg g) (X := fun x => pset l x = true) (fun a ha => (hp a (List.mem_range.1 ha)).1 (hall a (List.mem_range.1 ha)))
  have : lst n r = List.range n := by
    unfold lst
    rw [List.filter_eq_self]
    intro a ha
    rw [hr a (List.mem_range.1 ha)]
    refine Fin.Gen.mono (fun x hx hX => ?_) (hG a ha)
    have hxn := List.mem_range.1 hx
    show q x = true
    rw [hq x hxn, Bool.and_eq_true]
    refine ⟨hX.1, ?_⟩
    cases hb : (grtA n P).all fun s => s.testBit x with
    | false => rfl
    | true => exact absurd ((frat_mem g hk hI hxn).1 hb) hX.2
  rw [this, List.length_range]
theorem has_int' (v : Value) (ys : List Int) (a : Int) (w : World) (hv : Sl w v ys) :
    Calls Tryd.prog 81 #[v, .int .i64 a] w fun x w' => x = .returned (.bool (decide (a ∈ ys))) ∧ Below w.heap.size w w' := by
  refine (rhas_ok v ys a w hv).mono ?_
  rintro x w1 ⟨rfl, rfl⟩
  exact ⟨rfl, Below.refl _ _⟩
end Go.Proofs.YtmgengplfebmjaaDoor

namespace Go.Proofs.YtmgengplfebmjaaDoor
open Go Go.RowKit

theorem und25b : Tryd.prog.underlying 25 = some (.slice 22) := by kernel_rfl
set_option maxRecDepth 100000 in
set_option maxHeartbeats 4000000 in
theorem all_bad (N c i : Int) (v : Value) (w : World) (HCK : Hid (∀ W, Below w.heap.size w W → Calls Tryd.prog 48 #[.agg #[.int .i64 N, v]] W fun x W' => x = .returned (.tuple #[.agg #[.int .i64 0, .slice none 0 0, .int .i64 0, .slice none 0 0], .agg #[.int .i64 c, .int .i64 i]]) ∧ Below W.heap.size W W')) (hc : c ≠ 0) :
    Calls Tryd.prog 9 #[.agg #[.int .i64 N, v]] w fun x w' => x = .returned (.tuple #[.slice none 0 0, .agg #[.int .i64 c, .int .i64 i]]) ∧ Below w.heap.size w w' := by
  obtain ⟨w0, BG⟩ := Beg.new w N v
  obtain ⟨c0, c1, _, _⟩ := BG.box.two
  have hcb : (c != 0) = true := by simpa using hc
  rw [BG.eq] at c0 c1
  go_enter Tryd.func9, Tryd.ntmps9
  go_wp2_with fail
  rw [← BG.eq]
  refine (HCK.out w0 BG.bel).mono ?_
  rintro x w1 ⟨rfl, hb1⟩
  clear c0 c1
  obtain ⟨w2, hw2⟩ : ∃ w2, w2 = (w1.alloc (.cells #[.int .i64 0, .slice none 0 0, .int .i64 0, .slice none 0 0] 67)).alloc (.cells #[.int .i64 c, .int .i64 i] 27) := ⟨_, rfl⟩
  have hB1 : Below w0.heap.size w0 w2 := by rw [hw2]; exact bcat2 hb1 ((balloc w1 _).alloc (by simp) _)
  have hF1 : Blk w2 (w1.heap.size + 1) 27 [.int .i64 c, .int .i64 i] := by
    rw [hw2]
    have := blk0 (w := w1.alloc (.cells #[.int .i64 0, .slice none 0 0, .int .i64 0, .slice none 0 0] 67)) (T := 27) (.int .i64 c) (.int .i64 i)
    rwa [World.size_alloc] at this
  have hR1 := blk_below BG.res hB1
  have hBw := bcat BG.bel hB1 BG.bel.size
  obtain ⟨y0, y1, fy0, fy1⟩ := hR1.two
  obtain ⟨t0, t1, _, _⟩ := hF1.two
  rw [hw2] at t0 t1
  go_wp2_with fail
  rw [← hw2]
  rw [← hw2] at t0 t1
  clear hw2
  go_region
  all_goals (
    go_wp2
    obtain ⟨hR6, hB6⟩ := put2 hR1 hBw (by omega) c i
    have hB7 := bdrew hB6
    have hR7 : Blk ((w2.setCell ⟨w.heap.size + 1, 0, none⟩ (.int .i64 c)).setCell ⟨w.heap.size + 1, 1, none⟩ (.int .i64 i)).drew (w.heap.size + 1) 27 [.int .i64 c, .int .i64 i] := hR6
    generalize ((w2.setCell ⟨w.heap.size + 1, 0, none⟩ (.int .i64 c)).setCell ⟨w.heap.size + 1, 1, none⟩ (.int .i64 i)).drew = W at hR7 hB7 ⊢
    obtain ⟨z0, z1, _, _⟩ := hR7.two
    exact bodyPost_ret (v := .tuple #[.slice none 0 0, .agg #[.int .i64 c, .int .i64 i]]) (by simp [results, Tryd.results9, go_sem, z0, z1]) rfl ⟨rfl, hB7⟩)

set_option maxRecDepth 100000 in
set_option maxHeartbeats 4000000 in
theorem all_good (n e : Nat) (v : Value) (zs : List Int) (w : World) (hv : Sl w v zs) (hg : IsGrp n zs e) (hT : Tab w) (h24 : n ≤ 24) :
    Calls Tryd.prog 9 #[.agg #[.int .i64 n, v]] w fun x w' => ∃ (r1 : Option Addr) (r2 r3 : Nat) (P : List (Nat → Bool)) (ms : List (List Int)), x = .returned (.tuple #[.slice r1 r2 r3, .agg #[.int .i64 0, .int .i64 0]]) ∧ (∃ k, P.length ≤ k ∧ SInv n zs e P k 0) ∧ ms.Perm (P.map fun p => li (lst n p)) ∧ srt ms ∧ (∀ W' : World, (∀ b, w.heap.size ≤ b → b < w'.heap.size → W'.heap[b]? = w'.heap[b]?) → w'.heap.size ≤ W'.heap.size → SlL W' (.slice r1 r2 r3) ms) ∧ Below w.heap.size w w' := by
  obtain ⟨va, vl, vc, rfl⟩ := hv.isSlice
  obtain ⟨w0, BG⟩ := Beg.new w n (.slice va vl vc)
  have hv0 := hv.below BG.bel
  obtain ⟨c0, c1, _, _⟩ := BG.box.two
  have HCK := hide (osml_good n e (.slice va vl vc) zs w0 hv0 hg h24)
  have HZ0 := hide (show w.heap.size + 2 ≤ w0.heap.size by rw [BG.eq]; simp)
  rw [BG.eq] at c0 c1
  go_enter Tryd.func9, Tryd.ntmps9
  go_wp2_with fail
  rw [← BG.eq]
  refine HCK.out.mono ?_
  rintro x w1 ⟨iv9, rfl, hSI, hb1⟩
  obtain ⟨ia, il, ic, rfl⟩ := hSI.sl.isSlice
  clear c0 c1 HCK
  obtain ⟨w2, hw2⟩ : ∃ w2, w2 = (w1.alloc (.cells #[.int .i64 n, (.slice va vl vc), .int .i64 e, (.slice ia il ic)] 67)).alloc (.cells #[.int .i64 0, .int .i64 0] 27) := ⟨_, rfl⟩
  have hb2 : Below w1.heap.size w1 w2 := by rw [hw2]; exact (balloc w1 _).alloc (by simp) _
  have hB1 : Below w0.heap.size w0 w2 := bcat2 hb1 hb2
  have hF1 : Blk w2 (w1.heap.size + 1) 27 [.int .i64 0, .int .i64 0] := by
    rw [hw2]
    have := blk0 (w := w1.alloc (.cells #[.int .i64 n, (.slice va vl vc), .int .i64 e, (.slice ia il ic)] 67)) (T := 27) (.int .i64 0) (.int .i64 0)
    rwa [World.size_alloc] at this
  have hH2 : Blk w2 w1.heap.size 67 [.int .i64 n, (.slice va vl vc), .int .i64 e, (.slice ia il ic)] := by
    rw [hw2]; exact (blk4 _ _ _ _).alloc _
  have hBw2 := bcat BG.bel hB1 BG.bel.size
  have hR2 := blk_below BG.res hB1
  have hT2 := hT.below hBw2
  have hGA2 : GA w2 n (.slice va vl vc) e (.slice ia il ic) zs := ⟨hg, hv.below hBw2, (hSI.below hb2).sl⟩
  obtain ⟨t0, t1, _, _⟩ := hF1.two
  obtain ⟨_, h0, h1, h2, h3, _⟩ := Four.mk' hH2
  have hx2 := blk_below BG.box hB1
  have HZ1 := hide (Nat.le_trans HZ0.out hb1.size)
  have HZ2 := hide hb2.size
  rw [hw2] at t0 t1 h0 h1 h2 h3
  go_wp2_with fail
  rw [← hw2]
  rw [← hw2] at t0 t1 h0 h1 h2 h3
  clear hw2 t0 t1
  refine (subgroups_ok n e (.slice va vl vc) (.slice ia il ic) zs w2 hGA2 hT2 h24).mono ?_
  rintro x w4 ⟨r4, P, rfl, hrow4, hI4, hb4⟩
  have hB4 := bcat2 hBw2 hb4
  have hR4 := blk_below hR2 hb4
  have h04 : 0 < w4.heap.size := Nat.lt_of_lt_of_le hT.lt hB4.size
  have hPl : P.length ≤ 16777216 := by
    obtain ⟨k, _, h⟩ := hI4
    exact h.len h24
  have hPp : 0 < P.length := by
    obtain ⟨k, _, h⟩ := hI4
    have := List.length_pos_of_mem h.one
    rwa [bits_len] at this
  obtain ⟨i0, hi, hz0, hz1, hz2⟩ := info_parts info22b
  have hS4 : SlU w4 r4 (bits n P) := SlU.of_own (by rw [bits_len]) hrow4 h04
  have HI4 := hide hI4
  have HT4 := hide (hT.below hB4)
  have HR4 := hide hR4
  have hn := hg.tab.le
  clear hI4 hR4 h0 h1 h2 h3 hrow4
  obtain ⟨ya, ycap, yb, yo, hr4, y1, y2, y3, y4, y5⟩ := hS4
  rw [bits_len] at hr4 y1 y2 y4
  subst hr4
  have HY1 := hide y1
  have HY2 := hide (fun j (hj : j < P.length) => show w4.cell? ⟨yb, yo + j, none⟩ = some (.int .u64 (bs P[j] n : Nat)) by
    rw [y2 j hj]; simp [bits, hj])
  clear y1 y2 y5
  go_wp2
  go_loopw [6, 21] (fun r i wr => ∃ (k : Nat) (vs : List Value), k ≤ P.length ∧ i = .int .i64 k ∧ wr.ownsRow w4.heap.size 22 1 r vs.length vs ∧ Lsts wr w4.heap.size r vs ((P.take k).map fun p => li (lst n p)) ∧ Below w4.heap.size w4 wr) (fun _ i _ => P.length - (intOf i).toNat)
  case atStart => exact ⟨0, [], Nat.zero_le _, rfl, World.ownsRow_nil _ _ _ _, ⟨by simp, fun t x l h1 _ => by simp at h1⟩, Below.refl _ _⟩
  case round =>
    obtain ⟨k, vs, hk, rfl, hrow, hls, hB⟩ := hrel
    have hvl1 : vs.length ≤ k := by rw [hls.1, List.length_map, List.length_take]; omega
    have hvl2 : k ≤ vs.length := by rw [hls.1, List.length_map, List.length_take]; omega
    obtain ⟨ra, rcap, rfl⟩ := own_slice' hrow
    by_cases hlt : k < P.length
    · have hki : (k : Int) < (P.length : Int) := by omega
      obtain rfl := HY1.out (by omega)
      have cy := below_cell hB (HY2.out k hlt)
      have hb9 := list_ok n P[k] wr hn (HT4.out.below hB)
      have HST := hide (show ((P.take (k + 1)).map fun p => li (lst n p)) = ((P.take k).map fun p => li (lst n p)) ++ [li (lst n P[k])] by
        rw [List.take_succ_eq_append_getElem hlt, List.map_append]; rfl)
      have HB9 := hide hb9
      clear hb9
      have hl60 : (li (lst n P[k])).length ≤ 60 := by rw [show (li (lst n P[k])).length = (lst n P[k]).length by simp [li]]; exact Nat.le_trans (lst_len _ _) hn
      generalize li (lst n P[k]) = lj at *
      generalize bs P[k] n = s9 at *
      go_wp2_with fail
      refine HB9.out.mono ?_
      rintro e3 w5 ⟨r9, rfl, hr9, hb5⟩
      have hB5 := bcat2 hB hb5
      have hrow5 := own_keep2 hrow (fun g _ h2 => hb5.block g h2)
      have hls5 : Lsts w5 w4.heap.size (.slice ra vs.length rcap) vs ((P.take k).map fun p => li (lst n p)) := hls.keep hb5.size (fun g _ h2 _ => hb5.block g h2) (.inl rfl)
      have hown2 : ∀ g, (Value.slice ra vs.length rcap).ownBlock = some g → g < wr.heap.size := fun g hg => by
        rcases hrow.2 with ⟨h1, _⟩ | ⟨g', cap, cur, h1, _, hh9, _⟩
        · rw [h1] at hg; simp [Value.ownBlock] at hg
        · rw [h1] at hg
          simp [Value.ownBlock] at hg
          subst hg
          exact (Array.getElem?_eq_some_iff.1 hh9).1
      obtain ⟨qa, qcap, qb, qo, rfl, hq, hq1, hq2, hq3, hq4⟩ := hr9
      have hs5 := hb5.size
      have hsB := hB.size
      have HQ := hide hq
      clear hrow hls hb5 hq
      go_wp2_with (first
        | (at_builtin; refine wpList_append_own_at _ rfl _ _ 25 rfl w4.heap.size 22 i0 (.slice none 0 0) 1 24 und25b hi hz0 hz1 hz2 rfl (by decide) _ _ _ rfl (World.ownsRow.alloc hrow5 _) ⟨w5.heap.size, 0, none⟩ 1 1 [.slice qa lj.length qcap] rfl rfl ?c1 ?c2 ?c3 ?c4 ?c5 ?_))
      case c1 => exact cell_one_new _ _ _
      case c2 => simp [Value.oneCell']
      case c3 => unfold maxLen; omega
      case c4 => omega
      case c5 => simp; omega
      intro v' w6 hown' hgrow hnil hloc
      obtain ⟨ra', rcap', rfl⟩ := own_slice' hown'
      have hB6 : Below w4.heap.size w4 w6 := (hB5.alloc hB5.size _).grown hgrow (by simp; omega) (fun t e => by have := owns_ge hrow5 t e; omega)
      have hbl : ∀ g, g < w5.heap.size → (Value.slice ra vs.length rcap).ownBlock ≠ some g → w6.heap[g]? = w5.heap[g]? := fun g h1 h2 => (hgrow.block g (by simp; omega) (fun e => h2 e.symm)).trans (Below.block (balloc w5 _) g h1)
      have hs6 : w5.heap.size < w6.heap.size := by have := hgrow.size; simp at this; omega
      have hlo : (Value.slice ra' (vs.length + 1) rcap').ownBlock = (Value.slice ra vs.length rcap).ownBlock ∨ ∀ g, (Value.slice ra' (vs.length + 1) rcap').ownBlock = some g → w5.heap.size ≤ g := by
        rcases hloc with h | h
        · exact .inl h
        · right; intro g hg; rw [h] at hg; simp at hg; omega
      have hls6 := (hls5.keep (r' := .slice ra' (vs.length + 1) rcap') (by omega) (fun g _ h2 h3 => hbl g h2 h3) hlo).snoc (x := .slice qa lj.length qcap) (l := lj) ⟨qa, qcap, qb, qo, rfl, HQ.out.of_eq (hbl qb hq1 (fun e => by have := hown2 _ e; omega)), by omega, hq2, hq3, by omega, fun g hg e => by
        subst e
        rcases hlo with h | h
        · have := hown2 _ (h ▸ hg); omega
        · have := h _ hg; omega⟩
      have hrow6 : w6.ownsRow w4.heap.size 22 1 (.slice ra' (vs.length + 1) rcap') (vs ++ [Value.slice qa lj.length qcap]).length (vs ++ [Value.slice qa lj.length qcap]) := by simpa using hown'
      clear hown' hgrow hloc hlo hbl hrow5 hls5 hB5
      go_wp2
      go_roundw
      case rel => exact ⟨k + 1, _, by omega, by go_num, hrow6, by rw [HST.out]; exact hls6, hB6⟩
      case measure => simp [intOf]; omega
    · have hki : ¬ (k : Int) < (P.length : Int) := by omega
      have hkP : P.take k = P := List.take_of_length_le (by omega)
      rw [hkP] at hls
      obtain ⟨g, rfl⟩ : ∃ g, ra = some ⟨g, 0, none⟩ := by
        rcases hrow.2 with ⟨h1, h2⟩ | ⟨g', cap, cur, h1, _⟩
        · omega
        · injection h1 with h1; exact ⟨g', h1⟩
      have HSO := hide (sort_ok w4.heap.size g rcap vs (P.map fun p => li (lst n p)) wr hrow hls (fun l hl => by
        obtain ⟨p, _, rfl⟩ := List.mem_map.1 hl
        rw [show (li (lst n p)).length = (lst n p).length by simp [li]]
        exact Nat.le_trans (lst_len _ _) hn) (by omega) (by omega))
      clear hkP hrow hls
      go_wp2_with fail
      refine HSO.out.mono ?_
      rintro x w7 ⟨rfl, hb7, ms, hpm, hsr, hsl⟩
      have hB7 := hB4.trans ((hB.trans hb7).mono hB4.size)
      have hR7 := (HR4.out).of_eq ((hB.trans hb7).block _ HR4.out.lt)
      obtain ⟨_, y0, y1, fy0, fy1, s0, s1⟩ := Two.mk' hR7
      have HSL := hide hsl
      have HSR := hide hsr
      have HPM := hide hpm
      have HB7 := hide hB7
      clear hsl hsr hpm hB7 hb7
      go_wp2
      exact bodyPost_ret (v := .tuple #[.slice (some ⟨g, 0, none⟩) vs.length rcap, .agg #[.int .i64 0, .int .i64 0]]) (by simp [results, Tryd.results9, go_sem, y0, y1]) rfl ⟨_, _, _, P, ms, rfl, HI4.out, HPM.out, HSR.out, fun W' h1 h2 => HSL.out W' (fun b h3 h4 => h1 b (Nat.le_trans hB4.size h3) h4) h2, HB7.out⟩
end Go.Proofs.YtmgengplfebmjaaDoor

namespace Go.Proofs.YtmgengplfebmjaaDoor
open Go Go.RowKit

set_option maxRecDepth 100000 in
set_option maxHeartbeats 2000000 in
theorem lists_any (v u : Value) (rs ts : List (List Int)) (w : World) (hv : SlL w v rs) (hu : SlL w u ts) :
    Calls Tryd.prog 16 #[v, u] w fun x w' => x = .returned (.bool (decide (rs = ts))) ∧ Below w.heap.size w w' := by
  obtain ⟨va, vc, vb, vo, rfl, v1, v2, v3, v4, v5⟩ := hv
  obtain ⟨ua, uc, ub, uo, rfl, u1, u2, u3, u4, u5⟩ := hu
  have hm1 : rs.length ≤ 9223372036854775807 := by unfold maxLen at v5; omega
  have hm2 : ts.length ≤ 9223372036854775807 := by unfold maxLen at u5; omega
  have HV := hide v2
  have HU := hide u2
  clear v2 u2 v5 u5
  by_cases hlen : rs.length = ts.length
  · have HLEN := hide hlen
    rw [hlen] at v1 v4 hm1 ⊢
    clear hlen
    go_enter Tryd.func16, Tryd.ntmps16
    go_wp2
    go_loopw [5] (fun i wr => ∃ k : Nat, k ≤ ts.length ∧ i = .int .i64 k ∧ (∀ t, t < k → rs[t]?.getD [] = ts[t]?.getD []) ∧ Below w.heap.size w wr) (fun i _ => ts.length - (intOf i).toNat)
    case atStart => exact ⟨0, Nat.zero_le _, rfl, fun t ht => by omega, Below.refl _ _⟩
    case round =>
      obtain ⟨k, hk, rfl, hno, hB⟩ := hrel
      have HNO := hide hno
      clear hno
      by_cases hlt : k < ts.length
      · obtain rfl := v1 (by omega)
        obtain rfl := u1 (by omega)
        obtain ⟨x, hx, hsx⟩ := HV.out k (by rw [HLEN.out]; exact hlt)
        obtain ⟨y, hy, hsy⟩ := HU.out k (by omega)
        obtain ⟨x1, x2, x3, rfl⟩ := hsx.isSlice
        obtain ⟨y1, y2, y3, rfl⟩ := hsy.isSlice
        have hx := below_cell hB hx
        have hy := below_cell hB hy
        have hki : (k : Int) < (ts.length : Int) := by omega
        have HI := hide (fun W (h : Below wr.heap.size wr W) => ints_any (.slice x1 x2 x3) (.slice y1 y2 y3) (rs[k]?.getD []) (ts[k]?.getD []) W ((hsx.below hB).below h) ((hsy.below hB).below h))
        have hS : ∀ W, Below wr.heap.size wr W → (Below wr.heap.size wr W ∧ W.cell? ⟨vb, vo + k, none⟩ = some (.slice x1 x2 x3) ∧ W.cell? ⟨ub, uo + k, none⟩ = some (.slice y1 y2 y3)) := fun W h => ⟨h, below_cell h hx, below_cell h hy⟩
        have hS0 := hS _ (bdrew (Below.refl _ wr))
        clear hx hy hsx hsy
        by_cases he : rs[k]?.getD [] = ts[k]?.getD []
        · rw [decide_eq_true he] at HI
          have HE := hide he
          clear he
          go_wp2_with fail
          go_region_held3 (fun W => Below wr.heap.size wr W ∧ W.cell? ⟨vb, vo + k, none⟩ = some (.slice x1 x2 x3) ∧ W.cell? ⟨ub, uo + k, none⟩ = some (.slice y1 y2 y3))
            (first | exact hS0 | assumption | exact hS _ (bcat2 (And.left ‹_›) hl1))
            (first | (go_at_call 17; refine (HI.out _ (And.left ‹_›)).mono ?_; rintro e1 U1 ⟨rfl, hl1⟩))
          all_goals (
            have hB9 := And.left ‹Below wr.heap.size wr U1 ∧ _›
            go_wp2
            go_roundw
            case rel => exact ⟨k + 1, by omega, by go_num, fun t ht => by
              by_cases e9 : t = k
              · subst e9; exact HE.out
              · exact HNO.out t (by omega), bcat2 hB hB9⟩
            case measure => simp [intOf]; omega)
        · rw [decide_eq_false he] at HI
          have HD := hide (show decide (rs = ts) = false from decide_eq_false (fun e => he (by rw [e])))
          clear he
          go_wp2_with fail
          go_region_held3 (fun W => Below wr.heap.size wr W ∧ W.cell? ⟨vb, vo + k, none⟩ = some (.slice x1 x2 x3) ∧ W.cell? ⟨ub, uo + k, none⟩ = some (.slice y1 y2 y3))
            (first | exact hS0 | assumption | exact hS _ (bcat2 (And.left ‹_›) hl1))
            (first | (go_at_call 17; refine (HI.out _ (And.left ‹_›)).mono ?_; rintro e1 U1 ⟨rfl, hl1⟩))
          all_goals (
            have hB9 := And.left ‹Below wr.heap.size wr U1 ∧ _›
            go_wp2
            go_ret
            exact ⟨by rw [HD.out]; rfl, bcat2 hB hB9⟩)
      · have HD := hide (show decide (rs = ts) = true from decide_eq_true (List.ext_getElem HLEN.out fun t h1 h2 => by
          have := HNO.out t (by have := HLEN.out; omega)
          rw [List.getElem?_eq_getElem h1, List.getElem?_eq_getElem h2] at this
          exact this))
        go_wp2
        go_ret
        exact ⟨by rw [HD.out]; rfl, hB⟩
  · have hli : ¬ ((rs.length : Nat) : Int) = ((ts.length : Nat) : Int) := by omega
    have HD := hide (show decide (rs = ts) = false from decide_eq_false (fun e => hlen (by rw [e])))
    go_enter Tryd.func16, Tryd.ntmps16
    go_wp2
    go_ret
    exact ⟨by rw [HD.out]; rfl, Below.refl _ _⟩
set_option maxRecDepth 100000 in
set_option maxHeartbeats 8000000 in
theorem lsas_good (k : Nat) (caps : Array Value) (sv : Value) (xs ys : List (List Int)) (w : World) (hs : SlL w sv xs)
    (hcall : ∀ W, Sem.run Tryd.prog (callFunc k caps) W = .ok (.enter k caps) W)
    (hk : ∀ W, Below w.heap.size w W → Calls Tryd.prog k caps W fun x w' => ∃ r, x = .returned r ∧ SlL w' r ys ∧ Below W.heap.size W w') :
    Calls Tryd.prog 30 #[sv, .agg #[.int .i64 0, .int .i64 0], .agg #[.int .i64 0, .int .i64 0], .func (.func k) #[] caps] w fun x w' => x = .returned (.bool (decide (xs = ys))) ∧ Below w.heap.size w w' := by
  have hF1 : Blk ((w.alloc (.cells #[.int .i64 0, .int .i64 0] 27)).alloc (.cells #[.int .i64 0, .int .i64 0] 27)) w.heap.size 27 [.int .i64 0, .int .i64 0] := (blk0 _ _).alloc _
  have hF2 := blk0 (w := w.alloc (.cells #[.int .i64 0, .int .i64 0] 27)) (T := 27) (.int .i64 0) (.int .i64 0)
  rw [World.size_alloc] at hF2
  have hb : Below w.heap.size w ((w.alloc (.cells #[.int .i64 0, .int .i64 0] 27)).alloc (.cells #[.int .i64 0, .int .i64 0] 27)) := (balloc w _).alloc (by simp) _
  obtain ⟨f0, f1, _, _⟩ := hF1.two
  obtain ⟨g0, g1, _, _⟩ := hF2.two
  have HK := hide hk
  clear hk
  go_enter Tryd.func30, Tryd.ntmps30
  go_wp2_with fail
  generalize (w.alloc (.cells #[.int .i64 0, .int .i64 0] 27)).alloc (.cells #[.int .i64 0, .int .i64 0] 27) = w0 at *
  refine (HK.out w0 hb).mono ?_
  rintro x w1 ⟨r, rfl, hr, hb1⟩
  go_wp2_with fail
  refine (lists_any sv r xs ys w1 (hs.below (bcat2 hb hb1)) hr).mono ?_
  rintro x w2 ⟨rfl, hb2⟩
  go_wp2
  go_ret
  exact ⟨rfl, bcat2 (bcat2 hb hb1) hb2⟩
set_option maxRecDepth 100000 in
set_option maxHeartbeats 8000000 in
theorem lsas_nil (k : Nat) (caps : Array Value) (c i : Int) (r : Value) (w : World) (_h0 : 0 < w.heap.size) (hr : SlL w r []) (hc : c ≠ 0) :
    Calls Tryd.prog 30 #[r, .agg #[.int .i64 c, .int .i64 i], .agg #[.int .i64 c, .int .i64 i], .func (.func k) #[] caps] w fun x w' => x = .returned (.bool true) ∧ Below w.heap.size w w' := by
  obtain ⟨ra, rc, _, _, rfl, _, _, _, _, _⟩ := hr
  have hcb : (c != 0) = true := by simpa using hc
  have hF1 : Blk ((w.alloc (.cells #[.int .i64 c, .int .i64 i] 27)).alloc (.cells #[.int .i64 c, .int .i64 i] 27)) w.heap.size 27 [.int .i64 c, .int .i64 i] := (blk0 _ _).alloc _
  have hF2 := blk0 (w := w.alloc (.cells #[.int .i64 c, .int .i64 i] 27)) (T := 27) (.int .i64 c) (.int .i64 i)
  rw [World.size_alloc] at hF2
  have hb : Below w.heap.size w ((w.alloc (.cells #[.int .i64 c, .int .i64 i] 27)).alloc (.cells #[.int .i64 c, .int .i64 i] 27)) := (balloc w _).alloc (by simp) _
  obtain ⟨f0, f1, _, _⟩ := hF1.two
  obtain ⟨g0, g1, _, _⟩ := hF2.two
  show Calls Tryd.prog 30 #[.slice ra 0 rc, .agg #[.int .i64 c, .int .i64 i], .agg #[.int .i64 c, .int .i64 i], .func (.func k) #[] caps] w _
  go_enter Tryd.func30, Tryd.ntmps30
  go_wp2
  go_ret
  exact ⟨rfl, hb⟩
end Go.Proofs.YtmgengplfebmjaaDoor

namespace Go.Proofs.YtmgengplfebmjaaDoor
open Go Go.RowKit

theorem call113c (a : Int) (x y : Value) (W : World) : Sem.run Tryd.prog (callFunc 106 (#[.int .i64 a] ++ #[x, y])) W = .ok (.enter 106 (#[.int .i64 a] ++ #[x, y])) W := by kernel_rfl
set_option maxRecDepth 100000 in
set_option maxHeartbeats 2000000 in
theorem cen1_ok (n : Nat) (v u lv : Value) (zs : List Int) (e a lb gb : Nat) (xs : List Nat) (w : World) (hG : GA w n v e u zs) (ha : a < n) (hl : Boxed w lb 22 lv) (hs : Sl w lv (li xs)) (hx : ∀ x, x ∈ xs → x < n) (hb : Box4 w gb n e v u) :
    Calls Tryd.prog 106 (#[.int .i64 a] ++ #[.pointer (some ⟨lb, 0, none⟩), .pointer (some ⟨gb, 0, none⟩)]) w fun y w' => y = .returned (.bool (xs.all fun x => decide (tm n zs a x = tm n zs x a))) ∧ Below w.heap.size w w' := by
  show Calls Tryd.prog 106 #[.int .i64 a, .pointer (some ⟨lb, 0, none⟩), .pointer (some ⟨gb, 0, none⟩)] w _
  obtain ⟨la, cap, pb, po, rfl, hr, hp, hq3, hq4⟩ := hs
  have hml : xs.length ≤ 9223372036854775807 := by rw [li_len] at hq3; unfold maxLen at hq4; omega
  have hlc := hl.cell
  rw [li_len] at *
  have HX := hide hx
  have HR := hide hr
  have HLL := hide (li_len xs)
  clear hq3 hq4 hx hr
  go_enter Tryd.func106, Tryd.ntmps106
  go_wp2
  clear hlc
  go_loopw [9] (fun i wr => ∃ k : Nat, k ≤ xs.length ∧ i = .int .i64 k ∧ (∀ t, (ht : t < xs.length) → t < k → tm n zs a xs[t] = tm n zs xs[t] a) ∧ Below w.heap.size w wr) (fun i _ => xs.length - (intOf i).toNat)
  case atStart => exact ⟨0, Nat.zero_le _, rfl, fun t _ ht => by omega, Below.refl _ _⟩
  case round =>
    obtain ⟨k, hk, rfl, hno, hB⟩ := hrel
    have HNO := hide hno
    clear hno
    by_cases hlt : k < xs.length
    · have hck := (HR.out.below hB hp).cell k (by rw [HLL.out]; exact hlt)
      rw [li_get hlt] at hck
      obtain rfl := HR.out.at_ (by rw [HLL.out]; omega)
      obtain ⟨x, hxe⟩ : ∃ x, xs[k] = x := ⟨_, rfl⟩
      have hxn : x < n := by rw [← hxe]; exact HX.out _ (List.getElem_mem hlt)
      rw [hxe] at hck
      have HXE := hide hxe
      clear hxe
      have hGr := hG.below hB
      have hbr := hb.below hB
      have HP := hide (fun W y z (h : Below wr.heap.size wr W) (hy : y < n) (hz : z < n) => prd_ok n v u zs e y z W hG.grp.tab (hGr.mul.below h) hy hz)
      have hS : ∀ W, Below wr.heap.size wr W → (Below wr.heap.size wr W ∧ W.cell? ⟨gb, 0, none⟩ = some (.int .i64 n) ∧ W.cell? ⟨gb, 1, none⟩ = some v ∧ W.cell? ⟨gb, 2, none⟩ = some (.int .i64 e) ∧ W.cell? ⟨gb, 3, none⟩ = some u) := fun W h => ⟨h, (hbr.below h).cells⟩
      have hS0 := hS _ (bdrew (Below.refl _ wr))
      by_cases heq : tm n zs a x = tm n zs x a
      · have heqi : ((tm n zs a x : Nat) : Int) = ((tm n zs x a : Nat) : Int) := by rw [heq]
        go_wp2_with fail
        go_region_held3 (fun W => Below wr.heap.size wr W ∧ W.cell? ⟨gb, 0, none⟩ = some (.int .i64 n) ∧ W.cell? ⟨gb, 1, none⟩ = some v ∧ W.cell? ⟨gb, 2, none⟩ = some (.int .i64 e) ∧ W.cell? ⟨gb, 3, none⟩ = some u)
          (first | exact hS0 | assumption | exact hS _ (bcat2 (And.left ‹_›) hl1))
          (first | (go_at_call 99; refine (HP.out _ _ _ (And.left ‹_›) (by assumption) (by assumption)).mono ?_; rintro e1 W1 ⟨rfl, hl1⟩))
        all_goals (
          have hB9 := And.left ‹Below wr.heap.size wr W1 ∧ _›
          go_wp2
          go_roundw
          case rel => exact ⟨k + 1, by omega, by go_num, fun t h1 h2 => by
            by_cases e9 : t = k
            · subst e9; rw [HXE.out]; exact heq
            · exact HNO.out t h1 (by omega), bcat hB hB9 hB.size⟩
          case measure => simp [intOf]; omega)
      · have heqi : ¬ ((tm n zs a x : Nat) : Int) = ((tm n zs x a : Nat) : Int) := by omega
        have HD := hide (show (xs.all fun x => decide (tm n zs a x = tm n zs x a)) = false by
          rw [List.all_eq_false]
          exact ⟨xs[k], List.getElem_mem hlt, by rw [HXE.out]; simpa using heq⟩)
        go_wp2_with fail
        go_region_held3 (fun W => Below wr.heap.size wr W ∧ W.cell? ⟨gb, 0, none⟩ = some (.int .i64 n) ∧ W.cell? ⟨gb, 1, none⟩ = some v ∧ W.cell? ⟨gb, 2, none⟩ = some (.int .i64 e) ∧ W.cell? ⟨gb, 3, none⟩ = some u)
          (first | exact hS0 | assumption | exact hS _ (bcat2 (And.left ‹_›) hl1))
          (first | (go_at_call 99; refine (HP.out _ _ _ (And.left ‹_›) (by assumption) (by assumption)).mono ?_; rintro e1 W1 ⟨rfl, hl1⟩))
        all_goals (
          have hB9 := And.left ‹Below wr.heap.size wr W1 ∧ _›
          go_wp2
          go_ret
          exact ⟨by rw [HD.out]; rfl, bcat hB hB9 hB.size⟩)
    · have HD := hide (show (xs.all fun x => decide (tm n zs a x = tm n zs x a)) = true by
        rw [List.all_eq_true]
        intro z hz
        obtain ⟨t, ht, rfl⟩ := List.mem_iff_getElem.1 hz
        simpa using HNO.out t ht (by omega))
      go_wp2
      go_ret
      exact ⟨by rw [HD.out]; rfl, hB⟩

set_option maxRecDepth 100000 in
set_option maxHeartbeats 2000000 in
theorem central_ok (n : Nat) (v u : Value) (zs : List Int) (e : Nat) (q : Nat → Bool) (w : World) (hG : GA w n v e u zs) (hT : Tab w) :
    Calls Tryd.prog 82 #[.agg #[.int .i64 n, v, .int .i64 e, u], .int .u64 (bs q n)] w fun x w' => x = .returned (.int .u64 (bs (cenq n zs q) n)) ∧ Below w.heap.size w w' := by
  have hB0 : Below w.heap.size w (w.alloc (.cells #[.int .i64 n, v, .int .i64 e, u] 67)) := balloc w _
  have hX0 := Box4.new w n e v u
  obtain ⟨w0, hw0⟩ : ∃ w0, w0 = w.alloc (.cells #[.int .i64 n, v, .int .i64 e, u] 67) := ⟨_, rfl⟩
  rw [← hw0] at hB0 hX0
  go_enter Tryd.func82, Tryd.ntmps82
  go_wp2_with fail
  rw [← hw0]
  clear hw0
  refine (list_ok n q w0 hG.le (hT.below hB0)).mono ?_
  rintro x w1 ⟨r, rfl, hr, hb1⟩
  obtain ⟨ra, rl, rc, rfl⟩ : ∃ a l c, r = .slice a l c := by
    obtain ⟨a, cap, _, _, rfl, _⟩ := hr
    exact ⟨a, _, cap, rfl⟩
  have hb2 := bcat2 hb1 (balloc w1 (.cells #[.slice ra rl rc] 22))
  have hL2 := Boxed.new w1 22 (.slice ra rl rc)
  have hX2 := hX0.below hb2
  have hG2 := hG.below (bcat2 hB0 hb2)
  have hr2 := (hr.below (balloc w1 (.cells #[.slice ra rl rc] 22))).sl
  have hB2 := bcat2 hB0 hb2
  obtain ⟨c0, c1, c2, c3⟩ := hX2.cells
  go_wp2_with fail
  generalize w1.alloc (.cells #[.slice ra rl rc] 22) = w2 at *
  clear c0 c1 c2 c3
  refine (those_ok n 106 v u e #[.pointer (some ⟨w1.heap.size, 0, none⟩), .pointer (some ⟨w.heap.size, 0, none⟩)] (cenq n zs q) w2 hG.le (fun a W => call113c a _ _ W) (fun W a hW ha => cen1_ok n v u (.slice ra rl rc) zs e a w1.heap.size w.heap.size (lst n q) W (hG2.below hW) ha (Boxed.below hL2 hW) (hr2.below hW) (fun x hx => (mem_lst.1 hx).1) (hX2.below hW))).mono ?_
  rintro x w3 ⟨rfl, hb3⟩
  go_wp2
  go_ret
  exact ⟨rfl, bcat2 hB2 hb3⟩

set_option maxRecDepth 100000 in
set_option maxHeartbeats 4000000 in
theorem centre_bad (N : Int) (v : Value) (zs : List Int) (w : World) (hv : Sl w v zs) (hc : (gfault N zs).1 ≠ 0) :
    Calls Tryd.prog 40 #[.agg #[.int .i64 N, v]] w fun x w' => x = .returned (.tuple #[.slice none 0 0, .agg #[.int .i64 (gfault N zs).1, .int .i64 (gfault N zs).2]]) ∧ Below w.heap.size w w' := by
  obtain ⟨w0, BG⟩ := Beg.new w N v
  have hv0 := hv.below BG.bel
  obtain ⟨c0, c1, _, _⟩ := BG.box.two
  have hck := opened_bad N v zs w0 hv0 hc
  obtain ⟨c, i, hci⟩ : ∃ c i, gfault N zs = (c, i) := ⟨_, _, rfl⟩
  rw [hci] at hck hc ⊢
  simp only at hc hck
  have HCK := hide hck
  clear hck hci
  have hcb : (c != 0) = true := by simpa using hc
  rw [BG.eq] at c0 c1
  go_enter Tryd.func40, Tryd.ntmps40
  go_wp2_with fail
  rw [← BG.eq]
  refine HCK.out.mono ?_
  rintro x w1 ⟨rfl, hb1⟩
  clear c0 c1
  obtain ⟨w2, hw2⟩ : ∃ w2, w2 = (w1.alloc (.cells #[.int .i64 0, .slice none 0 0, .int .i64 0, .slice none 0 0] 67)).alloc (.cells #[.int .i64 c, .int .i64 i] 27) := ⟨_, rfl⟩
  have hB1 : Below w0.heap.size w0 w2 := by rw [hw2]; exact bcat2 hb1 ((balloc w1 _).alloc (by simp) _)
  have hF1 : Blk w2 (w1.heap.size + 1) 27 [.int .i64 c, .int .i64 i] := by
    rw [hw2]
    have := blk0 (w := w1.alloc (.cells #[.int .i64 0, .slice none 0 0, .int .i64 0, .slice none 0 0] 67)) (T := 27) (.int .i64 c) (.int .i64 i)
    rwa [World.size_alloc] at this
  have hR1 := blk_below BG.res hB1
  have hBw := bcat BG.bel hB1 BG.bel.size
  obtain ⟨y0, y1, fy0, fy1⟩ := hR1.two
  obtain ⟨t0, t1, _, _⟩ := hF1.two
  rw [hw2] at t0 t1
  go_wp2_with fail
  rw [← hw2]
  rw [← hw2] at t0 t1
  clear hw2
  go_region
  all_goals (
    go_wp2
    obtain ⟨hR6, hB6⟩ := put2 hR1 hBw (by omega) c i
    have hB7 := bdrew hB6
    have hR7 : Blk ((w2.setCell ⟨w.heap.size + 1, 0, none⟩ (.int .i64 c)).setCell ⟨w.heap.size + 1, 1, none⟩ (.int .i64 i)).drew (w.heap.size + 1) 27 [.int .i64 c, .int .i64 i] := hR6
    generalize ((w2.setCell ⟨w.heap.size + 1, 0, none⟩ (.int .i64 c)).setCell ⟨w.heap.size + 1, 1, none⟩ (.int .i64 i)).drew = W at hR7 hB7 ⊢
    obtain ⟨z0, z1, _, _⟩ := hR7.two
    exact bodyPost_ret (v := .tuple #[.slice none 0 0, .agg #[.int .i64 c, .int .i64 i]]) (by simp [results, Tryd.results40, go_sem, z0, z1]) rfl ⟨rfl, hB7⟩)

set_option maxRecDepth 100000 in
set_option maxHeartbeats 4000000 in
theorem centre_good (n e : Nat) (v : Value) (zs : List Int) (w : World) (hv : Sl w v zs) (hg : IsGrp n zs e) (hT : Tab w) :
    Calls Tryd.prog 40 #[.agg #[.int .i64 n, v]] w fun x w' => ∃ r, x = .returned (.tuple #[r, .agg #[.int .i64 0, .int .i64 0]]) ∧ SlF w.heap.size w' r (li (lst n (cenq n zs (fun _ => true)))) ∧ Below w.heap.size w w' := by
  obtain ⟨va, vl, vc, rfl⟩ := hv.isSlice
  obtain ⟨w0, BG⟩ := Beg.new w n (.slice va vl vc)
  have hv0 := hv.below BG.bel
  obtain ⟨c0, c1, _, _⟩ := BG.box.two
  have HCK := hide (opened_good n e (.slice va vl vc) zs w0 hv0 hg)
  have HZ0 := hide (show w.heap.size + 2 ≤ w0.heap.size by rw [BG.eq]; simp)
  rw [BG.eq] at c0 c1
  go_enter Tryd.func40, Tryd.ntmps40
  go_wp2_with fail
  rw [← BG.eq]
  refine HCK.out.mono ?_
  rintro x w1 ⟨iv9, rfl, hSI, hb1⟩
  obtain ⟨ia, il, ic, rfl⟩ := hSI.sl.isSlice
  clear c0 c1 HCK
  obtain ⟨w2, hw2⟩ : ∃ w2, w2 = (w1.alloc (.cells #[.int .i64 n, (.slice va vl vc), .int .i64 e, (.slice ia il ic)] 67)).alloc (.cells #[.int .i64 0, .int .i64 0] 27) := ⟨_, rfl⟩
  have hb2 : Below w1.heap.size w1 w2 := by rw [hw2]; exact (balloc w1 _).alloc (by simp) _
  have hB1 : Below w0.heap.size w0 w2 := bcat2 hb1 hb2
  have hF1 : Blk w2 (w1.heap.size + 1) 27 [.int .i64 0, .int .i64 0] := by
    rw [hw2]
    have := blk0 (w := w1.alloc (.cells #[.int .i64 n, (.slice va vl vc), .int .i64 e, (.slice ia il ic)] 67)) (T := 27) (.int .i64 0) (.int .i64 0)
    rwa [World.size_alloc] at this
  have hH2 : Blk w2 w1.heap.size 67 [.int .i64 n, (.slice va vl vc), .int .i64 e, (.slice ia il ic)] := by
    rw [hw2]; exact (blk4 _ _ _ _).alloc _
  have hBw2 := bcat BG.bel hB1 BG.bel.size
  have hR2 := blk_below BG.res hB1
  have hT2 := hT.below hBw2
  have hGA2 : GA w2 n (.slice va vl vc) e (.slice ia il ic) zs := ⟨hg, hv.below hBw2, (hSI.below hb2).sl⟩
  obtain ⟨t0, t1, _, _⟩ := hF1.two
  obtain ⟨_, h0, h1, h2, h3, _⟩ := Four.mk' hH2
  have hx2 := blk_below BG.box hB1
  have HZ1 := hide (Nat.le_trans HZ0.out hb1.size)
  have HZ2 := hide hb2.size
  rw [hw2] at t0 t1 h0 h1 h2 h3
  go_wp2_with fail
  rw [← hw2]
  rw [← hw2] at t0 t1 h0 h1 h2 h3
  clear hw2
  have hS : ∀ W, Below w2.heap.size w2 W → (Below w2.heap.size w2 W ∧ W.cell? ⟨w1.heap.size, 0, none⟩ = some (.int .i64 n) ∧ W.cell? ⟨w1.heap.size, 1, none⟩ = some (.slice va vl vc) ∧ W.cell? ⟨w1.heap.size, 2, none⟩ = some (.int .i64 e) ∧ W.cell? ⟨w1.heap.size, 3, none⟩ = some (.slice ia il ic) ∧ W.cell? ⟨w.heap.size + 1, 0, none⟩ = some (.int .i64 0) ∧ W.cell? ⟨w.heap.size + 1, 1, none⟩ = some (.int .i64 0) ∧ W.frozen? ⟨w.heap.size + 1, 0, none⟩ = false ∧ W.frozen? ⟨w.heap.size + 1, 1, none⟩ = false ∧ W.setCell ⟨w.heap.size + 1, 0, none⟩ (.int .i64 0) = W ∧ W.setCell ⟨w.heap.size + 1, 1, none⟩ (.int .i64 0) = W) := fun W h => by
    obtain ⟨_, y0, y1, fy0, fy1, s0, s1⟩ := Two.mk' (blk_below hR2 h)
    exact ⟨h, below_cell h h0, below_cell h h1, below_cell h h2, below_cell h h3, y0, y1, fy0, fy1, s0, s1⟩
  have hS0 := hS _ (bdrew (Below.refl _ w2))
  have HA := hide (fun W => all_ok n (.slice va vl vc) (.slice ia il ic) e W hg.tab.le)
  have HC := hide (fun W (h : Below w2.heap.size w2 W) => central_ok n (.slice va vl vc) (.slice ia il ic) zs e (fun _ => true) W (hGA2.below h) (hT2.below h))
  have HL := hide (fun W (h : Below w2.heap.size w2 W) => list_at n w.heap.size (cenq n zs fun _ => true) W hg.tab.le (hT2.below h) (Nat.le_trans hBw2.size h.size))
  clear h0 h1 h2 h3 t0 t1
  generalize bs (cenq n zs fun _ => true) n = C at *
  generalize bs (fun _ => true) n = A at *
  go_region_held3 (fun W => Below w2.heap.size w2 W ∧ W.cell? ⟨w1.heap.size, 0, none⟩ = some (.int .i64 n) ∧ W.cell? ⟨w1.heap.size, 1, none⟩ = some (.slice va vl vc) ∧ W.cell? ⟨w1.heap.size, 2, none⟩ = some (.int .i64 e) ∧ W.cell? ⟨w1.heap.size, 3, none⟩ = some (.slice ia il ic) ∧ W.cell? ⟨w.heap.size + 1, 0, none⟩ = some (.int .i64 0) ∧ W.cell? ⟨w.heap.size + 1, 1, none⟩ = some (.int .i64 0) ∧ W.frozen? ⟨w.heap.size + 1, 0, none⟩ = false ∧ W.frozen? ⟨w.heap.size + 1, 1, none⟩ = false ∧ W.setCell ⟨w.heap.size + 1, 0, none⟩ (.int .i64 0) = W ∧ W.setCell ⟨w.heap.size + 1, 1, none⟩ (.int .i64 0) = W)
    (first | exact hS0 | assumption | exact hS _ (bcat2 (And.left ‹_›) hl1))
    (first
      | (go_at_call 56; refine (HA.out _).mono ?_; rintro e1 W1 ⟨rfl, hl1⟩)
      | (go_at_call 82; refine (HC.out _ (And.left ‹_›)).mono ?_; rintro e2 W2 ⟨rfl, hl1⟩)
      | (go_at_call 50; refine (HL.out _ (And.left ‹_›)).mono ?_; rintro e3 W3 ⟨r, rfl, hrr, hl1⟩))
  all_goals (
    obtain ⟨hB9, _, _, _, _, y0, y1, _⟩ := ‹Below w2.heap.size w2 W3 ∧ _›
    have hBz := bcat hBw2 hB9 hBw2.size
    clear hS hS0
    go_wp2
    exact bodyPost_ret (v := .tuple #[r, .agg #[.int .i64 0, .int .i64 0]]) (by simp [results, Tryd.results40, go_sem, y0, y1]) rfl ⟨_, rfl, hrr, hBz⟩)
set_option maxRecDepth 100000 in
set_option maxHeartbeats 2000000 in
theorem subBegun_any (w : World) (hT : Tab w) :
    Calls Tryd.prog 14 #[] w fun x w' => x = .returned (.bool true) ∧ Below w.heap.size w w' := by
  go_enter Tryd.func14, Tryd.ntmps14
  go_wp2_with fail
  refine (square_ok w).mono ?_
  rintro x w1 ⟨g, rfl, hg, hb1⟩
  have h01 : 0 < w1.heap.size := Nat.lt_of_lt_of_le hT.lt hb1.size
  go_wp2_with fail
  refine (centre_good 8 0 g sqT w1 (row_sl hg h01) sqT_grp (hT.below hb1)).mono ?_
  rintro x w2 ⟨r, rfl, hr, hb2⟩
  rw [sqT_cen] at hr
  have hb3 := balloc w2 (.cells #[.int .i64 0, .int .i64 0] 27)
  have hF3 := blk0 (w := w2) (T := 27) (.int .i64 0) (.int .i64 0)
  obtain ⟨t0, t1, _, _⟩ := hF3.two
  go_wp2_with fail
  have hb4 : Below w2.heap.size w2 ((w2.alloc (.cells #[.int .i64 0, .int .i64 0] 27)).alloc (.cells #[.int .i64 0, .int .i64 2] 3)) := hb3.alloc hb3.size _
  have hL4 : Blk ((w2.alloc (.cells #[.int .i64 0, .int .i64 0] 27)).alloc (.cells #[.int .i64 0, .int .i64 2] 3)) (w2.heap.size + 1) 3 (([0, 2] : List Int).map (Value.int .i64)) := by
    have := blk0 (w := w2.alloc (.cells #[.int .i64 0, .int .i64 0] 27)) (T := 3) (.int .i64 0) (.int .i64 2)
    rwa [World.size_alloc] at this
  have hS4 := Sl.of_blk (n := 2) hL4 rfl (by simp)
  generalize (w2.alloc (.cells #[.int .i64 0, .int .i64 0] 27)).alloc (.cells #[.int .i64 0, .int .i64 2] 3) = w4 at *
  refine (ints_any r _ (li [0, 2]) [0, 2] w4 (hr.sl.below hb4) hS4).mono ?_
  rintro x w5 ⟨rfl, hb5⟩
  rw [show decide (li [0, 2] = ([0, 2] : List Int)) = true from rfl]
  go_wp2
  go_ret
  exact ⟨rfl, bcat2 (bcat2 (bcat2 hb1 hb2) hb4) hb5⟩
end Go.Proofs.YtmgengplfebmjaaDoor

namespace Go.Proofs.YtmgengplfebmjaaDoor
open Go Go.RowKit

section
variable {n e : Nat} {zs : List Int}
theorem srtN_eq {rs ts : List (List Int)} (hp : rs.Perm ts) (ha : srt rs) (hb : srt ts) : rs = ts := by
  have pw : ∀ {l : List (List Int)}, srt l → l.Pairwise (fun a b => ¬ cmpN b a < 0) := fun {l} h => List.pairwise_iff_getElem.2 fun i j hi hj hij => by
    have := h i j hij hj
    rwa [List.getElem?_eq_getElem hi, List.getElem?_eq_getElem hj] at this
  refine List.Perm.eq_of_pairwise (le := fun a b => ¬ cmpN b a < 0) (fun a b _ _ h1 h2 => ?_) (pw ha) (pw hb) hp
  have := cmpN_neg a b
  exact cmpN_zero.1 (by omega)
theorem inv_same {P Q : List (Nat → Bool)} {k : Nat} (g : IsGrp n zs e) (h1 : SInv n zs e P k 0) (hk : P.length ≤ k) (h2 : SInv n zs e Q Q.length 0) : (LL n P).Perm (LL n Q) := by
  refine (List.perm_ext_iff_of_nodup (LL_nodup h1.nd) (LL_nodup h2.nd)).2 fun l => ?_
  constructor
  · intro h
    obtain ⟨p, hp, rfl⟩ := List.mem_map.1 h
    exact LL_mem.2 (SInv.all g h2 (Nat.le_refl _) (h1.sub p hp))
  · intro h
    obtain ⟨p, hp, rfl⟩ := List.mem_map.1 h
    exact LL_mem.2 (SInv.all g h1 hk (h2.sub p hp))
theorem sub_div {p : Nat → Bool} (g : IsGrp n zs e) (h : subT n zs e p = true) : (li (lst n p)).length ∣ n := by
  have S := subT_iff.1 h
  have hF : Fin.Fg (lst n p) (tm n zs) e := Fin.sg_fg (grp_fg g) S
  have := Fin.lagr (grp_fg g) hF (fun x hx => List.mem_range.2 (mem_lst.1 hx).1)
  rw [li_len]
  rwa [List.length_range] at this
theorem whole_sub : subT n zs e (fun _ => true) = true := subT_iff.2 ⟨rfl, fun _ _ _ _ _ _ => rfl⟩
theorem lst_all (n : Nat) : lst n (fun _ => true) = List.range n := List.filter_eq_self.2 fun _ _ => rfl
theorem lst_lt {p : Nat → Bool} {y : Nat} (hy : y < n) (hp : ¬ p y = true) : (li (lst n p)).length < n := by
  rw [li_len]
  have h1 := List.length_filter_lt_length_iff_exists (l := List.range n) (p := p)
  rw [List.length_range] at h1
  exact h1.2 ⟨y, List.mem_range.2 hy, hp⟩
/-- The whole group stands last, and all ahead of it are less. -/
theorem last_all {P : List (Nat → Bool)} {ms : List (List Int)} (g : IsGrp n zs e) (hI : SInv n zs e P P.length 0) (hp : ms.Perm (LL n P)) (hs : srt ms) : ∃ L, ms.length = L + 1 ∧ ∀ i p, i < L → ms[i]? = some (li (lst n p)) → subT n zs e p = true → ∃ y, y < n ∧ ¬ p y = true := by
  have hmem : li (lst n (fun _ => true)) ∈ ms := hp.mem_iff.2 (LL_mem.2 (SInv.all g hI (Nat.le_refl _) whole_sub))
  have hnd : ms.Nodup := hp.nodup_iff.2 (LL_nodup hI.nd)
  obtain ⟨j, hj, hje⟩ := List.mem_iff_getElem.1 hmem
  refine ⟨ms.length - 1, by omega, fun i p hi hip hps => Classical.byContradiction fun hno => ?_⟩
  have hall : ∀ y, y < n → p y = true := fun y hy => Classical.byContradiction fun h9 => hno ⟨y, hy, h9⟩
  have hpe : lst n p = lst n (fun _ => true) := lst_congr hall
  rw [hpe] at hip
  -- ms[i] is the whole; the last is another subgroup, so it is less
  have hl : ms.length - 1 < ms.length := by omega
  obtain ⟨q, hq, hqe⟩ := List.mem_map.1 (hp.mem_iff.1 (List.getElem_mem hl))
  have hne : ms[ms.length - 1] ≠ li (lst n (fun _ => true)) := fun h9 => by
    have hi2 : ms[i]? = some ms[i] := List.getElem?_eq_getElem (by omega)
    rw [hi2] at hip
    injection hip with hip
    exact (List.pairwise_iff_getElem.1 hnd i (ms.length - 1) (by omega) hl (by omega)) (hip.trans h9.symm)
  have hqy : ∃ y, y < n ∧ ¬ q y = true := Classical.byContradiction fun h9 => hne (by
    rw [← hqe]
    show li (lst n q) = _
    rw [lst_congr (q := fun _ => true) (fun a ha => Classical.byContradiction fun h8 => h9 ⟨a, ha, h8⟩)])
  obtain ⟨y, hy, hqy⟩ := hqy
  have h3 := hs i (ms.length - 1) (by omega) hl
  rw [hip, List.getElem?_eq_getElem hl] at h3
  apply h3
  show cmpN ms[ms.length - 1] (li (lst n fun _ => true)) < 0
  rw [← hqe]
  show cmpN (li (lst n q)) _ < 0
  have h4 := lst_lt hy hqy
  have h5 : (li (lst n (fun _ => true))).length = n := by rw [li_len, lst_all, List.length_range]
  have h6 := cmpI_lt.2 (show (((li (lst n q)).length : Nat) : Int) < (((li (lst n (fun _ => true))).length : Nat) : Int) by omega)
  rw [cmpN_eq, if_pos (by omega)]
  exact h6
end
theorem call19 (a : Int) (x y : Value) (W : World) : Sem.run Tryd.prog (callFunc 19 (#[.int .i64 a] ++ #[x, y])) W = .ok (.enter 19 (#[.int .i64 a] ++ #[x, y])) W := by kernel_rfl
theorem cell_keep {X U : World} {x : Value} (h : Below (X.alloc (.cells #[x] 3)).heap.size (X.alloc (.cells #[x] 3)) U) : ∀ (j : Nat) u, ([x] : List Value)[j]? = some u → U.cell? ((⟨X.heap.size, 0, none⟩ : Addr).add j) = some u := fun j u hj => below_cell h (cell_one_new X x 3 j u hj)
set_option maxRecDepth 100000 in
set_option maxHeartbeats 16000000 in
theorem sal1_ok (n e x K rc pb po gb wb L : Nat) (v1 : Option Addr) (v2 v3 : Nat) (zs : List Int) (ms : List (List Int)) (ft : Bool) (w : World) (hv : Sl w (.slice v1 v2 v3) zs) (hg : IsGrp n zs e) (hG : BoxG w gb n (.slice v1 v2 v3)) (hW : Boxed w wb 25 (.slice (some ⟨pb, po, none⟩) K rc)) (hx : x < n) (hKL : K = L + 1) (hK9 : K ≤ 16777216)
    (hms : ∀ j, j < L → ∃ (p : Nat → Bool) (x1 : Option Addr) (x3 : Nat), ms[j]? = some (li (lst n p)) ∧ subT n zs e p = true ∧ w.cell? ⟨pb, po + j, none⟩ = some (.slice x1 (li (lst n p)).length x3) ∧ Sl w (.slice x1 (li (lst n p)).length x3) (li (lst n p)))
    (hno : ∀ j p, j < L → ms[j]? = some (li (lst n p)) → subT n zs e p = true → (∀ z, z < n → Mkd n zs e (fun y => decide (y ∈ lst n p ++ [x])) z) → ft = false)
    (hyes : (∀ j p, j < L → ms[j]? = some (li (lst n p)) → subT n zs e p = true → ∃ z, z < n ∧ ¬ Mkd n zs e (fun y => decide (y ∈ lst n p ++ [x])) z) → ft = true) :
    Calls Tryd.prog 19 (#[.int .i64 x] ++ #[.pointer (some ⟨wb, 0, none⟩), .pointer (some ⟨gb, 0, none⟩)]) w fun y w' => y = .returned (.bool ft) ∧ Below w.heap.size w w' := by
  show Calls Tryd.prog 19 #[.int .i64 x, .pointer (some ⟨wb, 0, none⟩), .pointer (some ⟨gb, 0, none⟩)] w _
  obtain ⟨i0, hi0, hz0, hz1, hz2⟩ := info_parts info3b
  have hn60 := hg.tab.le
  have hKi : (K : Int) - 1 = (L : Int) := by omega
  have hwL : IntKind.i64.wrap (L : Int) = (L : Int) := by rw [IntKind.wrap_i64]; omega
  have k0 := hW.cell
  obtain ⟨g0, g1, _, _⟩ := hG.two
  have HMS := hide hms
  have HNO := hide hno
  have HYE := hide hyes
  have HKL := hide hKL
  clear hms hno hyes hKL
  go_enter Tryd.func19, Tryd.ntmps19
  go_wp2
  go_loopw [5] (fun iv wr => ∃ i : Nat, i ≤ L ∧ iv = .int .i64 i ∧ (∀ j p, j < i → ms[j]? = some (li (lst n p)) → subT n zs e p = true → ∃ z, z < n ∧ ¬ Mkd n zs e (fun y => decide (y ∈ lst n p ++ [x])) z) ∧ Below w.heap.size w wr) (fun iv _ => L - (intOf iv).toNat)
  case atStart => exact ⟨0, Nat.zero_le _, rfl, fun j p h => by omega, Below.refl _ _⟩
  case round =>
    obtain ⟨i, hiL, rfl, hall, hB⟩ := hrel
    have HAL := hide hall
    have k0 := below_cell hB k0
    have g0 := below_cell hB g0
    have g1 := below_cell hB g1
    clear hall
    by_cases hlt : i < L
    · have hii : (i : Int) < (L : Int) := by omega
      have hiK : (i : Int) < (K : Int) := by have := HKL.out; omega
      obtain ⟨p, x1, x3, hpe, hps, cx, hxs⟩ := HMS.out i hlt
      have cx := below_cell hB cx
      have hln := lst_le n p
      have hlp : (li (lst n p)).length = (lst n p).length := li_len _
      obtain ⟨q, hq⟩ := mkd_test n zs e (fun y => decide (y ∈ lst n p ++ [x]))
      have HOW := hide (show ∀ W, Below wr.heap.size wr W → Calls Tryd.prog 21 #[.slice x1 (li (lst n p)).length x3] W fun y W' => ∃ (a : Option Addr) (c : Nat), y = .returned (.slice a (li (lst n p)).length c) ∧ W'.ownsRow wr.heap.size 3 1 (.slice a (li (lst n p)).length c) (li (lst n p)).length ((li (lst n p)).map (Value.int .i64)) ∧ Below W.heap.size W W' from fun W h => by
        refine (own_any (.slice x1 (li (lst n p)).length x3) (li (lst n p)) W (hxs.below (bcat2 hB h)) (by omega)).mono ?_
        rintro y W' ⟨r, rfl, hr, hb⟩
        obtain ⟨a, c, rfl⟩ := own_slice hr
        exact ⟨a, c, rfl, owns_mono hr h.size, hb⟩)
      have HSP := hide (show ∀ W u, Below wr.heap.size wr W → Sl W u (li (lst n p ++ [x])) → Calls Tryd.prog 20 #[.agg #[.int .i64 n, .slice v1 v2 v3], u] W fun y W' => ∃ (s1 : Option Addr) (s3 : Nat), y = .returned (.slice s1 (lst n q).length s3) ∧ Below W.heap.size W W' from fun W u h hu => by
        refine (span_ok n e (.slice v1 v2 v3) u zs (lst n p ++ [x]) q W (hv.below (bcat2 hB h)) hg hu (fun z hz => ?_) (by simp; omega) hq).mono ?_
        · rcases List.mem_append.1 hz with h9 | h9
          · exact (mem_lst.1 h9).1
          · simp at h9; omega
        · rintro y W' ⟨r9, rfl, hr9, hb9⟩
          obtain ⟨a9, cap9, he9⟩ := own_slice hr9
          rw [li_len] at he9
          subst he9
          exact ⟨_, _, rfl, hb9⟩)
      have HUN := hide (show ∀ (W : World) (gg cc : Nat), W.ownsRow wr.heap.size 3 1 (.slice (some ⟨gg, 0, none⟩) ((li (lst n p)).length + 1) cc) ((li (lst n p)).length + 1) ((li (lst n p)).map (Value.int .i64) ++ [.int .i64 (x : Int)]) → Below wr.heap.size wr W → Sl W (.slice (some ⟨gg, 0, none⟩) ((li (lst n p)).length + 1) cc) (li (lst n p ++ [x])) from fun W gg cc hw hb => by
        have hlen : (li (lst n p ++ [x])).length = (li (lst n p)).length + 1 := by simp [li]
        refine Sl.of_own (base := wr.heap.size) ?_ (Nat.lt_of_lt_of_le (Nat.lt_of_lt_of_le (Nat.lt_of_le_of_lt (Nat.zero_le _) hG.lt) hB.size) hb.size)
        rw [hlen]
        have hm : (li (lst n p ++ [x])).map (Value.int .i64) = (li (lst n p)).map (Value.int .i64) ++ [.int .i64 (x : Int)] := by simp [li]
        rw [hm]
        exact hw)
      have HL1 := hide (show (li (lst n p)).length + 1 ≤ maxLen by unfold maxLen; omega)
      have HL2 := hide (show ((li (lst n p)).length + 1) * 8 ≤ 140737488355328 by omega)
      have hS : ∀ W, Below wr.heap.size wr W → ((fun U => Below wr.heap.size wr U ∧ U.cell? ⟨gb, 0, none⟩ = some (.int .i64 n) ∧ U.cell? ⟨gb, 1, none⟩ = some (.slice v1 v2 v3) ∧ U.cell? ⟨wb, 0, none⟩ = some (.slice (some ⟨pb, po, none⟩) K rc) ∧ U.cell? ⟨pb, po + i, none⟩ = some (.slice x1 (li (lst n p)).length x3)) W) := fun W h => ⟨h, below_cell h g0, below_cell h g1, below_cell h k0, below_cell h cx⟩
      have hS0 := hS _ (bdrew (Below.refl _ wr))
      have hqn := lst_len n q
      by_cases hfull : (lst n q).length = n
      · have hft : ft = false := HNO.out i p hlt hpe hps (fun z hz => (hq z hz).1 (by
          have h1 : (lst n q).length = (List.range n).length := by rw [List.length_range]; exact hfull
          exact (List.length_filter_eq_length_iff.1 h1) z (List.mem_range.2 hz)))
        have hfi : (((lst n q).length : Nat) : Int) = (n : Int) := by omega
        clear hq hpe hps hxs hln hlp
        go_wp2_with fail
        clear g0 g1 k0 cx
        refine wp_region_held_drew (S := (fun U => Below wr.heap.size wr U ∧ U.cell? ⟨gb, 0, none⟩ = some (.int .i64 n) ∧ U.cell? ⟨gb, 1, none⟩ = some (.slice v1 v2 v3) ∧ U.cell? ⟨wb, 0, none⟩ = some (.slice (some ⟨pb, po, none⟩) K rc) ∧ U.cell? ⟨pb, po + i, none⟩ = some (.slice x1 (li (lst n p)).length x3))) (by kernel_rfl) hS0 (fun hHeld => ?_)
        have hBc : Below wr.heap.size wr wr.drew := bdrew (Below.refl _ wr)
        refine wpAnyH_take (i := 0) (oi := ({ dst := some 13, op := Go.Op.load 24 (Go.Operand.tmp 2), type := 24, pos := _, after := #[], guard := none } : Oper)) (v := ?_) rfl (by kernel_rfl) (by kernel_rfl) (by kernel_rfl) (fun _ _ _ h => h) (Or.inl ⟨by rfl, ?_⟩) (by assumption) ?_
        rotate_left
        · (intro w hSw; (try dsimp only at hSw); go_simp; try with_reducible rfl)
        simp only [Act.put, List.setIfInBounds_toArray, List.set_cons_zero, List.set_cons_succ]
        refine wpAnyH_take (i := 1) (oi := ({ dst := some 14, op := Go.Op.load 25 (Go.Operand.tmp 1), type := 25, pos := _, after := #[], guard := none } : Oper)) (v := ?_) rfl (by kernel_rfl) (by kernel_rfl) (by kernel_rfl) (fun _ _ _ h => h) (Or.inl ⟨by rfl, ?_⟩) (by assumption) ?_
        rotate_left
        · (intro w hSw; (try dsimp only at hSw); go_simp; try with_reducible rfl)
        simp only [Act.put, List.setIfInBounds_toArray, List.set_cons_zero, List.set_cons_succ]
        refine wpAnyH_take (i := 2) (oi := ({ dst := some 15, op := Go.Op.move (Go.Operand.tmp 5), type := 3, pos := _, after := #[], guard := none } : Oper)) (v := ?_) rfl (by kernel_rfl) (by kernel_rfl) (by kernel_rfl) (fun _ _ _ h => h) (Or.inl ⟨by rfl, ?_⟩) (by assumption) ?_
        rotate_left
        · (intro w hSw; (try dsimp only at hSw); go_simp; try with_reducible rfl)
        simp only [Act.put, List.setIfInBounds_toArray, List.set_cons_zero, List.set_cons_succ]
        refine wpAnyH_take (i := 3) (oi := ({ dst := some 16, op := Go.Op.indexAddr 25 (Go.Operand.tmp 14) (Go.Operand.tmp 15), type := 0, pos := _, after := #[{ on := 1, ground := Go.Ground.data }, { on := 2, ground := Go.Ground.data }], guard := none } : Oper)) (v := ?_) rfl (by kernel_rfl) (by kernel_rfl) (by kernel_rfl) (fun _ _ _ h => h) (Or.inl ⟨by rfl, ?_⟩) (by assumption) ?_
        rotate_left
        · (intro w hSw; (try dsimp only at hSw); go_simp; try with_reducible rfl)
        simp only [Act.put, List.setIfInBounds_toArray, List.set_cons_zero, List.set_cons_succ]
        refine wpAnyH_take (i := 4) (oi := ({ dst := some 17, op := Go.Op.load 22 (Go.Operand.tmp 16), type := 22, pos := _, after := #[{ on := 3, ground := Go.Ground.data }], guard := none } : Oper)) (v := ?_) rfl (by kernel_rfl) (by kernel_rfl) (by kernel_rfl) (fun _ _ _ h => h) (Or.inl ⟨by rfl, ?_⟩) (by assumption) ?_
        rotate_left
        · (intro w hSw; (try dsimp only at hSw); go_simp; try with_reducible rfl)
        simp only [Act.put, List.setIfInBounds_toArray, List.set_cons_zero, List.set_cons_succ]
        refine wpAnyH_take (i := 6) (oi := ({ dst := some 19, op := Go.Op.move (Go.Operand.tmp 0), type := 3, pos := _, after := #[], guard := none } : Oper)) (v := ?_) rfl (by kernel_rfl) (by kernel_rfl) (by kernel_rfl) (fun _ _ _ h => h) (Or.inl ⟨by rfl, ?_⟩) (by assumption) ?_
        rotate_left
        · (intro w hSw; (try dsimp only at hSw); go_simp; try with_reducible rfl)
        simp only [Act.put, List.setIfInBounds_toArray, List.set_cons_zero, List.set_cons_succ]
        refine wpAnyH_take (i := 11) (oi := ({ dst := some 24, op := Go.Op.fieldAddr 24 (Go.Operand.tmp 2) 0, type := 0, pos := _, after := #[], guard := none } : Oper)) (v := ?_) rfl (by kernel_rfl) (by kernel_rfl) (by kernel_rfl) (fun _ _ _ h => h) (Or.inl ⟨by rfl, ?_⟩) (by assumption) ?_
        rotate_left
        · (intro w hSw; (try dsimp only at hSw); go_simp; try with_reducible rfl)
        simp only [Act.put, List.setIfInBounds_toArray, List.set_cons_zero, List.set_cons_succ]
        refine wpAnyH_take (i := 12) (oi := ({ dst := some 25, op := Go.Op.load 3 (Go.Operand.tmp 24), type := 3, pos := _, after := #[{ on := 11, ground := Go.Ground.data }], guard := none } : Oper)) (v := ?_) rfl (by kernel_rfl) (by kernel_rfl) (by kernel_rfl) (fun _ _ _ h => h) (Or.inl ⟨by rfl, ?_⟩) (by assumption) ?_
        rotate_left
        · (intro w hSw; (try dsimp only at hSw); go_simp; try with_reducible rfl)
        simp only [Act.put, List.setIfInBounds_toArray, List.set_cons_zero, List.set_cons_succ]
        refine wpAnyH_ready (rs := [5, 7]) (by kernel_rfl) (by simp) (AllReadyH.cons (o := ({ dst := some 18, op := Go.Op.call { callee := Go.Callee.value (Go.Operand.func 21), args := #[Go.Operand.tmp 17], argTypes := #[22] }, type := 22, pos := _, after := #[{ on := 4, ground := Go.Ground.data }], guard := none } : Oper)) rfl (fun KK hK => ?_) (AllReadyH.cons (o := ({ dst := some 20, op := Go.Op.buildSlice 22 1 #[(0, Go.Operand.tmp 19)], type := 22, pos := _, after := #[{ on := 6, ground := Go.Ground.data }], guard := none } : Oper)) rfl (fun KK hK => ?_) AllReadyH.nil))
        · go_simp
          refine (HOW.out _ hBc).mono ?_
          rintro e1 U1 ⟨o1a, o1c, rfl, hownO, hl1⟩
          try go_wp2_with fail
          have hBc := bcat2 hBc hl1
          refine hK.out _ _ (hS _ hBc) (fun hHeld => ?_)
          clear hK
          try simp only [Act.put, List.setIfInBounds_toArray, List.set_cons_zero, List.set_cons_succ]
          refine wpAnyH_ready (rs := [7]) (by kernel_rfl) (by simp) (AllReadyH.cons (o := ({ dst := some 20, op := Go.Op.buildSlice 22 1 #[(0, Go.Operand.tmp 19)], type := 22, pos := _, after := #[{ on := 6, ground := Go.Ground.data }], guard := none } : Oper)) rfl (fun KK hK => ?_) AllReadyH.nil)
          go_simp
          have hBc := bcat2 hBc (balloc _ (.cells #[.int .i64 (x : Int)] 3))
          refine hK.out _ _ (hS _ hBc) (fun hHeld => ?_)
          clear hK
          try simp only [Act.put, List.setIfInBounds_toArray, List.set_cons_zero, List.set_cons_succ]
          refine wpAnyH_ready (rs := [8]) (by kernel_rfl) (by simp) (AllReadyH.cons (o := ({ dst := some 21, op := Go.Op.call { callee := Go.Callee.builtin Go.Builtin.append, args := #[Go.Operand.tmp 18, Go.Operand.tmp 20], argTypes := #[22, 22] }, type := 22, pos := _, after := #[{ on := 5, ground := Go.Ground.data }, { on := 7, ground := Go.Ground.data }, { on := 5, ground := Go.Ground.chain }], guard := none } : Oper)) rfl (fun KK hK => ?_) AllReadyH.nil)
          refine step_append_lies _ rfl _ _ 22 rfl wr.heap.size 3 i0 (.int .i64 0) 1 8 under22b hi0 hz0 hz1 hz2 rfl (by decide) (.slice o1a (li (lst n p)).length o1c) (li (lst n p)).length _ rfl (World.ownsRow.alloc hownO _) ⟨U1.heap.size, 0, none⟩ 1 1 [.int .i64 (x : Int)] rfl rfl (cell_one_new _ _ _) (by simp [Value.oneCell']) (by decide) HL1.out HL2.out hBc.size _ rfl ?_
          intro gA capA wA hownA hgrowA hlocA hltA
          have hBA : Below wr.heap.size wr wA := hBc.grown hgrowA hBc.size (fun j e => owns_ge hownO j e)
          refine hK.out _ _ (hS _ hBA) (fun hHeld => ?_)
          clear hK
          try simp only [Act.put, List.setIfInBounds_toArray, List.set_cons_zero, List.set_cons_succ]
          refine wpAnyH_ready (rs := [9]) (by kernel_rfl) (by simp) (AllReadyH.cons (o := ({ dst := some 22, op := Go.Op.call { callee := Go.Callee.value (Go.Operand.func 20), args := #[Go.Operand.tmp 13, Go.Operand.tmp 21], argTypes := #[24, 22] }, type := 22, pos := _, after := #[{ on := 0, ground := Go.Ground.data }, { on := 8, ground := Go.Ground.data }, { on := 8, ground := Go.Ground.chain }], guard := none } : Oper)) rfl (fun KK hK => ?_) AllReadyH.nil)
          go_simp
          refine (HSP.out _ _ hBA (HUN.out _ _ _ hownA hBA)).mono ?_
          rintro e2 U2 ⟨s1, s3, rfl, hl2⟩
          try go_wp2_with fail
          have hBU := bcat2 hBA hl2
          refine hK.out _ _ (hS _ hBU) (fun hHeld => ?_)
          clear hK
          try simp only [Act.put, List.setIfInBounds_toArray, List.set_cons_zero, List.set_cons_succ]
          refine wpAnyH_take (i := 10) (oi := ({ dst := some 23, op := Go.Op.call { callee := Go.Callee.builtin Go.Builtin.len, args := #[Go.Operand.tmp 22], argTypes := #[22] }, type := 3, pos := _, after := #[{ on := 9, ground := Go.Ground.data }], guard := none } : Oper)) (v := ?_) rfl (by kernel_rfl) (by kernel_rfl) (by kernel_rfl) (fun _ _ _ h => h) (Or.inl ⟨by rfl, ?_⟩) (by assumption) ?_
          rotate_left
          · (intro w hSw; (try dsimp only at hSw); go_simp; try with_reducible rfl)
          simp only [Act.put, List.setIfInBounds_toArray, List.set_cons_zero, List.set_cons_succ]
          refine wpAnyH_take (i := 13) (oi := ({ dst := some 26, op := Go.Op.binOp Go.BinOp.eql 3 (Go.Operand.tmp 23) (Go.Operand.tmp 25) 3, type := 4, pos := _, after := #[{ on := 10, ground := Go.Ground.data }, { on := 12, ground := Go.Ground.data }], guard := none } : Oper)) (v := ?_) rfl (by kernel_rfl) (by kernel_rfl) (by kernel_rfl) (fun _ _ _ h => h) (Or.inl ⟨by rfl, ?_⟩) (by assumption) ?_
          rotate_left
          · (intro w hSw; (try dsimp only at hSw); go_simp; try with_reducible rfl)
          simp only [Act.put, List.setIfInBounds_toArray, List.set_cons_zero, List.set_cons_succ]
          refine wpAnyH_done (by kernel_rfl) ?_ _
          go_wp2
          go_ret
          exact ⟨by first | rfl | (rw [hft]; rfl), bcat2 hB hBU⟩
        · go_simp
          have hBc := bcat2 hBc (balloc _ (.cells #[.int .i64 (x : Int)] 3))
          refine hK.out _ _ (hS _ hBc) (fun hHeld => ?_)
          clear hK
          try simp only [Act.put, List.setIfInBounds_toArray, List.set_cons_zero, List.set_cons_succ]
          refine wpAnyH_ready (rs := [5]) (by kernel_rfl) (by simp) (AllReadyH.cons (o := ({ dst := some 18, op := Go.Op.call { callee := Go.Callee.value (Go.Operand.func 21), args := #[Go.Operand.tmp 17], argTypes := #[22] }, type := 22, pos := _, after := #[{ on := 4, ground := Go.Ground.data }], guard := none } : Oper)) rfl (fun KK hK => ?_) AllReadyH.nil)
          go_simp
          refine (HOW.out _ hBc).mono ?_
          rintro e1 U1 ⟨o1a, o1c, rfl, hownO, hl1⟩
          try go_wp2_with fail
          have hBc := bcat2 hBc hl1
          refine hK.out _ _ (hS _ hBc) (fun hHeld => ?_)
          clear hK
          try simp only [Act.put, List.setIfInBounds_toArray, List.set_cons_zero, List.set_cons_succ]
          refine wpAnyH_ready (rs := [8]) (by kernel_rfl) (by simp) (AllReadyH.cons (o := ({ dst := some 21, op := Go.Op.call { callee := Go.Callee.builtin Go.Builtin.append, args := #[Go.Operand.tmp 18, Go.Operand.tmp 20], argTypes := #[22, 22] }, type := 22, pos := _, after := #[{ on := 5, ground := Go.Ground.data }, { on := 7, ground := Go.Ground.data }, { on := 5, ground := Go.Ground.chain }], guard := none } : Oper)) rfl (fun KK hK => ?_) AllReadyH.nil)
          refine step_append_lies _ rfl _ _ 22 rfl wr.heap.size 3 i0 (.int .i64 0) 1 8 under22b hi0 hz0 hz1 hz2 rfl (by decide) (.slice o1a (li (lst n p)).length o1c) (li (lst n p)).length _ rfl hownO ⟨wr.heap.size, 0, none⟩ 1 1 [.int .i64 (x : Int)] rfl rfl (cell_keep (X := wr.drew) hl1) (by simp [Value.oneCell']) (by decide) HL1.out HL2.out hBc.size _ rfl ?_
          intro gA capA wA hownA hgrowA hlocA hltA
          have hBA : Below wr.heap.size wr wA := hBc.grown hgrowA hBc.size (fun j e => owns_ge hownO j e)
          refine hK.out _ _ (hS _ hBA) (fun hHeld => ?_)
          clear hK
          try simp only [Act.put, List.setIfInBounds_toArray, List.set_cons_zero, List.set_cons_succ]
          refine wpAnyH_ready (rs := [9]) (by kernel_rfl) (by simp) (AllReadyH.cons (o := ({ dst := some 22, op := Go.Op.call { callee := Go.Callee.value (Go.Operand.func 20), args := #[Go.Operand.tmp 13, Go.Operand.tmp 21], argTypes := #[24, 22] }, type := 22, pos := _, after := #[{ on := 0, ground := Go.Ground.data }, { on := 8, ground := Go.Ground.data }, { on := 8, ground := Go.Ground.chain }], guard := none } : Oper)) rfl (fun KK hK => ?_) AllReadyH.nil)
          go_simp
          refine (HSP.out _ _ hBA (HUN.out _ _ _ hownA hBA)).mono ?_
          rintro e2 U2 ⟨s1, s3, rfl, hl2⟩
          try go_wp2_with fail
          have hBU := bcat2 hBA hl2
          refine hK.out _ _ (hS _ hBU) (fun hHeld => ?_)
          clear hK
          try simp only [Act.put, List.setIfInBounds_toArray, List.set_cons_zero, List.set_cons_succ]
          refine wpAnyH_take (i := 10) (oi := ({ dst := some 23, op := Go.Op.call { callee := Go.Callee.builtin Go.Builtin.len, args := #[Go.Operand.tmp 22], argTypes := #[22] }, type := 3, pos := _, after := #[{ on := 9, ground := Go.Ground.data }], guard := none } : Oper)) (v := ?_) rfl (by kernel_rfl) (by kernel_rfl) (by kernel_rfl) (fun _ _ _ h => h) (Or.inl ⟨by rfl, ?_⟩) (by assumption) ?_
          rotate_left
          · (intro w hSw; (try dsimp only at hSw); go_simp; try with_reducible rfl)
          simp only [Act.put, List.setIfInBounds_toArray, List.set_cons_zero, List.set_cons_succ]
          refine wpAnyH_take (i := 13) (oi := ({ dst := some 26, op := Go.Op.binOp Go.BinOp.eql 3 (Go.Operand.tmp 23) (Go.Operand.tmp 25) 3, type := 4, pos := _, after := #[{ on := 10, ground := Go.Ground.data }, { on := 12, ground := Go.Ground.data }], guard := none } : Oper)) (v := ?_) rfl (by kernel_rfl) (by kernel_rfl) (by kernel_rfl) (fun _ _ _ h => h) (Or.inl ⟨by rfl, ?_⟩) (by assumption) ?_
          rotate_left
          · (intro w hSw; (try dsimp only at hSw); go_simp; try with_reducible rfl)
          simp only [Act.put, List.setIfInBounds_toArray, List.set_cons_zero, List.set_cons_succ]
          refine wpAnyH_done (by kernel_rfl) ?_ _
          go_wp2
          go_ret
          exact ⟨by first | rfl | (rw [hft]; rfl), bcat2 hB hBU⟩
      · have hfi : ¬ (((lst n q).length : Nat) : Int) = (n : Int) := by omega
        have HNX := hide (show ∀ j r, j < i + 1 → ms[j]? = some (li (lst n r)) → subT n zs e r = true → ∃ z, z < n ∧ ¬ Mkd n zs e (fun y => decide (y ∈ lst n r ++ [x])) z from fun j r hj hjr hrs => by
          by_cases e9 : j = i
          · subst e9
            rw [hpe] at hjr
            injection hjr with hjr
            have hjr := li_inj hjr
            rw [← hjr]
            exact Classical.byContradiction fun h9 => hfull (by
              have h8 : ∀ z, z ∈ List.range n → q z = true := fun z hz => (hq z (List.mem_range.1 hz)).2 (Classical.byContradiction fun h7 => h9 ⟨z, List.mem_range.1 hz, h7⟩)
              show ((List.range n).filter q).length = n
              rw [List.filter_eq_self.2 h8, List.length_range])
          · exact HAL.out j r (by omega) hjr hrs)
        clear hq hpe hps hxs hln hlp
        go_wp2_with fail
        clear g0 g1 k0 cx
        refine wp_region_held_drew (S := (fun U => Below wr.heap.size wr U ∧ U.cell? ⟨gb, 0, none⟩ = some (.int .i64 n) ∧ U.cell? ⟨gb, 1, none⟩ = some (.slice v1 v2 v3) ∧ U.cell? ⟨wb, 0, none⟩ = some (.slice (some ⟨pb, po, none⟩) K rc) ∧ U.cell? ⟨pb, po + i, none⟩ = some (.slice x1 (li (lst n p)).length x3))) (by kernel_rfl) hS0 (fun hHeld => ?_)
        have hBc : Below wr.heap.size wr wr.drew := bdrew (Below.refl _ wr)
        refine wpAnyH_take (i := 0) (oi := ({ dst := some 13, op := Go.Op.load 24 (Go.Operand.tmp 2), type := 24, pos := _, after := #[], guard := none } : Oper)) (v := ?_) rfl (by kernel_rfl) (by kernel_rfl) (by kernel_rfl) (fun _ _ _ h => h) (Or.inl ⟨by rfl, ?_⟩) (by assumption) ?_
        rotate_left
        · (intro w hSw; (try dsimp only at hSw); go_simp; try with_reducible rfl)
        simp only [Act.put, List.setIfInBounds_toArray, List.set_cons_zero, List.set_cons_succ]
        refine wpAnyH_take (i := 1) (oi := ({ dst := some 14, op := Go.Op.load 25 (Go.Operand.tmp 1), type := 25, pos := _, after := #[], guard := none } : Oper)) (v := ?_) rfl (by kernel_rfl) (by kernel_rfl) (by kernel_rfl) (fun _ _ _ h => h) (Or.inl ⟨by rfl, ?_⟩) (by assumption) ?_
        rotate_left
        · (intro w hSw; (try dsimp only at hSw); go_simp; try with_reducible rfl)
        simp only [Act.put, List.setIfInBounds_toArray, List.set_cons_zero, List.set_cons_succ]
        refine wpAnyH_take (i := 2) (oi := ({ dst := some 15, op := Go.Op.move (Go.Operand.tmp 5), type := 3, pos := _, after := #[], guard := none } : Oper)) (v := ?_) rfl (by kernel_rfl) (by kernel_rfl) (by kernel_rfl) (fun _ _ _ h => h) (Or.inl ⟨by rfl, ?_⟩) (by assumption) ?_
        rotate_left
        · (intro w hSw; (try dsimp only at hSw); go_simp; try with_reducible rfl)
        simp only [Act.put, List.setIfInBounds_toArray, List.set_cons_zero, List.set_cons_succ]
        refine wpAnyH_take (i := 3) (oi := ({ dst := some 16, op := Go.Op.indexAddr 25 (Go.Operand.tmp 14) (Go.Operand.tmp 15), type := 0, pos := _, after := #[{ on := 1, ground := Go.Ground.data }, { on := 2, ground := Go.Ground.data }], guard := none } : Oper)) (v := ?_) rfl (by kernel_rfl) (by kernel_rfl) (by kernel_rfl) (fun _ _ _ h => h) (Or.inl ⟨by rfl, ?_⟩) (by assumption) ?_
        rotate_left
        · (intro w hSw; (try dsimp only at hSw); go_simp; try with_reducible rfl)
        simp only [Act.put, List.setIfInBounds_toArray, List.set_cons_zero, List.set_cons_succ]
        refine wpAnyH_take (i := 4) (oi := ({ dst := some 17, op := Go.Op.load 22 (Go.Operand.tmp 16), type := 22, pos := _, after := #[{ on := 3, ground := Go.Ground.data }], guard := none } : Oper)) (v := ?_) rfl (by kernel_rfl) (by kernel_rfl) (by kernel_rfl) (fun _ _ _ h => h) (Or.inl ⟨by rfl, ?_⟩) (by assumption) ?_
        rotate_left
        · (intro w hSw; (try dsimp only at hSw); go_simp; try with_reducible rfl)
        simp only [Act.put, List.setIfInBounds_toArray, List.set_cons_zero, List.set_cons_succ]
        refine wpAnyH_take (i := 6) (oi := ({ dst := some 19, op := Go.Op.move (Go.Operand.tmp 0), type := 3, pos := _, after := #[], guard := none } : Oper)) (v := ?_) rfl (by kernel_rfl) (by kernel_rfl) (by kernel_rfl) (fun _ _ _ h => h) (Or.inl ⟨by rfl, ?_⟩) (by assumption) ?_
        rotate_left
        · (intro w hSw; (try dsimp only at hSw); go_simp; try with_reducible rfl)
        simp only [Act.put, List.setIfInBounds_toArray, List.set_cons_zero, List.set_cons_succ]
        refine wpAnyH_take (i := 11) (oi := ({ dst := some 24, op := Go.Op.fieldAddr 24 (Go.Operand.tmp 2) 0, type := 0, pos := _, after := #[], guard := none } : Oper)) (v := ?_) rfl (by kernel_rfl) (by kernel_rfl) (by kernel_rfl) (fun _ _ _ h => h) (Or.inl ⟨by rfl, ?_⟩) (by assumption) ?_
        rotate_left
        · (intro w hSw; (try dsimp only at hSw); go_simp; try with_reducible rfl)
        simp only [Act.put, List.setIfInBounds_toArray, List.set_cons_zero, List.set_cons_succ]
        refine wpAnyH_take (i := 12) (oi := ({ dst := some 25, op := Go.Op.load 3 (Go.Operand.tmp 24), type := 3, pos := _, after := #[{ on := 11, ground := Go.Ground.data }], guard := none } : Oper)) (v := ?_) rfl (by kernel_rfl) (by kernel_rfl) (by kernel_rfl) (fun _ _ _ h => h) (Or.inl ⟨by rfl, ?_⟩) (by assumption) ?_
        rotate_left
        · (intro w hSw; (try dsimp only at hSw); go_simp; try with_reducible rfl)
        simp only [Act.put, List.setIfInBounds_toArray, List.set_cons_zero, List.set_cons_succ]
        refine wpAnyH_ready (rs := [5, 7]) (by kernel_rfl) (by simp) (AllReadyH.cons (o := ({ dst := some 18, op := Go.Op.call { callee := Go.Callee.value (Go.Operand.func 21), args := #[Go.Operand.tmp 17], argTypes := #[22] }, type := 22, pos := _, after := #[{ on := 4, ground := Go.Ground.data }], guard := none } : Oper)) rfl (fun KK hK => ?_) (AllReadyH.cons (o := ({ dst := some 20, op := Go.Op.buildSlice 22 1 #[(0, Go.Operand.tmp 19)], type := 22, pos := _, after := #[{ on := 6, ground := Go.Ground.data }], guard := none } : Oper)) rfl (fun KK hK => ?_) AllReadyH.nil))
        · go_simp
          refine (HOW.out _ hBc).mono ?_
          rintro e1 U1 ⟨o1a, o1c, rfl, hownO, hl1⟩
          try go_wp2_with fail
          have hBc := bcat2 hBc hl1
          refine hK.out _ _ (hS _ hBc) (fun hHeld => ?_)
          clear hK
          try simp only [Act.put, List.setIfInBounds_toArray, List.set_cons_zero, List.set_cons_succ]
          refine wpAnyH_ready (rs := [7]) (by kernel_rfl) (by simp) (AllReadyH.cons (o := ({ dst := some 20, op := Go.Op.buildSlice 22 1 #[(0, Go.Operand.tmp 19)], type := 22, pos := _, after := #[{ on := 6, ground := Go.Ground.data }], guard := none } : Oper)) rfl (fun KK hK => ?_) AllReadyH.nil)
          go_simp
          have hBc := bcat2 hBc (balloc _ (.cells #[.int .i64 (x : Int)] 3))
          refine hK.out _ _ (hS _ hBc) (fun hHeld => ?_)
          clear hK
          try simp only [Act.put, List.setIfInBounds_toArray, List.set_cons_zero, List.set_cons_succ]
          refine wpAnyH_ready (rs := [8]) (by kernel_rfl) (by simp) (AllReadyH.cons (o := ({ dst := some 21, op := Go.Op.call { callee := Go.Callee.builtin Go.Builtin.append, args := #[Go.Operand.tmp 18, Go.Operand.tmp 20], argTypes := #[22, 22] }, type := 22, pos := _, after := #[{ on := 5, ground := Go.Ground.data }, { on := 7, ground := Go.Ground.data }, { on := 5, ground := Go.Ground.chain }], guard := none } : Oper)) rfl (fun KK hK => ?_) AllReadyH.nil)
          refine step_append_lies _ rfl _ _ 22 rfl wr.heap.size 3 i0 (.int .i64 0) 1 8 under22b hi0 hz0 hz1 hz2 rfl (by decide) (.slice o1a (li (lst n p)).length o1c) (li (lst n p)).length _ rfl (World.ownsRow.alloc hownO _) ⟨U1.heap.size, 0, none⟩ 1 1 [.int .i64 (x : Int)] rfl rfl (cell_one_new _ _ _) (by simp [Value.oneCell']) (by decide) HL1.out HL2.out hBc.size _ rfl ?_
          intro gA capA wA hownA hgrowA hlocA hltA
          have hBA : Below wr.heap.size wr wA := hBc.grown hgrowA hBc.size (fun j e => owns_ge hownO j e)
          refine hK.out _ _ (hS _ hBA) (fun hHeld => ?_)
          clear hK
          try simp only [Act.put, List.setIfInBounds_toArray, List.set_cons_zero, List.set_cons_succ]
          refine wpAnyH_ready (rs := [9]) (by kernel_rfl) (by simp) (AllReadyH.cons (o := ({ dst := some 22, op := Go.Op.call { callee := Go.Callee.value (Go.Operand.func 20), args := #[Go.Operand.tmp 13, Go.Operand.tmp 21], argTypes := #[24, 22] }, type := 22, pos := _, after := #[{ on := 0, ground := Go.Ground.data }, { on := 8, ground := Go.Ground.data }, { on := 8, ground := Go.Ground.chain }], guard := none } : Oper)) rfl (fun KK hK => ?_) AllReadyH.nil)
          go_simp
          refine (HSP.out _ _ hBA (HUN.out _ _ _ hownA hBA)).mono ?_
          rintro e2 U2 ⟨s1, s3, rfl, hl2⟩
          try go_wp2_with fail
          have hBU := bcat2 hBA hl2
          refine hK.out _ _ (hS _ hBU) (fun hHeld => ?_)
          clear hK
          try simp only [Act.put, List.setIfInBounds_toArray, List.set_cons_zero, List.set_cons_succ]
          refine wpAnyH_take (i := 10) (oi := ({ dst := some 23, op := Go.Op.call { callee := Go.Callee.builtin Go.Builtin.len, args := #[Go.Operand.tmp 22], argTypes := #[22] }, type := 3, pos := _, after := #[{ on := 9, ground := Go.Ground.data }], guard := none } : Oper)) (v := ?_) rfl (by kernel_rfl) (by kernel_rfl) (by kernel_rfl) (fun _ _ _ h => h) (Or.inl ⟨by rfl, ?_⟩) (by assumption) ?_
          rotate_left
          · (intro w hSw; (try dsimp only at hSw); go_simp; try with_reducible rfl)
          simp only [Act.put, List.setIfInBounds_toArray, List.set_cons_zero, List.set_cons_succ]
          refine wpAnyH_take (i := 13) (oi := ({ dst := some 26, op := Go.Op.binOp Go.BinOp.eql 3 (Go.Operand.tmp 23) (Go.Operand.tmp 25) 3, type := 4, pos := _, after := #[{ on := 10, ground := Go.Ground.data }, { on := 12, ground := Go.Ground.data }], guard := none } : Oper)) (v := ?_) rfl (by kernel_rfl) (by kernel_rfl) (by kernel_rfl) (fun _ _ _ h => h) (Or.inl ⟨by rfl, ?_⟩) (by assumption) ?_
          rotate_left
          · (intro w hSw; (try dsimp only at hSw); go_simp; try with_reducible rfl)
          simp only [Act.put, List.setIfInBounds_toArray, List.set_cons_zero, List.set_cons_succ]
          refine wpAnyH_done (by kernel_rfl) ?_ _
          go_wp2
          go_roundw
          case rel => exact ⟨i + 1, by omega, by go_num, HNX.out, bcat2 hB hBU⟩
          case measure => simp [intOf]; omega
        · go_simp
          have hBc := bcat2 hBc (balloc _ (.cells #[.int .i64 (x : Int)] 3))
          refine hK.out _ _ (hS _ hBc) (fun hHeld => ?_)
          clear hK
          try simp only [Act.put, List.setIfInBounds_toArray, List.set_cons_zero, List.set_cons_succ]
          refine wpAnyH_ready (rs := [5]) (by kernel_rfl) (by simp) (AllReadyH.cons (o := ({ dst := some 18, op := Go.Op.call { callee := Go.Callee.value (Go.Operand.func 21), args := #[Go.Operand.tmp 17], argTypes := #[22] }, type := 22, pos := _, after := #[{ on := 4, ground := Go.Ground.data }], guard := none } : Oper)) rfl (fun KK hK => ?_) AllReadyH.nil)
          go_simp
          refine (HOW.out _ hBc).mono ?_
          rintro e1 U1 ⟨o1a, o1c, rfl, hownO, hl1⟩
          try go_wp2_with fail
          have hBc := bcat2 hBc hl1
          refine hK.out _ _ (hS _ hBc) (fun hHeld => ?_)
          clear hK
          try simp only [Act.put, List.setIfInBounds_toArray, List.set_cons_zero, List.set_cons_succ]
          refine wpAnyH_ready (rs := [8]) (by kernel_rfl) (by simp) (AllReadyH.cons (o := ({ dst := some 21, op := Go.Op.call { callee := Go.Callee.builtin Go.Builtin.append, args := #[Go.Operand.tmp 18, Go.Operand.tmp 20], argTypes := #[22, 22] }, type := 22, pos := _, after := #[{ on := 5, ground := Go.Ground.data }, { on := 7, ground := Go.Ground.data }, { on := 5, ground := Go.Ground.chain }], guard := none } : Oper)) rfl (fun KK hK => ?_) AllReadyH.nil)
          refine step_append_lies _ rfl _ _ 22 rfl wr.heap.size 3 i0 (.int .i64 0) 1 8 under22b hi0 hz0 hz1 hz2 rfl (by decide) (.slice o1a (li (lst n p)).length o1c) (li (lst n p)).length _ rfl hownO ⟨wr.heap.size, 0, none⟩ 1 1 [.int .i64 (x : Int)] rfl rfl (cell_keep (X := wr.drew) hl1) (by simp [Value.oneCell']) (by decide) HL1.out HL2.out hBc.size _ rfl ?_
          intro gA capA wA hownA hgrowA hlocA hltA
          have hBA : Below wr.heap.size wr wA := hBc.grown hgrowA hBc.size (fun j e => owns_ge hownO j e)
          refine hK.out _ _ (hS _ hBA) (fun hHeld => ?_)
          clear hK
          try simp only [Act.put, List.setIfInBounds_toArray, List.set_cons_zero, List.set_cons_succ]
          refine wpAnyH_ready (rs := [9]) (by kernel_rfl) (by simp) (AllReadyH.cons (o := ({ dst := some 22, op := Go.Op.call { callee := Go.Callee.value (Go.Operand.func 20), args := #[Go.Operand.tmp 13, Go.Operand.tmp 21], argTypes := #[24, 22] }, type := 22, pos := _, after := #[{ on := 0, ground := Go.Ground.data }, { on := 8, ground := Go.Ground.data }, { on := 8, ground := Go.Ground.chain }], guard := none } : Oper)) rfl (fun KK hK => ?_) AllReadyH.nil)
          go_simp
          refine (HSP.out _ _ hBA (HUN.out _ _ _ hownA hBA)).mono ?_
          rintro e2 U2 ⟨s1, s3, rfl, hl2⟩
          try go_wp2_with fail
          have hBU := bcat2 hBA hl2
          refine hK.out _ _ (hS _ hBU) (fun hHeld => ?_)
          clear hK
          try simp only [Act.put, List.setIfInBounds_toArray, List.set_cons_zero, List.set_cons_succ]
          refine wpAnyH_take (i := 10) (oi := ({ dst := some 23, op := Go.Op.call { callee := Go.Callee.builtin Go.Builtin.len, args := #[Go.Operand.tmp 22], argTypes := #[22] }, type := 3, pos := _, after := #[{ on := 9, ground := Go.Ground.data }], guard := none } : Oper)) (v := ?_) rfl (by kernel_rfl) (by kernel_rfl) (by kernel_rfl) (fun _ _ _ h => h) (Or.inl ⟨by rfl, ?_⟩) (by assumption) ?_
          rotate_left
          · (intro w hSw; (try dsimp only at hSw); go_simp; try with_reducible rfl)
          simp only [Act.put, List.setIfInBounds_toArray, List.set_cons_zero, List.set_cons_succ]
          refine wpAnyH_take (i := 13) (oi := ({ dst := some 26, op := Go.Op.binOp Go.BinOp.eql 3 (Go.Operand.tmp 23) (Go.Operand.tmp 25) 3, type := 4, pos := _, after := #[{ on := 10, ground := Go.Ground.data }, { on := 12, ground := Go.Ground.data }], guard := none } : Oper)) (v := ?_) rfl (by kernel_rfl) (by kernel_rfl) (by kernel_rfl) (fun _ _ _ h => h) (Or.inl ⟨by rfl, ?_⟩) (by assumption) ?_
          rotate_left
          · (intro w hSw; (try dsimp only at hSw); go_simp; try with_reducible rfl)
          simp only [Act.put, List.setIfInBounds_toArray, List.set_cons_zero, List.set_cons_succ]
          refine wpAnyH_done (by kernel_rfl) ?_ _
          go_wp2
          go_roundw
          case rel => exact ⟨i + 1, by omega, by go_num, HNX.out, bcat2 hB hBU⟩
          case measure => simp [intOf]; omega
    · have hii : ¬ (i : Int) < (L : Int) := by omega
      have hft := HYE.out (fun j p hj => HAL.out j p (by omega))
      go_wp2
      go_ret
      exact ⟨by first | rfl | (rw [hft]; rfl), hB⟩
end Go.Proofs.YtmgengplfebmjaaDoor

namespace Go.Proofs.YtmgengplfebmjaaDoor
open Go Go.RowKit

set_option maxRecDepth 100000 in
set_option maxHeartbeats 8000000 in
theorem sall_bad (N c i : Int) (v1 : Option Addr) (v2 v3 : Nat) (zs : List Int) (w : World) (hT : Tab w) (hc : c ≠ 0)
    (HO : Hid (∀ W, Below w.heap.size w W → Calls Tryd.prog 10 #[.agg #[.int .i64 N, .slice v1 v2 v3]] W fun x W' => ∃ u1 u2 u3, x = .returned (.agg #[.int .i64 N, .slice u1 u2 u3]) ∧ Sl W' (.slice u1 u2 u3) zs ∧ Below W.heap.size W W'))
    (HAL : Hid (∀ W u, Below w.heap.size w W → Sl W u zs → Calls Tryd.prog 9 #[.agg #[.int .i64 N, u]] W fun x W' => x = .returned (.tuple #[.slice none 0 0, .agg #[.int .i64 c, .int .i64 i]]) ∧ Below W.heap.size W W'))
    (HFR : Hid (∀ W u, Below w.heap.size w W → Sl W u zs → Calls Tryd.prog 11 #[.agg #[.int .i64 N, u]] W fun x W' => x = .returned (.tuple #[.slice none 0 0, .agg #[.int .i64 c, .int .i64 i]]) ∧ Below W.heap.size W W'))
    (hway : Hid (∀ W, Below w.heap.size w W → Calls Tryd.prog 12 #[.agg #[.int .i64 N, .slice v1 v2 v3]] W fun x W' => x = .returned (.agg #[.int .i64 c, .int .i64 i]) ∧ Below W.heap.size W W') ∨
      (24 < N ∧ c = 2 ∧ i = 0 ∧ Hid (∀ W, Below w.heap.size w W → Calls Tryd.prog 12 #[.agg #[.int .i64 N, .slice v1 v2 v3]] W fun x W' => x = .returned (.agg #[.int .i64 0, .int .i64 0]) ∧ Below W.heap.size W W'))) :
    Calls Tryd.prog 3 #[.agg #[.int .i64 N, .slice v1 v2 v3]] w fun e w' => e = .returned (.bool true) ∧ Below w.heap.size w w' := by
  have hB0 : Below w.heap.size w (w.alloc (.cells #[.int .i64 N, .slice v1 v2 v3] 24)) := balloc w _
  have hX0 : BoxG (w.alloc (.cells #[.int .i64 N, .slice v1 v2 v3] 24)) w.heap.size N (.slice v1 v2 v3) := blk0 (w := w) (T := 24) _ _
  obtain ⟨w0, hw0⟩ : ∃ w0, w0 = w.alloc (.cells #[.int .i64 N, .slice v1 v2 v3] 24) := ⟨_, rfl⟩
  rw [← hw0] at hB0 hX0
  have hcb : (c != 0) = true := by simpa using hc
  have hcz : (c == 0) = false := by simpa using hc
  go_enter Tryd.func3, Tryd.ntmps3
  go_wp2_with fail
  rw [← hw0]
  clear hw0
  refine (HO.out _ hB0).mono ?_
  rintro x w1 ⟨u1, u2, u3, rfl, hu1, hb1⟩
  have hB1 := bcat2 hB0 hb1
  go_wp2_with fail
  refine (HAL.out _ _ hB1 hu1).mono ?_
  rintro x w2 ⟨rfl, hb2⟩
  have hb2 := bcat2 hb2 (balloc w2 (.cells #[.int .i64 c, .int .i64 i] 27))
  have hF2 := blk0 (w := w2) (T := 27) (.int .i64 c) (.int .i64 i)
  have hB2 := bcat2 hB1 hb2
  have hX2 := blk_below hX0 (bcat2 hb1 hb2)
  obtain ⟨c0, c1, _, _⟩ := hX2.two
  go_wp2_with fail
  clear c0 c1
  generalize w2.alloc (.cells #[.int .i64 c, .int .i64 i] 27) = w3 at *
  refine (HO.out _ hB2).mono ?_
  rintro x w4 ⟨t1, t2, t3, rfl, hu4, hb4⟩
  have hB4 := bcat2 hB2 hb4
  go_wp2_with fail
  refine (HFR.out _ _ hB4 hu4).mono ?_
  rintro x w5 ⟨rfl, hb5⟩
  have hb5 := bcat2 hb5 (balloc w5 (.cells #[.int .i64 c, .int .i64 i] 27))
  have hG5 := blk0 (w := w5) (T := 27) (.int .i64 c) (.int .i64 i)
  have hB5 := bcat2 hB4 hb5
  have hX5 := blk_below hX2 (bcat2 hb4 hb5)
  have hF5 := blk_below hF2 (bcat2 hb4 hb5)
  obtain ⟨c0, c1, _, _⟩ := hX5.two
  go_wp2_with fail
  clear c0 c1
  generalize w5.alloc (.cells #[.int .i64 c, .int .i64 i] 27) = w6 at *
  rcases hway with HGF | ⟨hN, rfl, rfl, HGF⟩
  · refine (HGF.out _ hB5).mono ?_
    rintro x w7 ⟨rfl, hb7⟩
    have hb7 := bcat2 hb7 (balloc w7 (.cells #[.int .i64 c, .int .i64 i] 27))
    have hW7 := blk0 (w := w7) (T := 27) (.int .i64 c) (.int .i64 i)
    have hB7 := bcat2 hB5 hb7
    have hF7 := blk_below hF5 hb7
    have hG7 := blk_below hG5 hb7
    obtain ⟨h0, h1, _, _⟩ := hW7.two
    go_wp2_with fail
    clear h0 h1
    generalize w7.alloc (.cells #[.int .i64 c, .int .i64 i] 27) = w8 at *
    refine (subBegun_any _ (hT.below hB7)).mono ?_
    rintro x w9 ⟨rfl, hb9⟩
    obtain ⟨f0, f1, _, _⟩ := (blk_below hF7 hb9).two
    obtain ⟨g0, g1, _, _⟩ := (blk_below hG7 hb9).two
    obtain ⟨h0, h1, _, _⟩ := (blk_below hW7 hb9).two
    go_wp2
    go_ret
    exact ⟨rfl, bcat2 hB7 hb9⟩
  · refine (HGF.out _ hB5).mono ?_
    rintro x w7 ⟨rfl, hb7⟩
    have HS7 := hide hb7.size
    have hb7 := bcat2 hb7 (balloc w7 (.cells #[.int .i64 0, .int .i64 0] 27))
    have hW7 := blk0 (w := w7) (T := 27) (.int .i64 0) (.int .i64 0)
    have hB7 := bcat2 hB5 hb7
    have hF7 := blk_below hF5 hb7
    have hG7 := blk_below hG5 hb7
    have hX7 := blk_below hX5 hb7
    obtain ⟨h0, h1, fh0, fh1⟩ := hW7.two
    obtain ⟨c0, c1, _, _⟩ := hX7.two
    have hn1 : w2.heap.size ≠ w7.heap.size := by have := hF5.lt; have := HS7.out; omega
    have hn2 : w5.heap.size ≠ w7.heap.size := by have := hG5.lt; have := HS7.out; omega
    have hwn : w.heap.size ≤ w7.heap.size := Nat.le_trans hB5.size HS7.out
    go_wp2_with fail
    clear h0 h1 fh0 fh1 c0 c1
    generalize w7.alloc (.cells #[.int .i64 0, .int .i64 0] 27) = w8 at *
    refine (f_any 2 0 _).mono ?_
    rintro x wB ⟨rfl, hbB⟩
    have hWB := blk_below hW7 hbB
    obtain ⟨hR, hB8⟩ := put2 hWB (bcat2 hB7 hbB) hwn 2 0
    obtain ⟨h0, h1, fh0, fh1⟩ := hWB.two
    have hFB : Blk ((wB.setCell ⟨w7.heap.size, 0, none⟩ (.int .i64 2)).setCell ⟨w7.heap.size, 1, none⟩ (.int .i64 0)) w2.heap.size 27 [.int .i64 2, .int .i64 0] := ((blk_below hF7 hbB).other (p := ⟨w7.heap.size, 0, none⟩) hn1 _).other (p := ⟨w7.heap.size, 1, none⟩) hn1 _
    have hGB : Blk ((wB.setCell ⟨w7.heap.size, 0, none⟩ (.int .i64 2)).setCell ⟨w7.heap.size, 1, none⟩ (.int .i64 0)) w5.heap.size 27 [.int .i64 2, .int .i64 0] := ((blk_below hG7 hbB).other (p := ⟨w7.heap.size, 0, none⟩) hn2 _).other (p := ⟨w7.heap.size, 1, none⟩) hn2 _
    go_wp2_with fail
    clear h0 h1 fh0 fh1
    generalize (wB.setCell ⟨w7.heap.size, 0, none⟩ (.int .i64 2)).setCell ⟨w7.heap.size, 1, none⟩ (.int .i64 0) = wC at *
    refine (subBegun_any _ (hT.below hB8)).mono ?_
    rintro x w9 ⟨rfl, hb9⟩
    obtain ⟨f0, f1, _, _⟩ := (blk_below hFB hb9).two
    obtain ⟨g0, g1, _, _⟩ := (blk_below hGB hb9).two
    obtain ⟨h0, h1, _, _⟩ := (blk_below hR hb9).two
    go_wp2
    go_ret
    exact ⟨rfl, bcat2 hB8 hb9⟩
set_option maxRecDepth 100000 in
set_option maxHeartbeats 8000000 in
theorem sall_good (n : Nat) (PR : List (List Int) → Prop) (ft : Nat → Bool) (v1 : Option Addr) (v2 v3 : Nat) (zs : List Int) (w : World) (hT : Tab w) (h24 : n ≤ 24) (hPR : ∀ ms, PR ms → ms.length ≤ 16777216 ∧ 0 < ms.length ∧ ∀ l, l ∈ ms → l.length ∣ n ∧ 0 < l.length) (huq : ∀ ms ns, PR ms → PR ns → ms = ns)
    (HO : Hid (∀ W, Below w.heap.size w W → Calls Tryd.prog 10 #[.agg #[.int .i64 n, .slice v1 v2 v3]] W fun x W' => ∃ u1 u2 u3, x = .returned (.agg #[.int .i64 n, .slice u1 u2 u3]) ∧ Sl W' (.slice u1 u2 u3) zs ∧ Below W.heap.size W W'))
    (HAL : Hid (∀ W u, Below w.heap.size w W → Sl W u zs → Calls Tryd.prog 9 #[.agg #[.int .i64 n, u]] W fun x W' => ∃ (r1 : Option Addr) (r3 : Nat) (ms : List (List Int)), PR ms ∧ x = .returned (.tuple #[.slice r1 ms.length r3, .agg #[.int .i64 0, .int .i64 0]]) ∧ SlL W' (.slice r1 ms.length r3) ms ∧ Below W.heap.size W W'))
    (HFR : Hid (∀ W u, Below w.heap.size w W → Sl W u zs → Calls Tryd.prog 11 #[.agg #[.int .i64 n, u]] W fun x W' => ∃ (r1 : Option Addr) (r2 r3 : Nat), x = .returned (.tuple #[.slice r1 r2 r3, .agg #[.int .i64 0, .int .i64 0]]) ∧ Sl W' (.slice r1 r2 r3) (li (lst n ft)) ∧ Below W.heap.size W W'))
    (HGF : Hid (∀ W, Below w.heap.size w W → Calls Tryd.prog 12 #[.agg #[.int .i64 n, .slice v1 v2 v3]] W fun x W' => x = .returned (.agg #[.int .i64 0, .int .i64 0]) ∧ Below W.heap.size W W'))
    (HSB : Hid (∀ W, Below w.heap.size w W → Calls Tryd.prog 15 #[.agg #[.int .i64 n, .slice v1 v2 v3]] W fun x W' => ∃ (r1 : Option Addr) (r3 : Nat) (ms : List (List Int)), PR ms ∧ x = .returned (.slice r1 ms.length r3) ∧ SlL W' (.slice r1 ms.length r3) ms ∧ Below W.heap.size W W'))
    (HTH : Hid (∀ ms W wb pb po rc, PR ms → Below w.heap.size w W → BoxG W w.heap.size n (.slice v1 v2 v3) → Boxed W wb 25 (.slice (some ⟨pb, po, none⟩) ms.length rc) → SlL W (.slice (some ⟨pb, po, none⟩) ms.length rc) ms → Calls Tryd.prog 18 #[.agg #[.int .i64 n, .slice v1 v2 v3], .func (.func 19) #[] #[.pointer (some ⟨wb, 0, none⟩), .pointer (some ⟨w.heap.size, 0, none⟩)]] W fun x W' => ∃ (r1 : Option Addr) (r2 r3 : Nat), x = .returned (.slice r1 r2 r3) ∧ Sl W' (.slice r1 r2 r3) (li (lst n ft)) ∧ Below W.heap.size W W')) :
    Calls Tryd.prog 3 #[.agg #[.int .i64 n, .slice v1 v2 v3]] w fun e w' => e = .returned (.bool true) ∧ Below w.heap.size w w' := by
  have hni : ¬ (24 : Int) < (n : Int) := by omega
  have hB0 : Below w.heap.size w (w.alloc (.cells #[.int .i64 n, .slice v1 v2 v3] 24)) := balloc w _
  have hX0 : BoxG (w.alloc (.cells #[.int .i64 n, .slice v1 v2 v3] 24)) w.heap.size n (.slice v1 v2 v3) := blk0 (w := w) (T := 24) _ _
  obtain ⟨w0, hw0⟩ : ∃ w0, w0 = w.alloc (.cells #[.int .i64 n, .slice v1 v2 v3] 24) := ⟨_, rfl⟩
  rw [← hw0] at hB0 hX0
  go_enter Tryd.func3, Tryd.ntmps3
  go_wp2_with fail
  rw [← hw0]
  clear hw0
  refine (HO.out _ hB0).mono ?_
  rintro x w1 ⟨u1, u2, u3, rfl, hu1, hb1⟩
  have hB1 := bcat2 hB0 hb1
  go_wp2_with fail
  refine (HAL.out _ _ hB1 hu1).mono ?_
  rintro x w2 ⟨l1, l3, ms, hms, rfl, hsl2, hb2⟩
  obtain ⟨hm9, hm0, hdv⟩ := hPR ms hms
  have HMS := hide hms
  have HUQ := hide huq
  clear hms huq hPR
  have hb2 := bcat2 hb2 (balloc w2 (.cells #[.int .i64 0, .int .i64 0] 27))
  have hsl3 := hsl2.below (balloc w2 (.cells #[.int .i64 0, .int .i64 0] 27))
  have hF2 := blk0 (w := w2) (T := 27) (.int .i64 0) (.int .i64 0)
  have hB2 := bcat2 hB1 hb2
  have hX2 := blk_below hX0 (bcat2 hb1 hb2)
  obtain ⟨c0, c1, _, _⟩ := hX2.two
  go_wp2_with fail
  clear c0 c1 hsl2
  generalize w2.alloc (.cells #[.int .i64 0, .int .i64 0] 27) = w3 at *
  refine (HO.out _ hB2).mono ?_
  rintro x w4 ⟨t1, t2, t3, rfl, hu4, hb4⟩
  have hB4 := bcat2 hB2 hb4
  go_wp2_with fail
  refine (HFR.out _ _ hB4 hu4).mono ?_
  rintro x w5 ⟨p1, p2, p3, rfl, hps, hb5⟩
  have hb5 := bcat2 hb5 (balloc w5 (.cells #[.int .i64 0, .int .i64 0] 27))
  have hps := hps.below (balloc w5 (.cells #[.int .i64 0, .int .i64 0] 27))
  have hG5 := blk0 (w := w5) (T := 27) (.int .i64 0) (.int .i64 0)
  have hB5 := bcat2 hB4 hb5
  have hX5 := blk_below hX2 (bcat2 hb4 hb5)
  have hF5 := blk_below hF2 (bcat2 hb4 hb5)
  have hsl5 := hsl3.below (bcat2 hb4 hb5)
  obtain ⟨c0, c1, _, _⟩ := hX5.two
  go_wp2_with fail
  clear c0 c1
  generalize w5.alloc (.cells #[.int .i64 0, .int .i64 0] 27) = w6 at *
  refine (HGF.out _ hB5).mono ?_
  rintro x w7 ⟨rfl, hb7⟩
  have hb7 := bcat2 hb7 (balloc w7 (.cells #[.int .i64 0, .int .i64 0] 27))
  have hW7 := blk0 (w := w7) (T := 27) (.int .i64 0) (.int .i64 0)
  have hB7 := bcat2 hB5 hb7
  have hF7 := blk_below hF5 hb7
  have hG7 := blk_below hG5 hb7
  have hX7 := blk_below hX5 hb7
  have hsl7 := hsl5.below hb7
  have hps7 := hps.below hb7
  obtain ⟨h0, h1, _, _⟩ := hW7.two
  obtain ⟨c0, c1, _, _⟩ := hX7.two
  go_wp2_with fail
  clear h0 h1 c0 c1
  generalize w7.alloc (.cells #[.int .i64 0, .int .i64 0] 27) = w8 at *
  refine (subBegun_any _ (hT.below hB7)).mono ?_
  rintro x w9 ⟨rfl, hb9⟩
  have hB9 := bcat2 hB7 hb9
  have hX9 := blk_below hX7 hb9
  obtain ⟨f0, f1, _, _⟩ := (blk_below hF7 hb9).two
  obtain ⟨g0, g1, _, _⟩ := (blk_below hG7 hb9).two
  obtain ⟨h0, h1, _, _⟩ := (blk_below hW7 hb9).two
  obtain ⟨c0, c1, _, _⟩ := hX9.two
  go_wp2_with fail
  clear f0 f1 g0 g1 h0 h1 c0 c1
  refine (HSB.out _ hB9).mono ?_
  rintro x wA ⟨q1, q3, ns, hns, rfl, hqs, hbA⟩
  obtain rfl := HUQ.out ms ns HMS.out hns
  clear hns
  have hbA := bcat2 hbA (balloc wA (.cells #[.slice q1 ms.length q3] 25))
  have hqs := hqs.below (balloc wA (.cells #[.slice q1 ms.length q3] 25))
  have hNA := Boxed.new wA 25 (.slice q1 ms.length q3)
  have hBA := bcat2 hB9 hbA
  have hXA := blk_below hX9 hbA
  have hslA := hsl7.below (bcat2 hb9 hbA)
  have hpsA := hps7.below (bcat2 hb9 hbA)
  have k0 := hNA.cell
  have HLS := hide (lists_any (.slice l1 ms.length l3) (.slice q1 ms.length q3) ms ms _ hslA hqs)
  go_wp2_with fail
  clear k0
  generalize wA.alloc (.cells #[.slice q1 ms.length q3] 25) = wB at *
  refine HLS.out.mono ?_
  rintro x wC ⟨rfl, hbC⟩
  have hBC := bcat2 hBA hbC
  have hXC := blk_below hXA hbC
  have hNC := Boxed.below hNA hbC
  have hqC := hqs.below hbC
  have hlC := hslA.below hbC
  have hpC := hpsA.below hbC
  clear HO HAL HFR HGF HSB HLS hb1 hb2 hb4 hb5 hb7 hb9 hbA hbC hB0 hB1 hB2 hB4 hB5 hB7 hB9 hBA hX0 hX2 hX5 hX7 hX9 hXA hF2 hF5 hF7 hG5 hG7 hW7 hsl3 hsl5 hsl7 hslA hps hps7 hpsA hqs hNA hu1 hu4
  obtain ⟨qa, qcap, qpb, qpo, hqv, hqat, _, _, _, _⟩ := id hqC
  injection hqv with e1 e2 e3
  subst e1 e3
  obtain rfl := hqat hm0
  obtain ⟨la, lcap, lpb, lpo, hlv, hlat, hlc, hlp, hl4, hl5⟩ := hlC
  injection hlv with e1 e2 e3
  subst e1 e3
  obtain rfl := hlat hm0
  have HLC := hide (show ∀ j (hj : j < ms.length), ∃ (x1 : Option Addr) (x3 d : Nat), wC.cell? ⟨lpb, lpo + j, none⟩ = some (.slice x1 d x3) ∧ d ∣ n ∧ 0 < d from fun j hj => by
    obtain ⟨x, hx1, hx2⟩ := hlc j hj
    rw [List.getElem?_eq_getElem hj, Option.getD_some] at hx2
    obtain ⟨xa, xc, _, _, rfl, _⟩ := id hx2
    exact ⟨xa, xc, _, hx1, hdv _ (List.getElem_mem hj)⟩)
  clear hlc hl4 hl5 hlat hqat e2 hdv
  go_wp2
  go_loopw [9] (fun iv wr => ∃ k : Nat, k ≤ ms.length ∧ iv = .int .i64 k ∧ Below wC.heap.size wC wr) (fun iv _ => ms.length - (intOf iv).toNat)
  case atStart => exact ⟨0, Nat.zero_le _, rfl, Below.refl _ _⟩
  case round =>
    obtain ⟨k, hk, rfl, hBk⟩ := hrel
    obtain ⟨c0, c1, _, _⟩ := (blk_below hXC hBk).two
    by_cases hlt : k < ms.length
    · have hki : (k : Int) < (ms.length : Int) := by omega
      obtain ⟨x1, x3, d, cx, hdn, hd0⟩ := HLC.out k hlt
      have cx := below_cell hBk cx
      have hd1 : ¬ d = 0 := by omega
      have hd2 : ¬ (d : Int) = 0 := by omega
      have hrm : (n : Int).tmod (d : Int) = 0 := by
        have h9 := tmod_nat (x := (n : Int)) (y := n) d rfl
        rw [h9, Nat.mod_eq_zero_of_dvd hdn]; rfl
      go_wp2_with fail
      go_quiet (fail)
      have hBq : Below wC.heap.size wC (wr.drewN nq) := bdrewN hBk nq
      generalize wr.drewN nq = wq at hBq ⊢
      go_wp2
      go_roundw
      case rel => exact ⟨k + 1, by omega, by go_num, hBq⟩
      case measure => simp [intOf]; omega
    · have hki : ¬ (k : Int) < (ms.length : Int) := by omega
      have HT9 := hide (HTH.out _ wr wA.heap.size qpb qpo q3 HMS.out (bcat2 hBC hBk) (blk_below hXC hBk) (Boxed.below hNC hBk) (hqC.below hBk))
      have hpr := hpC.below hBk
      go_wp2_with fail
      clear c0 c1
      refine HT9.out.mono ?_
      rintro x wD ⟨r1, r2, r3, rfl, hrs, hbD⟩
      have HIN := hide (ints_any (.slice p1 p2 p3) (.slice r1 r2 r3) _ _ wD (hpr.below hbD) hrs)
      go_wp2_with fail
      refine HIN.out.mono ?_
      rintro x wE ⟨rfl, hbE⟩
      go_wp2
      go_ret
      exact ⟨by first | rfl | simp, bcat2 (bcat2 hBC hBk) (bcat2 hbD hbE)⟩
end Go.Proofs.YtmgengplfebmjaaDoor

namespace Go.Proofs.YtmgengplfebmjaaDoor
open Go Go.RowKit

def AllR (n : Nat) (zs : List Int) (e : Nat) (ms : List (List Int)) : Prop := ∃ P, SInv n zs e P P.length 0 ∧ ms.Perm (LL n P) ∧ srt ms
theorem inv_cut {n e k : Nat} {zs : List Int} {P : List (Nat → Bool)} (h : SInv n zs e P k 0) (hk : P.length ≤ k) : SInv n zs e P P.length 0 := ⟨h.sub, h.nd, h.one, fun i q h1 b hb h2 => h.cl i q h1 b hb (.inl (by omega))⟩
theorem allR_same {n e : Nat} {zs : List Int} (g : IsGrp n zs e) {ms ns : List (List Int)} (h1 : AllR n zs e ms) (h2 : AllR n zs e ns) : ms = ns := by
  obtain ⟨P, hP, p1, s1⟩ := h1
  obtain ⟨Q, hQ, p2, s2⟩ := h2
  exact srtN_eq ((p1.trans (inv_same g hP (Nat.le_refl _) hQ)).trans p2.symm) s1 s2
theorem allR_each {n e : Nat} {zs : List Int} {ms : List (List Int)} (h : AllR n zs e ms) {l : List Int} (hl : l ∈ ms) : ∃ p, l = li (lst n p) ∧ subT n zs e p = true := by
  obtain ⟨P, hP, p1, _⟩ := h
  obtain ⟨p, hp, rfl⟩ := List.mem_map.1 (p1.mem_iff.1 hl)
  exact ⟨p, rfl, hP.sub p hp⟩
theorem allR_has {n e : Nat} {zs : List Int} (g : IsGrp n zs e) {ms : List (List Int)} (h : AllR n zs e ms) {p : Nat → Bool} (hp : subT n zs e p = true) : li (lst n p) ∈ ms := by
  obtain ⟨P, hP, p1, _⟩ := h
  exact p1.mem_iff.2 (LL_mem.2 (SInv.all g hP (Nat.le_refl _) hp))
theorem allR_pr {n e : Nat} {zs : List Int} (g : IsGrp n zs e) (h24 : n ≤ 24) {ms : List (List Int)} (h : AllR n zs e ms) : ms.length ≤ 16777216 ∧ 0 < ms.length ∧ ∀ l, l ∈ ms → l.length ∣ n ∧ 0 < l.length := by
  refine ⟨?_, List.length_pos_of_mem (allR_has g h whole_sub), fun l hl => ?_⟩
  · obtain ⟨P, hP, p1, _⟩ := h
    rw [p1.length_eq, LL_len]
    exact bits_fit hP.nd h24
  · obtain ⟨p, rfl, hp⟩ := allR_each h hl
    exact ⟨sub_div g hp, lst_pos g hp⟩
theorem gen_mkd {n e x z : Nat} {zs : List Int} {p : Nat → Bool} : Mkd n zs e (fun y => decide (y ∈ lst n p ++ [x])) z ↔ Fin.Gen (List.range n) (tm n zs) e (fun a => p a = true ∨ a = x) z := by
  constructor
  · refine Fin.Gen.mono fun y hy h => ?_
    rcases List.mem_append.1 (of_decide_eq_true h) with h9 | h9
    · exact .inl (mem_lst.1 h9).2
    · exact .inr (List.mem_singleton.1 h9)
  · refine Fin.Gen.mono fun y hy h => decide_eq_true ?_
    rcases h with h9 | h9
    · exact List.mem_append_left _ (mem_lst.2 ⟨List.mem_range.1 hy, h9⟩)
    · exact List.mem_append_right _ (List.mem_singleton.2 h9)
set_option maxHeartbeats 2000000 in
theorem sall_th (n e : Nat) (ft : Nat → Bool) (v1 : Option Addr) (v2 v3 gb : Nat) (zs : List Int) (w : World) (hv : Sl w (.slice v1 v2 v3) zs) (hg : IsGrp n zs e) (h24 : n ≤ 24) (hft : ∀ a, ft a = true ↔ Fin.Frat (List.range n) (tm n zs) e a)
    (ms : List (List Int)) (wb pb po rc : Nat) (hms : AllR n zs e ms) (hG : BoxG w gb n (.slice v1 v2 v3)) (hW : Boxed w wb 25 (.slice (some ⟨pb, po, none⟩) ms.length rc)) (hL : SlL w (.slice (some ⟨pb, po, none⟩) ms.length rc) ms) :
    Calls Tryd.prog 18 #[.agg #[.int .i64 n, .slice v1 v2 v3], .func (.func 19) #[] #[.pointer (some ⟨wb, 0, none⟩), .pointer (some ⟨gb, 0, none⟩)]] w fun x w' => ∃ (r1 : Option Addr) (r2 r3 : Nat), x = .returned (.slice r1 r2 r3) ∧ Sl w' (.slice r1 r2 r3) (li (lst n ft)) ∧ Below w.heap.size w w' := by
  obtain ⟨hm9, hm0, _⟩ := allR_pr hg h24 hms
  obtain ⟨L, hlen, hlast⟩ : ∃ L, ms.length = L + 1 ∧ ∀ i p, i < L → ms[i]? = some (li (lst n p)) → subT n zs e p = true → ∃ y, y < n ∧ ¬ p y = true := by
    obtain ⟨P, hP, p1, s1⟩ := id hms
    exact last_all hg hP p1 s1
  obtain ⟨la, lcap, lpb, lpo, hlv, hlat, hlc, _, _, _⟩ := hL
  injection hlv with e1 _ e3
  subst e3
  have e4 := hlat hm0
  rw [← e1] at e4
  injection e4 with e4
  injection e4 with e5 e6
  subst e5 e6
  refine (rthose_ok n 19 (.slice v1 v2 v3) _ ft w (by omega) (fun a W => call19 a _ _ W) (fun W a hWb ha => sal1_ok n e a ms.length rc pb po gb wb L v1 v2 v3 zs ms (ft a) W (hv.below hWb) hg (blk_below hG hWb) (Boxed.below hW hWb) ha hlen hm9 (fun j hj => ?_) (fun j p hj hjp hps hall => ?_) (fun hall => ?_))).mono ?_
  · have hj' : j < ms.length := by omega
    obtain ⟨x, hx1, hx2⟩ := hlc j hj'
    rw [List.getElem?_eq_getElem hj', Option.getD_some] at hx2
    obtain ⟨p, hp, hps⟩ := allR_each hms (List.getElem_mem hj')
    rw [hp] at hx2
    obtain ⟨xa, xc, _, _, rfl, _⟩ := id hx2
    exact ⟨p, xa, xc, by rw [List.getElem?_eq_getElem hj', hp], hps, below_cell hWb hx1, hx2.below hWb⟩
  · rw [Bool.eq_false_iff]
    intro h9
    have h8 := (Fin.frat_iff (grp_fg hg) (List.mem_range.2 ha)).1 ((hft a).1 h9) p (subT_iff.1 hps) (by
      obtain ⟨y, hy, hn⟩ := hlast j p hj hjp hps
      exact ⟨y, List.mem_range.2 hy, hn⟩)
    obtain ⟨z, hz, hzn⟩ := h8
    exact hzn (gen_mkd.1 (hall z (List.mem_range.1 hz)))
  · rw [hft, Fin.frat_iff (grp_fg hg) (List.mem_range.2 ha)]
    intro p S hy
    have hps := subT_iff.2 S
    obtain ⟨j, hj, hjp⟩ := List.mem_iff_getElem.1 (allR_has hg hms hps)
    have hjL : j < L := Classical.byContradiction fun h9 => by
      -- the whole group stands at no place below L
      obtain ⟨k, hk, hkw⟩ := List.mem_iff_getElem.1 (allR_has hg hms whole_sub)
      have hkL : ¬ k < L := fun h8 => by
        obtain ⟨y, _, hn⟩ := hlast k (fun _ => true) h8 (by rw [List.getElem?_eq_getElem hk, hkw]) whole_sub
        exact hn rfl
      have hjk : j = k := by omega
      subst hjk
      have h7 := lst_bs.1 (hjp.symm.trans hkw)
      obtain ⟨y, hy1, hy2⟩ := hy
      exact hy2 (bs_inj h7 y (List.mem_range.1 hy1))
    obtain ⟨z, hz, hzn⟩ := hall j p hjL (by rw [List.getElem?_eq_getElem hj, hjp]) hps
    exact ⟨z, List.mem_range.2 hz, fun h9 => hzn (gen_mkd.2 h9)⟩
  · rintro x w' ⟨r, rfl, hr, hb⟩
    have hs := Sl.of_own hr (Nat.lt_of_lt_of_le (Nat.lt_of_le_of_lt (Nat.zero_le _) hG.lt) hb.size)
    obtain ⟨r1, r2, r3, rfl⟩ := hs.isSlice
    exact ⟨r1, r2, r3, rfl, hs, hb⟩
theorem sall_law (N : Int) (v : Value) (zs : List Int) (w : World) (hv : Sl w v zs) (hT : Tab w) (b1 : zs.length * 8 ≤ 140737488355328) :
    Calls Tryd.prog 3 #[.agg #[.int .i64 N, v]] w fun e w' => e = .returned (.bool true) ∧ Below w.heap.size w w' := by
  obtain ⟨v1, v2, v3, rfl⟩ := hv.isSlice
  have HO : Hid (∀ W, Below w.heap.size w W → Calls Tryd.prog 10 #[.agg #[.int .i64 N, .slice v1 v2 v3]] W fun x W' => ∃ u1 u2 u3, x = .returned (.agg #[.int .i64 N, .slice u1 u2 u3]) ∧ Sl W' (.slice u1 u2 u3) zs ∧ Below W.heap.size W W') := hide fun W h => (ownGroup_any N (.slice v1 v2 v3) zs W (hv.below h) b1).mono (fun x W' h9 => by
    obtain ⟨u, rfl, hu, hb⟩ := h9
    obtain ⟨u1, u2, u3, rfl⟩ := hu.isSlice
    exact ⟨u1, u2, u3, rfl, hu, hb⟩)
  have HGF := hide (fun W (h : Below w.heap.size w W) => groupFault_any N (.slice v1 v2 v3) zs W (hv.below h))
  have h0 : ∀ W W', Below w.heap.size w W → Below W.heap.size W W' → 0 < W'.heap.size := fun W W' h h' => Nat.lt_of_lt_of_le (Nat.lt_of_lt_of_le hT.lt h.size) h'.size
  by_cases hc : (gfault N zs).1 = 0
  · obtain ⟨n, e, rfl, hg, _⟩ := gfault_grp hc
    rw [grp_fault hg] at HGF
    by_cases h24 : 24 < n
    · exact sall_bad n 2 0 v1 v2 v3 zs w hT (by decide) HO (hide fun W u h hu => all_bad n 2 0 u W (hide fun W' h' => osml_many n e u zs W' (hu.below h') hg h24) (by decide)) (hide fun W u h hu => frat_bad n 2 0 u W (hide fun W' h' => osml_many n e u zs W' (hu.below h') hg h24) (by decide)) (.inr ⟨by omega, rfl, rfl, HGF⟩)
    · have hn24 : n ≤ 24 := by omega
      obtain ⟨ft, hft⟩ := Fin.test_of (Fin.Frat (List.range n) (tm n zs) e)
      exact sall_good n (AllR n zs e) ft v1 v2 v3 zs w hT hn24 (fun ms h => allR_pr hg hn24 h) (fun ms ns h1 h2 => allR_same hg h1 h2) HO
        (hide fun W u h hu => (all_good n e u zs W hu hg (hT.below h) hn24).mono (fun x W' h9 => by
          obtain ⟨r1, r2, r3, P, ms, rfl, ⟨k, hk, hI⟩, hp, hs, hL, hb⟩ := h9
          have hL := hL W' (fun _ _ _ => rfl) (Nat.le_refl _)
          obtain ⟨a, cap, pb, po, hve, _⟩ := id hL
          injection hve with e1 e2 e3
          subst e1 e2 e3
          exact ⟨r1, r3, ms, ⟨P, inv_cut hI hk, hp, hs⟩, rfl, hL, hb⟩))
        (hide fun W u h hu => (frat_good n e u zs W hu hg (hT.below h) hn24).mono (fun x W' h9 => by
          obtain ⟨r, P, rfl, ⟨k, hk, hI⟩, hs, hb⟩ := h9
          have hs := hs.sl
          rw [lst_congr (q := ft) (fun a ha => by rw [Bool.eq_iff_iff, hft a]; exact frat_mem hg hk hI ha)] at hs
          obtain ⟨r1, r2, r3, rfl⟩ := hs.isSlice
          exact ⟨r1, r2, r3, rfl, hs, hb⟩))
        HGF
        (hide fun W h => (subs_ok n e (.slice v1 v2 v3) zs W (hv.below h) hg hn24).mono (fun x W' h9 => by
          obtain ⟨r, P, us, ms, rfl, hI, hp, hs, hrow, hls, hb⟩ := h9.ans
          have hsl := SlL.of_own hrow hls (h0 W W' h hb)
          obtain ⟨ra, rc, rfl⟩ := own_slice' hrow
          rw [hls.1] at hsl ⊢
          exact ⟨ra, rc, ms, ⟨P, hI, hp, hs⟩, rfl, hsl, hb⟩))
        (hide fun ms W wb pb po rc hms h hG hW hL => sall_th n e ft v1 v2 v3 w.heap.size zs W (hv.below h) hg hn24 hft ms wb pb po rc hms hG hW hL)
  · exact sall_bad N _ _ v1 v2 v3 zs w hT hc HO (hide fun W u h hu => all_bad N _ _ u W (hide fun W' h' => osml_bad N u zs W' (hu.below h') hc) hc) (hide fun W u h hu => frat_bad N _ _ u W (hide fun W' h' => osml_bad N u zs W' (hu.below h') hc) hc) (.inl HGF)
end Go.Proofs.YtmgengplfebmjaaDoor
