/- What package slices' DeleteFunc answers of sets. -/
import Derived.Test.YtelglfegpfhbpaaDoorSg5
namespace Go.Proofs.YtelglfegpfhbpaaDoor
open Go Go.RowKit

theorem setCells_cell (g : Nat) : ∀ (vs : List Value) (o : Nat) (w : World) (j : Nat), j < o → (w.setCells g o vs).cell? ⟨g, j, none⟩ = w.cell? ⟨g, j, none⟩
  | [], _, _, _, _ => rfl
  | v :: vs, o, w, j, h => by
    show ((w.setCell ⟨g, o, none⟩ v).setCells g (o + 1) vs).cell? ⟨g, j, none⟩ = w.cell? ⟨g, j, none⟩
    rw [setCells_cell g vs (o + 1) _ j (by omega)]
    exact World.cell?_setCell_other w ⟨g, o, none⟩ ⟨g, j, none⟩ v (fun e => by injection e with _ e; omega)
theorem setCells_below {B g : Nat} {a : World} (hg : B ≤ g) : ∀ (vs : List Value) (o : Nat) (w : World), Below B a w → Below B a (w.setCells g o vs)
  | [], _, _, h => h
  | v :: vs, o, _, h => setCells_below hg vs (o + 1) _ (h.setCell (p := ⟨g, o, none⟩) hg v)
set_option maxRecDepth 100000 in
set_option maxHeartbeats 4000000 in
theorem delete_ok (k base : Nat) (caps : Array Value) (v : Value) (xs : List Nat) (t : Nat → Bool) (w : World) (h0 : 0 < base) (hbs : base ≤ w.heap.size) (hrow : w.ownsRow base 82 1 v xs.length (uv xs))
    (hcall : ∀ (s : Int) W, Sem.run Tryd.prog (callFunc k (#[.int .u64 s] ++ caps)) W = .ok (.enter k (#[.int .u64 s] ++ caps)) W)
    (hp : ∀ (W : World) (s : Nat), Below base w W → Calls Tryd.prog k (#[.int .u64 s] ++ caps) W fun e w' => e = .returned (.bool (t s)) ∧ Below W.heap.size W w') :
    Calls Tryd.prog 122 #[v, .func (.func k) #[] caps] w fun x w' => ∃ r, x = .returned r ∧ SlU w' r (xs.filter fun s => !t s) ∧ Below base w w' := by
  have hsl := SlU.of_own rfl hrow (by omega)
  have HI := hide (index_ok k caps v xs t w hsl hcall (fun W s h _ => hp W s (h.mono hbs)))
  have HP := hide hp
  have HRW := hide hrow
  clear hp
  obtain ⟨va, vc, rfl⟩ := own_val hrow
  by_cases hany : xs.findIdx t < xs.length
  · have hix : idxI xs t = (xs.findIdx t : Int) := by unfold idxI; rw [if_pos hany]
    rw [hix] at HI
    clear hix
    obtain ⟨g, rfl⟩ : ∃ g, va = some ⟨g, 0, none⟩ := by
      rcases hrow.2 with ⟨h1, h2⟩ | ⟨g, cap, cur, h1, _⟩
      · omega
      · injection h1 with h1; exact ⟨g, h1⟩
    have hgb := owns_ge hrow g rfl
    have hD0 := Del.start hany
    have hm1 : xs.length ≤ 9223372036854775807 := by
      obtain ⟨_, _, _, _, _, _, _, _, h4, h5⟩ := hsl
      unfold maxLen at h5; omega
    have hne : ¬ ((xs.findIdx t : Nat) : Int) = -1 := by omega
    have hneb : (((xs.findIdx t : Nat) : Int) == -1) = false := by rw [beq_eq_false_iff_ne]; exact hne
    generalize xs.findIdx t = i0 at *
    clear hrow hsl
    go_enter Tryd.func122, Tryd.ntmps122
    go_wp2_with fail
    refine HI.out.mono ?_
    rintro x w1 ⟨rfl, hb1⟩
    have hr1 : w1.ownsRow base 82 1 (.slice (some ⟨g, 0, none⟩) xs.length vc) xs.length (uv xs) := own_keep2 HRW.out (fun b _ h2 => hb1.block b h2)
    have hB1 : Below base w w1 := hb1.mono hbs
    go_wp2
    go_loopw [5, 6] (fun i j wr => ∃ (a b : Nat) (L : List Nat), i = .int .i64 a ∧ j = .int .i64 b ∧ Del xs L t a b ∧ wr.ownsRow base 82 1 (.slice (some ⟨g, 0, none⟩) xs.length vc) xs.length (uv L) ∧ Below base w wr) (fun _ j _ => xs.length - (intOf j).toNat)
    case atStart => exact ⟨i0, i0 + 1, xs, rfl, by go_num, hD0, hr1, hB1⟩
    case round =>
      clear hr1 hB1 hD0
      obtain ⟨a, b, L, rfl, rfl, hD, hr, hB⟩ := hrel
      have hDl := hD.len
      have hij := hD.ij
      have hjl := hD.jl
      by_cases hlt : b < xs.length
      · have hbi : (b : Int) < (xs.length : Int) := by omega
        have hai : (a : Int) < (xs.length : Int) := by omega
        have cb := uv_cell hr (j := b) (by omega)
        rw [hD.rest b (Nat.le_refl _)] at cb
        obtain ⟨s, hs⟩ : ∃ s, xs[b]?.getD 0 = s := ⟨_, rfl⟩
        have HS := hide hs
        rw [hs] at cb
        clear hs
        have HK := hide (HP.out wr s hB)
        cases hts : t s with
        | true =>
          rw [hts] at HK
          have HD := hide (hD.drop hlt (by rw [HS.out]; exact hts))
          clear hDl
          go_wp2_with fail
          refine HK.out.mono ?_
          rintro x w2 ⟨rfl, hb2⟩
          have hr2 := own_keep2 hr (fun g _ h2 => hb2.block g h2)
          have hB2 := hB.trans (hb2.mono (Nat.le_trans hbs hB.size))
          go_wp2
          go_roundw
          case rel => exact ⟨a, b + 1, L, rfl, by go_num, HD.out, hr2, hB2⟩
          case measure => simp [intOf]; omega
        | false =>
          rw [hts] at HK
          have HD := hide (hD.keep hlt (by rw [HS.out]; exact hts))
          rw [HS.out] at HD
          have ca0 := uv_cell hr (j := a) (by omega)
          have hDL := hide hDl
          clear hDl
          go_wp2_with fail
          refine HK.out.mono ?_
          rintro x w2 ⟨rfl, hb2⟩
          have hr2 := own_keep2 hr (fun g _ h2 => hb2.block g h2)
          have hB2 := hB.trans (hb2.mono (Nat.le_trans hbs hB.size))
          have ca := below_cell hb2 ca0
          have fa := hr2.frozenAt a
          obtain ⟨hr3, hg3⟩ := hr2.stored a (.int .u64 (s : Int))
          rw [uv_set] at hr3
          have hB3 := hB2.setCell (p := ⟨g, a, none⟩) (by simpa using hgb) (.int .u64 (s : Int))
          clear ca0
          go_wp2
          go_roundw
          case rel => exact ⟨a + 1, b + 1, _, by go_num, by go_num, HD.out, hr3, hB3⟩
          case measure => simp [intOf]; omega
      · have hbi : ¬ (b : Int) < (xs.length : Int) := by omega
        have hal : a < xs.length := by omega
        obtain ⟨m9, hm9⟩ : ∃ m9, xs.length = a + (m9 + 1) := ⟨xs.length - a - 1, by omega⟩
        have HFN := hide (hD.fin (by omega))
        have hLa : (L.take a).length = a := by rw [List.length_take]; omega
        have hvc : xs.length ≤ vc ∧ vc ≤ maxLen := by
          rcases hr.2 with ⟨h1, _⟩ | ⟨g', cap', cur, h1, _, _, h2, h3, _⟩
          · cases h1
          · injection h1 with _ _ h1
            subst h1
            exact ⟨h2, h3⟩
        have hvc1 := hvc.1
        have hcl : ∀ ty, (Builtin.clear_ #[79] ty #[.slice (some ⟨g, a, none⟩) (m9 + 1) (vc - a)]).run Tryd.prog wr = .ok (.tuple #[]) (wr.setCells g a (List.replicate (m9 + 1) (.int .u64 0))) := fun ty =>
          Lib.run_clear_slice wr 79 82 ty (.int .u64 0) und79 zero82 rfl rfl g a (m9 + 1) (vc - a) (by omega)
            (fun j hj => by rw [uv_cell hr (j := a + j) (by omega)]; rfl) (fun j _ => hr.frozenAt (a + j))
        have hB9 := setCells_below hgb (List.replicate (m9 + 1) (.int .u64 0)) a wr hB
        have hS9 : SlU (wr.setCells g a (List.replicate (m9 + 1) (.int .u64 0))) (.slice (some ⟨g, 0, none⟩) a vc) (L.take a) := by
          have hgl : g < wr.heap.size := World.block_lt_of_cell? wr ⟨g, 0, none⟩ (uv_cell hr (j := 0) (by omega))
          refine ⟨some ⟨g, 0, none⟩, vc, g, 0, by rw [hLa], fun _ => rfl, fun j hj => ?_, Nat.lt_of_lt_of_le hgl (setCells_below (B := 0) (a := wr) (Nat.zero_le _) _ a wr ⟨rfl, rfl, rfl, Nat.le_refl _, fun _ h => by omega⟩).size, by rw [hLa]; omega, hvc.2⟩
          rw [hLa] at hj
          rw [Nat.zero_add, setCells_cell g _ a wr j hj, uv_cell hr (j := j) (by omega), List.getElem?_take_of_lt hj]
        rw [HFN.out] at hS9
        have hai : (a : Int) ≤ (xs.length : Int) := by omega
        go_wp2
        go_ret
        exact ⟨_, rfl, hS9, hB9⟩
  · have hix : idxI xs t = -1 := by unfold idxI; rw [if_neg hany]
    rw [hix] at HI
    have hfl : (xs.filter fun s => !t s) = xs := by
      rw [List.filter_eq_self]
      intro s hs
      cases hts : t s with
      | false => rfl
      | true => exact absurd (List.findIdx_lt_length_of_exists ⟨s, hs, hts⟩) hany
    rw [hfl]
    clear hix hfl hany
    go_enter Tryd.func122, Tryd.ntmps122
    go_wp2_with fail
    refine HI.out.mono ?_
    rintro x w1 ⟨rfl, hb1⟩
    have hs1 := hsl.below hb1
    clear hsl hrow
    go_wp2
    go_ret
    exact ⟨_, rfl, hs1, hb1.mono hbs⟩
end Go.Proofs.YtelglfegpfhbpaaDoor
