/- What the document's Has, Those, Parted, Both and Stays answer. -/
import Derived.Test.YtmgengplfebmjaaDoorLst
import Derived.Test.YtmgengplfebmjaaDoorSame
namespace Go.Proofs.YtmgengplfebmjaaDoor
open Go Go.RowKit

set_option maxRecDepth 100000 in
set_option maxHeartbeats 1000000 in
theorem rhas_ok (v : Value) (zs : List Int) (a : Int) (w : World) (hv : Sl w v zs) :
    Calls Tryd.prog 81 #[v, .int .i64 a] w fun e w' => e = .returned (.bool (decide (a ∈ zs))) ∧ w' = w := by
  obtain ⟨x, cap, pb, po, rfl, hr, hp, hq3, hq4⟩ := hv
  have hm : zs.length ≤ 9223372036854775807 := by unfold maxLen at hq4; omega
  have HR := hide hr
  clear hr hq4
  go_enter Tryd.func81, Tryd.ntmps81
  go_wp2
  go_loopw [5] (fun i wr => ∃ k : Nat, k ≤ zs.length ∧ i = .int .i64 k ∧ (∀ t, t < k → zs[t]?.getD 0 ≠ a) ∧ wr = w) (fun i _ => zs.length - (intOf i).toNat)
  case atStart => exact ⟨0, Nat.zero_le _, rfl, fun t ht => by omega, rfl⟩
  case round =>
    obtain ⟨k, hk, rfl, hno, rfl⟩ := hrel
    have HNO := hide hno
    clear hno
    by_cases hlt : k < zs.length
    · obtain rfl := HR.out.at_ (by omega)
      have hc := HR.out.cell k hlt
      obtain ⟨c, hce⟩ : ∃ c, zs[k]?.getD 0 = c := ⟨_, rfl⟩
      rw [hce] at hc
      have HCE := hide hce
      clear hce
      by_cases hca : c = a
      · have HD := hide (show decide (a ∈ zs) = true by
          rw [decide_eq_true_eq, ← hca, ← HCE.out]
          simp [hlt])
        go_wp2
        go_ret
        exact ⟨by rw [HD.out]; rfl, rfl⟩
      · go_wp2
        go_roundw
        case rel => exact ⟨k + 1, by omega, by go_num, fun t ht => by
          by_cases e : t = k
          · rw [e, HCE.out]; exact hca
          · exact HNO.out t (by omega), trivial⟩
        case measure => simp [intOf]; omega
    · have HD := hide (show decide (a ∈ zs) = false by
        rw [decide_eq_false_iff_not]
        intro hm
        obtain ⟨t, ht, he⟩ := List.mem_iff_getElem.1 hm
        exact HNO.out t (by omega) (by simp [ht, he]))
      go_wp2
      go_ret
      exact ⟨by rw [HD.out]; rfl, rfl⟩

theorem row_keep {W W' : World} {B : Nat} {v : Value} {zs : List Int} (h : Row W B v zs) (hk : ∀ g, B ≤ g → g < W.heap.size → W'.heap[g]? = W.heap[g]?) : Row W' B v zs := by
  refine ⟨h.1, ?_⟩
  rcases h.2 with h0 | ⟨g, cap, cur, hv, hg, hh, rest⟩
  · exact .inl h0
  · exact .inr ⟨g, cap, cur, hv, hg, (hk g hg (Array.getElem?_eq_some_iff.1 hh).1).trans hh, rest⟩
theorem row_below {W W' : World} {B : Nat} {v : Value} {zs : List Int} (h : Row W B v zs) (hb : Below W.heap.size W W') : Row W' B v zs := row_keep h (fun g _ h2 => hb.block g h2)
theorem row_sl {W : World} {B : Nat} {v : Value} {zs : List Int} (h : Row W B v zs) (h0 : 0 < W.heap.size) : Sl W v zs := Sl.of_own h h0
theorem row_len {W : World} {B : Nat} {v : Value} {zs : List Int} (h : Row W B v zs) : ∃ a cap, v = .slice a zs.length cap := own_slice h
theorem lst_snoc {p : Nat → Bool} (j : Nat) : lst (j + 1) p = if p j then lst j p ++ [j] else lst j p := by
  unfold lst
  rw [List.range_succ, List.filter_append]
  cases h : p j <;> simp [h]
theorem nil_row (W : World) (B : Nat) : Row W B (.slice none 0 0) [] := World.ownsRow_nil _ _ _ _

set_option maxRecDepth 100000 in
set_option maxHeartbeats 2000000 in
theorem rthose_ok (n k : Nat) (v : Value) (caps : Array Value) (p : Nat → Bool) (w : World) (hn : n ≤ 60)
    (hcall : ∀ a W, Sem.run Tryd.prog (callFunc k (#[.int .i64 a] ++ caps)) W = .ok (.enter k (#[.int .i64 a] ++ caps)) W)
    (hp : ∀ (W : World) (a : Nat), Below w.heap.size w W → a < n → Calls Tryd.prog k (#[.int .i64 a] ++ caps) W fun e w' => e = .returned (.bool (p a)) ∧ Below W.heap.size W w') :
    Calls Tryd.prog 18 #[.agg #[.int .i64 n, v], .func (.func k) #[] caps] w fun x w' => ∃ r, x = .returned r ∧ Row w' w.heap.size r (li (lst n p)) ∧ Below w.heap.size w w' := by
  obtain ⟨i0, hi, hz0, hz1, hz2⟩ := info_parts info3b
  have HP := hide hp
  clear hp
  have hB0 : Below w.heap.size w (w.alloc (.cells #[.int .i64 n, v] 24)) := balloc w _
  have hX0 : Blk (w.alloc (.cells #[.int .i64 n, v] 24)) w.heap.size 24 [.int .i64 n, v] := blk0 _ _
  have hs0 : (w.alloc (.cells #[.int .i64 n, v] 24)).heap.size = w.heap.size + 1 := by simp
  go_enter Tryd.func18, Tryd.ntmps18
  go_wp2
  go_loopw [5, 6] (fun r i wr => ∃ j : Nat, j ≤ n ∧ i = .int .i64 j ∧ Row wr (w.heap.size + 1) r (li (lst j p)) ∧ Blk wr w.heap.size 24 [.int .i64 n, v] ∧ Below w.heap.size w wr) (fun _ i _ => n - (intOf i).toNat)
  case atStart => exact ⟨0, Nat.zero_le _, rfl, nil_row _ _, hX0, hB0⟩
  case round =>
    obtain ⟨j, hj, rfl, hrow, hX, hB⟩ := hrel
    clear hX0 hs0
    obtain ⟨r, rfl⟩ : ∃ r, r = u5 := ⟨_, rfl⟩
    obtain ⟨c0, c1, _, _⟩ := hX.two
    by_cases hlt : j < n
    · go_wp2_with fail
      refine (HP.out wr j hB hlt).mono ?_
      rintro e1 w1 ⟨rfl, hb1⟩
      clear c0 c1
      have hB1 := bcat hB hb1 hB.size
      have hX1 := blk_below hX hb1
      have hrow1 := row_below hrow hb1
      have hs1 := hX1.lt
      have hll := lst_len j p
      cases hpj : p j with
      | true =>
        have HE := hide (show lst (j + 1) p = lst j p ++ [j] by rw [lst_snoc, if_pos hpj])
        have HLL := hide (show (li (lst j p)).length ≤ 60 by rw [li_len]; omega)
        have hown : w1.ownsRow (w.heap.size + 1) 3 1 r (li (lst j p)).length ((li (lst j p)).map (Value.int .i64)) := hrow1
        clear hrow hrow1
        go_wp2_with (first
          | (at_builtin; refine wpList_append_own _ rfl _ _ 22 rfl (w.heap.size + 1) 3 i0 (.int .i64 0) 1 8 under22b hi hz0 hz1 hz2 rfl (by decide) _ _ _ rfl (World.ownsRow.alloc hown _) ⟨w1.heap.size, 0, none⟩ 1 1 [.int .i64 j] rfl rfl ?c1 ?c2 ?c3 ?c4 ?c5 ?_))
        case c1 => exact cell_one_new _ _ _
        case c2 => simp [Value.oneCell']
        case c3 => unfold maxLen; have := HLL.out; omega
        case c4 => have := HLL.out; omega
        case c5 => simp; omega
        intro v' w2 hown' hgrow _
        obtain ⟨g', cap', rfl⟩ := ownsRow_succ hown'
        have hB2 : Below w.heap.size w w2 := (hB1.alloc hB1.size _).grown hgrow (by simp; omega) (fun t e => by have := owns_ge hown t e; omega)
        have hX2 : Blk w2 w.heap.size 24 [.int .i64 n, v] := (hX1.alloc _).of_eq (hgrow.block _ (by simp; omega) (fun e => by have := owns_ge hown _ e.symm; omega))
        have hrow2 : Row w2 (w.heap.size + 1) (.slice (some ⟨g', 0, none⟩) ((li (lst j p)).length + 1) cap') (li (lst (j + 1) p)) := by
          unfold Row
          rw [HE.out]
          simpa [li] using hown'
        clear hown' hgrow hown
        go_wp2
        go_roundw
        case rel => exact ⟨j + 1, by omega, by go_num, hrow2, hX2, hB2⟩
        case measure => simp [intOf]; omega
      | false =>
        have HE := hide (show lst (j + 1) p = lst j p by rw [lst_snoc, if_neg (by simp [hpj])])
        go_wp2
        go_roundw
        case rel => exact ⟨j + 1, by omega, by go_num, by rw [HE.out]; exact hrow1, hX1, hB1⟩
        case measure => simp [intOf]; omega
    · have hjn : j = n := by omega
      subst hjn
      have hrow9 := owns_mono hrow (show w.heap.size ≤ w.heap.size + 1 by omega)
      go_wp2
      go_ret
      exact ⟨_, rfl, hrow9, hB⟩

set_option maxRecDepth 100000 in
set_option maxHeartbeats 1000000 in
theorem parted_ok (v1 v2 : Value) (zs ys : List Int) (w : World) (h1 : Sl w v1 zs) (h2 : Sl w v2 ys) :
    Calls Tryd.prog 63 #[v1, v2] w fun e w' => e = .returned (.bool (zs.all fun a => decide (a ∈ ys))) ∧ w' = w := by
  obtain ⟨x, cap, pb, po, rfl, hr, hp, hq3, hq4⟩ := h1
  have hm : zs.length ≤ 9223372036854775807 := by unfold maxLen at hq4; omega
  have HR := hide hr
  have HH := hide (fun a => rhas_ok v2 ys a w h2)
  clear hr hq4
  go_enter Tryd.func63, Tryd.ntmps63
  go_wp2
  go_loopw [5] (fun i wr => ∃ k : Nat, k ≤ zs.length ∧ i = .int .i64 k ∧ (∀ t, t < k → zs[t]?.getD 0 ∈ ys) ∧ wr = w) (fun i _ => zs.length - (intOf i).toNat)
  case atStart => exact ⟨0, Nat.zero_le _, rfl, fun t ht => by omega, rfl⟩
  case round =>
    obtain ⟨k, hk, rfl, hno, rfl⟩ := hrel
    have HNO := hide hno
    clear hno
    by_cases hlt : k < zs.length
    · obtain rfl := HR.out.at_ (by omega)
      have hc := HR.out.cell k hlt
      obtain ⟨c, hce⟩ : ∃ c, zs[k]?.getD 0 = c := ⟨_, rfl⟩
      rw [hce] at hc
      have HCE := hide hce
      clear hce
      have HC := hide (HH.out c)
      by_cases hca : c ∈ ys
      · rw [decide_eq_true hca] at HC
        go_wp2_with fail
        refine HC.out.mono ?_
        rintro e1 w1 ⟨rfl, rfl⟩
        go_wp2
        go_roundw
        case rel => exact ⟨k + 1, by omega, by go_num, fun t ht => by
          by_cases e : t = k
          · rw [e, HCE.out]; exact hca
          · exact HNO.out t (by omega), trivial⟩
        case measure => simp [intOf]; omega
      · rw [decide_eq_false hca] at HC
        have HD := hide (show (zs.all fun a => decide (a ∈ ys)) = false by
          rw [List.all_eq_false]
          refine ⟨zs[k], List.getElem_mem hlt, ?_⟩
          have := HCE.out
          simp [hlt] at this
          rw [this]; simpa using hca)
        go_wp2_with fail
        refine HC.out.mono ?_
        rintro e1 w1 ⟨rfl, rfl⟩
        go_wp2
        go_ret
        exact ⟨by rw [HD.out]; rfl, rfl⟩
    · have HD := hide (show (zs.all fun a => decide (a ∈ ys)) = true by
        rw [List.all_eq_true]
        intro z hz
        obtain ⟨t, ht, he⟩ := List.mem_iff_getElem.1 hz
        have := HNO.out t (by omega)
        simp [ht, he] at this
        simpa using this)
      go_wp2
      go_ret
      exact ⟨by rw [HD.out]; rfl, rfl⟩

theorem take_snoc' {zs : List Int} {k : Nat} (hk : k < zs.length) : zs.take (k + 1) = zs.take k ++ [zs[k]?.getD 0] := by
  rw [List.take_succ_eq_append_getElem hk]; simp [hk]

theorem range_snoc (k : Nat) : li (List.range (k + 1)) = li (List.range k) ++ [(k : Int)] := by simp [li, List.range_succ]
end Go.Proofs.YtmgengplfebmjaaDoor
