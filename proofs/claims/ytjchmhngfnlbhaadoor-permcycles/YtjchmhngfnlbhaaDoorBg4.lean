/- The statements' big numbers: the decimal text. -/
import Derived.Test.YtjchmhngfnlbhaaDoorBg3
import Derived.Test.YtjchmhngfnlbhaaDoorDcm
namespace Go.Proofs.YtjchmhngfnlbhaaDoor
open Go Go.RowKit

/-- The digits of a number; of 0 none. -/
def dd (n : Nat) : List UInt8 := if n = 0 then [] else Lib.decDigits n
theorem dd_step {n : Nat} (h : 0 < n) : dd n = dd (n / 10) ++ [UInt8.ofNat (48 + n % 10)] := by
  unfold dd
  rw [if_neg (by omega)]
  by_cases h10 : n < 10
  · rw [if_pos (by omega), Lib.decDigits_one h10, Nat.mod_eq_of_lt h10]; rfl
  · rw [if_neg (by omega), dec_step h10]
theorem dd_len (n : Nat) : ∀ (k : Nat), n < 4294967296 ^ k → (dd n).length ≤ 10 * k
  | 0, h => by
    have : n = 0 := by simpa using h
    subst this; simp [dd]
  | k + 1, h => by
    unfold dd
    split
    · simp
    · have h1 : n < 10 ^ (10 * (k + 1) - 1 + 1) := by
        rw [show 10 * (k + 1) - 1 + 1 = 10 * (k + 1) by omega, Nat.pow_mul]
        exact Nat.lt_of_lt_of_le h (Nat.pow_le_pow_left (by omega) _)
      have := dec_le _ n h1
      omega
theorem info5 : (Tryd.prog.info? 5).map (fun i => (i.zero, i.size, i.bytes)) = some (some (.int .u8 0), 1, 1) := by kernel_rfl
theorem under68 : Tryd.prog.underlying 68 = some (.slice 5) := by kernel_rfl

/-- A list, k pairs of it changed round. -/
structure Rv (ds L : List UInt8) (k : Nat) : Prop where
  len : L.length = ds.length
  get : ∀ i, i < ds.length → L[i]?.getD 0 = if i < k ∨ ds.length - k ≤ i then ds[ds.length - 1 - i]?.getD 0 else ds[i]?.getD 0
theorem Rv.zero (ds : List UInt8) : Rv ds ds 0 := ⟨rfl, fun i hi => by rw [if_neg (by omega)]⟩
theorem Rv.step {ds L : List UInt8} {k : Nat} (h : Rv ds L k) (hk : k < ds.length - 1 - k) : Rv ds ((L.set k (ds[ds.length - 1 - k]?.getD 0)).set (ds.length - 1 - k) (ds[k]?.getD 0)) (k + 1) := by
  refine ⟨by simp [h.len], fun i hi => ?_⟩
  have hl := h.len
  by_cases h1 : i = ds.length - 1 - k
  · subst h1
    rw [List.getElem?_set_self (by simp; omega), if_pos (by omega), show ds.length - 1 - (ds.length - 1 - k) = k by omega]; rfl
  · rw [List.getElem?_set_ne (by omega)]
    by_cases h2 : i = k
    · subst h2
      rw [List.getElem?_set_self (by omega), if_pos (by omega)]; rfl
    · rw [List.getElem?_set_ne (by omega), h.get i hi]
      by_cases h3 : i < k ∨ ds.length - k ≤ i
      · rw [if_pos h3, if_pos (by omega)]
      · rw [if_neg h3, if_neg (by omega)]
theorem Rv.done {ds L : List UInt8} {k : Nat} (h : Rv ds L k) (hk : ¬ k < ds.length - 1 - k) (hk2 : k ≤ ds.length) : L = ds.reverse := by
  apply List.ext_getElem
  · rw [h.len, List.length_reverse]
  · intro i h1 h2
    have hi : i < ds.length := by rw [← h.len]; exact h1
    have := h.get i hi
    rw [List.getElem?_eq_getElem h1] at this
    simp only [Option.getD_some] at this
    rw [this, List.getElem_reverse]
    split
    · rw [List.getElem?_eq_getElem (by omega)]; rfl
    · have e : i = ds.length - 1 - i := by omega
      rw [List.getElem?_eq_getElem hi]
      simp only [Option.getD_some]
      congr 1

set_option maxRecDepth 100000 in
set_option maxHeartbeats 8000000 in
theorem text_ok9 (b m : Nat) (n : Nat) (w : World) (hb : BigZ w b (n : Int) m) (hm : m ≤ 1000000) :
    Calls Tryd.prog 58 #[.pointer (some ⟨b, 0, none⟩), .int .i64 10] w fun e w' => e = .returned (.string ⟨(Lib.decDigits n).toArray⟩) ∧ Below w.heap.size w w' := by
  obtain ⟨i0, hi, hz0, hz1, hz2⟩ := info_parts info5
  obtain ⟨v, ws, hblk, hW, hcan, hwv, hwl⟩ := hb
  rw [decide_eq_false (by omega)] at hblk
  rw [Int.natAbs_natCast] at hwv
  obtain ⟨a, cap, rfl⟩ := hW.shape
  have hc0 : w.cell? ⟨b, 0, none⟩ = some (.bool false) := hblk.cell 0
  have hc1 : w.cell? ⟨b, 1, none⟩ = some (.slice a ws.length cap) := hblk.cell 1
  rcases Nat.eq_zero_or_pos ws.length with h0 | hpos
  · have e := List.length_eq_zero_iff.1 h0
    subst e
    have hn0 : n = 0 := by rw [← hwv]; rfl
    subst hn0
    go_enter Tryd.func58, Tryd.ntmps58
    go_wp2
    go_ret
    exact ⟨by rw [Lib.decDigits_one (by omega)]; rfl, Below.refl _ _⟩
  · have hn : 0 < n := by rw [← hwv]; exact wv_pos (List.length_pos_iff.1 hpos) hcan.last
    have hl0 : ¬ ((ws.length : Int) = 0) := by omega
    have hl1 : ws.length ≤ 10000000 := by omega
    have hnl : n < 4294967296 ^ ws.length := by
      rw [← hwv]; exact wv_lt ws hcan.lt
    have hdl := dd_len n _ hnl
    have HDL := hide hdl
    have HWV := hide hwv
    have HCAN := hide hcan
    clear hnl hdl hwv hcan
    go_enter Tryd.func58, Tryd.ntmps58
    go_wp2_with fail
    refine (twin_ok _ ws w hW hl1).mono ?_
    rintro e w1 ⟨⟨r, rfl, hW1⟩, hB1⟩
    go_wp2
    go_loopw [5, 6] (fun bv av wr => ∃ (k : Nat) (us : List Nat) (ds : List UInt8), WSl wr av us ∧ Can us ∧ wv us = k ∧ us.length ≤ ws.length ∧ dd k ++ ds.reverse = dd n ∧ wr.ownsRow w.heap.size 5 1 bv ds.length (Lib.byteCells ds) ∧ Below w.heap.size w wr)
      (fun bv _ _ => 10 * ws.length + 1 - lenOf bv)
    case atStart => exact ⟨n, ws, [], hW1, HCAN.out, HWV.out, Nat.le_refl _, by simp, World.ownsRow_nil _ _ _ _, hB1⟩
    case round =>
      obtain ⟨k, us, ds, hWk, hck, hvk, hlk, hdk, hO, hB⟩ := hrel
      obtain ⟨bv, rfl⟩ : ∃ bv, bv = u5 := ⟨_, rfl⟩
      obtain ⟨av, rfl⟩ : ∃ av, av = u6 := ⟨_, rfl⟩
      clear hW1 hB1
      have hsz := hB.size
      have hdsl : ds.length ≤ 10 * ws.length := by
        have h1 := congrArg List.length hdk
        have h2 := HDL.out
        rw [List.length_append, List.length_reverse] at h1
        omega
      obtain ⟨a9, c9, rfl⟩ := hWk.shape
      rcases Nat.eq_zero_or_pos us.length with hu0 | hup
      · have e := List.length_eq_zero_iff.1 hu0
        subst e
        have hk0 : k = 0 := by rw [← hvk]; rfl
        subst hk0
        have hdn : ds.reverse = Lib.decDigits n := by
          have h1 : dd 0 = [] := rfl
          rw [h1, List.nil_append] at hdk
          rw [hdk, dd, if_neg (by omega)]
        have hdp : 0 < ds.length := by
          have := dec_pos n
          rw [← hdn, List.length_reverse] at this; exact this
        have hcn0 : wr.cell? ⟨b, 0, none⟩ = some (.bool false) := by rw [← hc0]; simp [World.cell?, hB.block b hblk.lt]
        have HDN := hide hdn
        clear hdk hdn hWk hck hvk hlk
        obtain ⟨g, cap5, cur, hbv, hge, hh, hcl, hcm5, hcs, hct⟩ : ∃ g cap cur, bv = .slice (some ⟨g, 0, none⟩) ds.length cap ∧ w.heap.size ≤ g ∧ wr.heap[g]? = some (.cells cur 5 (0, 0)) ∧ ds.length ≤ cap ∧ cap ≤ maxLen ∧ cur.size = cap * 1 ∧ cur.toList.take (ds.length * 1) = Lib.byteCells ds := by
          rcases hO.2 with ⟨_, h⟩ | ⟨g, cap, cur, h1, h2, h3, h4, h5, h6, h7⟩
          · omega
          · exact ⟨g, cap, cur, h1, h2, h3, h4, h5, h6, h7⟩
        subst hbv
        rw [Nat.mul_one] at hct
        obtain ⟨tl, htl⟩ : ∃ tl, cur.toList = Lib.byteCells ds ++ tl := ⟨cur.toList.drop ds.length, by rw [← hct, List.take_append_drop]⟩
        have hP : Blk wr g 5 (Lib.byteCells ds ++ tl) := by
          unfold Blk; rw [← htl]; simpa using hh
        have hcm5' := hcm5
        unfold maxLen at hcm5'
        clear hct hcs hO hh htl
        obtain ⟨N, hN⟩ : ∃ N, ds.length = N := ⟨_, rfl⟩
        rw [hN]
        rw [hN] at hcl hdp hdsl
        have HN := hide hN
        clear hN
        go_wp2
        go_loopw [8, 9, 10] (fun iv jv _ wo => ∃ (k : Nat) (L : List UInt8), 2 * k ≤ N + 1 ∧ iv = .int .i64 k ∧ jv = .int .i64 ((N : Int) - 1 - k) ∧ Rv ds L k ∧ Blk wo g 5 (Lib.byteCells L ++ tl) ∧ Below w.heap.size w wo)
          (fun iv jv _ _ => (intOf jv - intOf iv).toNat)
        case atStart => exact ⟨0, ds, by omega, rfl, by go_num, Rv.zero ds, hP, hB⟩
        case round =>
          obtain ⟨k, L, hkN, rfl, rfl, hRv, hPk, hBk⟩ := hrel
          clear hP hB
          have hLl : L.length = N := by rw [hRv.len, HN.out]
          by_cases hlt : k < N - 1 - k
          · obtain ⟨j, hj⟩ : ∃ j, N - 1 - k = j := ⟨_, rfl⟩
            have hji : (N : Int) - 1 - (k : Int) = (j : Int) := by omega
            rw [hji]
            have hcell : ∀ i, i < N → wr.cell? ⟨g, i, none⟩ = some (.int .u8 ((L[i]?.getD 0).toNat : Int)) := fun i hi => by
              rw [hPk.cell i, List.getElem?_append_left (by rw [Lib.byteCells_length]; omega)]
              unfold Lib.byteCells
              rw [List.getElem?_map, List.getElem?_eq_getElem (by omega)]; rfl
            have hgk : L[k]?.getD 0 = ds[k]?.getD 0 := by rw [hRv.get k (by rw [HN.out]; omega), if_neg (by rw [HN.out]; omega)]
            have hgj : L[j]?.getD 0 = ds[N - 1 - k]?.getD 0 := by rw [hRv.get j (by rw [HN.out]; omega), if_neg (by rw [HN.out]; omega), hj]
            have hck := hcell k (by omega)
            have hcj := hcell j (by omega)
            rw [hgk] at hck
            rw [hgj] at hcj
            have hst := hRv.step (by rw [HN.out]; exact hlt)
            rw [HN.out, hj] at hst
            rw [hj] at hcj
            have hfk := hPk.frozen k
            have hfj := hPk.frozen j
            have hsetc : ∀ (M : List UInt8) (i : Nat) (x : UInt8), M.length = N → i < N → (Lib.byteCells M ++ tl).set i (.int .u8 (x.toNat : Int)) = Lib.byteCells (M.set i x) ++ tl := fun M i x hM hi => by
              rw [List.set_append_left _ _ (by rw [Lib.byteCells_length]; omega)]
              unfold Lib.byteCells; rw [List.map_set]
            have hP2 := (hPk.set k (.int .u8 ((ds[j]?.getD 0).toNat : Int))).set j (.int .u8 ((ds[k]?.getD 0).toNat : Int))
            rw [hsetc L k _ hLl (by omega), hsetc _ j _ (by rw [List.length_set]; exact hLl) (by omega)] at hP2
            have hB2 : Below w.heap.size w ((wr.setCell ⟨g, k, none⟩ (.int .u8 ((ds[j]?.getD 0).toNat : Int))).setCell ⟨g, j, none⟩ (.int .u8 ((ds[k]?.getD 0).toNat : Int))) := (hBk.setCell hge _).setCell hge _
            have hne : ¬ k = j := by omega
            have hne2 : ¬ j = k := by omega
            have hkj : (k : Int) < (j : Int) := by omega
            have hjN : (j : Int) < (N : Int) := by omega
            have HST := hide hst
            have HJ := hide hj
            clear hst hcell hgk hgj hj hsetc hPk hRv hlt
            generalize ds[k]?.getD 0 = x at *
            generalize ds[j]?.getD 0 = y at *
            go_wp2
            go_roundw
            case rel => exact ⟨k + 1, _, by have := HJ.out; omega, by go_num, by have := HJ.out; go_num, HST.out, hP2, hB2⟩
            case measure => simp [intOf]; omega
          · have hni : ¬ (k : Int) < (N : Int) - 1 - (k : Int) := by omega
            have hdone : L = ds.reverse := hRv.done (by rw [HN.out]; exact hlt) (by rw [HN.out]; omega)
            have hcv : (convert 68 9 (.slice (some ⟨g, 0, none⟩) N cap5)).run Tryd.prog wr = .ok (.string ⟨(Lib.decDigits n).toArray⟩) wr := by
              have h := run_convert_bytes_back (P := Tryd.prog) wr 68 9 5 ⟨g, 0, none⟩ cap5 L Tryd.underlying68 Tryd.underlying5 Tryd.underlying9 (fun i hi => by
                rw [show (⟨g, 0, none⟩ : Addr).add i = ⟨g, i, none⟩ by unfold Addr.add; split <;> simp_all]
                rw [hPk.cell i, List.getElem?_append_left (by rw [Lib.byteCells_length]; omega)]
                unfold Lib.byteCells
                rw [List.getElem?_map, List.getElem?_eq_getElem hi]; rfl)
              rw [hLl, hdone, HDN.out] at h; exact h
            clear hRv hdone hPk hLl
            go_wp2
            go_ret
            exact ⟨rfl, hBk⟩
      · have hkp : 0 < k := by rw [← hvk]; exact wv_pos (List.length_pos_iff.1 hup) hck.last
        have hui : (0 : Int) < (us.length : Int) := by omega
        have hst := dd_step hkp
        have hsm := small_ok _ us 10 wr hWk hck.lt (by omega) (by omega) (by omega)
        rw [hvk] at hsm
        have hdiv : k / 10 < k := Nat.div_lt_self hkp (by omega)
        obtain ⟨r, hr⟩ : ∃ r, k % 10 = r := ⟨_, rfl⟩
        have hr10 : r < 10 := by omega
        rw [hr] at hsm hst
        rw [hst, List.append_assoc] at hdk
        have hdl2 : ds.length + 1 ≤ 10 * ws.length := by
          have h1 := congrArg List.length hdk
          have h2 := HDL.out
          simp only [List.length_append, List.length_reverse, List.length_singleton] at h1
          omega
        have HDK := hide hdk
        have HSM := hide hsm
        clear hdk hsm hst hr
        have hbk := (row_block hO).2
        have HLO := hide (lenOf_own hO)
        go_wp2_with fail
        refine HSM.out.mono ?_
        rintro e w2 ⟨⟨rv, qs, rfl, hq1, hq2, hq3, hq4⟩, hB2⟩
        have hO2 := row_below hO hB2
        have hri : (r : Int) < 10 := by omega
        obtain ⟨c, hcc⟩ : ∃ c : UInt8, UInt8.ofNat (48 + r) = c := ⟨_, rfl⟩
        have HCV : Hid ((48 : Int) + (r : Int) = (c.toNat : Int)) := hide (by rw [← hcc]; simp <;> omega)
        have hcw : IntKind.u32.wrap ((48 : Int) + (r : Int)) = (48 : Int) + (r : Int) := by rw [IntKind.wrap_u32]; omega
        rw [hcc] at HDK
        have hsz2 := hB2.size
        have hBw2 := bcat hB hB2 hsz
        obtain ⟨q1, q2, rfl⟩ := hq1.shape
        clear hcc
        go_wp2_with (first
          | (at_builtin; refine wpList_append_own _ rfl _ _ 68 rfl w.heap.size 5 i0 (.int .u8 0) 1 1 under68 hi hz0 hz1 hz2 rfl (by decide) _ _ _ rfl (World.ownsRow.alloc hO2 _) ⟨w2.heap.size, 0, none⟩ 1 1 [.int .u8 (48 + (r : Int))] rfl rfl ?c1 ?c2 ?c3 ?c4 ?c5 ?_))
        case c1 => exact cell_one_new _ _ _
        case c2 => simp [Value.oneCell']
        case c3 => unfold maxLen; omega
        case c4 => omega
        case c5 => simp; omega
        intro v' w3 hown' hgrow _
        have hB3 : Below w.heap.size w w3 := (hBw2.alloc (by omega) _).grown hgrow (by simp; omega) (fun j e => (hbk j e).1)
        have hq3' : WSl w3 (.slice q1 qs.length q2) qs := (hq1.below (balloc w2 _)).grown hgrow (fun g cs fz hh e => by
          rcases hO2.2 with ⟨rfl, _⟩ | ⟨g9, cap9, cur, rfl, _, h9, _⟩
          · simp [Value.ownBlock] at e
          · simp [Value.ownBlock] at e
            subst e
            rw [Below.heap_alloc _ _ _ (Array.getElem?_eq_some_iff.1 h9).1, h9] at hh
            cases hh)
        obtain ⟨g', cap', rfl⟩ := ownsRow_succ hown'
        clear hgrow hO2 hO hbk
        go_wp2
        go_roundw
        case rel => exact ⟨k / 10, qs, ds ++ [c], hq3', hq2, hq3, by omega, by rw [← HDK.out]; simp, by rw [HCV.out] at hown'; simpa [Lib.byteCells] using hown', hB3⟩
        case measure =>
          have := HLO.out
          simp [lenOf] at this ⊢; omega
end Go.Proofs.YtjchmhngfnlbhaaDoor
