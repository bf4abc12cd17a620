/- What the law CosetActs answers: true, at every table and every list. -/
import Derived.Test.YtoiemlnmcfmakaaDoorSame
import Derived.Test.YtoiemlnmcfmakaaDoorOpn
import Derived.Maps.AppendAt
import Derived.Deep.QuietTactic
import Derived.BigQuiet
import Derived.Test.YtoiemlnmcfmakaaDoorCsa
import Derived.Maps.Ext
import Derived.Deep.AppendLies
import Derived.Deep.RegionLaw
import Derived.Deep.DeepCutAuto
namespace Go.Proofs.YtoiemlnmcfmakaaDoor.Pm
open Go Go.RowKit

/-- What is wrong with a list at the places from i on, r of them. -/
def pf (zs : List Int) : Nat → Nat → Int × Int
  | 0, _ => (0, 0)
  | r + 1, i => if zs[i]?.getD 0 < 0 ∨ (zs.length : Int) ≤ zs[i]?.getD 0 then (3, (i : Int)) else if zs[i]?.getD 0 ∈ zs.take i then (10, (i : Int)) else pf zs r (i + 1)
/-- What perm.Check answers: the code and the place. -/
def fault (zs : List Int) : Int × Int := if 1000 < zs.length then (2, 0) else pf zs zs.length 0
theorem pf_range {zs : List Int} {r i : Nat} (h : zs[i]?.getD 0 < 0 ∨ (zs.length : Int) ≤ zs[i]?.getD 0) : pf zs (r + 1) i = (3, (i : Int)) := by
  rw [pf, if_pos h]
theorem pf_twice {zs : List Int} {r i : Nat} (h : ¬ (zs[i]?.getD 0 < 0 ∨ (zs.length : Int) ≤ zs[i]?.getD 0)) (h2 : zs[i]?.getD 0 ∈ zs.take i) : pf zs (r + 1) i = (10, (i : Int)) := by
  rw [pf, if_neg h, if_pos h2]
theorem pf_on {zs : List Int} {r i : Nat} (h : ¬ (zs[i]?.getD 0 < 0 ∨ (zs.length : Int) ≤ zs[i]?.getD 0)) (h2 : ¬ zs[i]?.getD 0 ∈ zs.take i) : pf zs (r + 1) i = pf zs r (i + 1) := by
  rw [pf, if_neg h, if_neg h2]
/-- The numbers 0 to n - 1, each once. -/
def IsPerm (zs : List Int) : Prop := (∀ i, i < zs.length → 0 ≤ zs[i]?.getD 0 ∧ zs[i]?.getD 0 < zs.length) ∧ ∀ i j, i < j → j < zs.length → zs[i]?.getD 0 ≠ zs[j]?.getD 0
theorem mem_take {zs : List Int} {i : Nat} (hi : i ≤ zs.length) (x : Int) : x ∈ zs.take i ↔ ∃ j, j < i ∧ zs[j]?.getD 0 = x := by
  rw [List.mem_iff_getElem?]
  constructor
  · rintro ⟨j, hj⟩
    rw [List.getElem?_take] at hj
    split at hj
    · exact ⟨j, by assumption, by rw [hj]; rfl⟩
    · cases hj
  · rintro ⟨j, hj, rfl⟩
    refine ⟨j, ?_⟩
    rw [List.getElem?_take, if_pos hj, List.getElem?_eq_getElem (by omega)]
    simp
theorem pf_perm {zs : List Int} : ∀ (r i : Nat), i + r = zs.length → (pf zs r i).1 = 0 →
    (∀ k, i ≤ k → k < zs.length → 0 ≤ zs[k]?.getD 0 ∧ zs[k]?.getD 0 < zs.length) ∧ ∀ j k, j < k → i ≤ k → k < zs.length → zs[j]?.getD 0 ≠ zs[k]?.getD 0
  | 0, i, h, _ => ⟨fun k h1 h2 => by omega, fun j k h1 h2 h3 => by omega⟩
  | r + 1, i, h, h0 => by
    by_cases a : zs[i]?.getD 0 < 0 ∨ (zs.length : Int) ≤ zs[i]?.getD 0
    · rw [pf_range a] at h0; simp at h0
    · by_cases b : zs[i]?.getD 0 ∈ zs.take i
      · rw [pf_twice a b] at h0; simp at h0
      · rw [pf_on a b] at h0
        obtain ⟨h1, h2⟩ := pf_perm r (i + 1) (by omega) h0
        rw [mem_take (by omega)] at b
        refine ⟨fun k hk hl => ?_, fun j k hj hk hl => ?_⟩
        · by_cases e : k = i
          · subst e; omega
          · exact h1 k (by omega) hl
        · by_cases e : k = i
          · subst e; exact fun e => b ⟨j, hj, e⟩
          · exact h2 j k hj (by omega) hl
theorem fault_perm {zs : List Int} (h : (fault zs).1 = 0) : IsPerm zs ∧ zs.length ≤ 1000 := by
  unfold fault at h
  split at h
  · simp at h
  · obtain ⟨h1, h2⟩ := pf_perm zs.length 0 (by omega) h
    exact ⟨⟨fun i hi => h1 i (by omega) hi, fun i j hij hj => h2 i j hij (by omega) hj⟩, by omega⟩
theorem pf_zero {zs : List Int} : ∀ (r i : Nat), (pf zs r i).1 = 0 → pf zs r i = (0, 0)
  | 0, i, _ => rfl
  | r + 1, i, h0 => by
    by_cases a : zs[i]?.getD 0 < 0 ∨ (zs.length : Int) ≤ zs[i]?.getD 0
    · rw [pf_range a] at h0; simp at h0
    · by_cases b : zs[i]?.getD 0 ∈ zs.take i
      · rw [pf_twice a b] at h0; simp at h0
      · rw [pf_on a b] at h0 ⊢
        exact pf_zero r (i + 1) h0
theorem fault_zero {zs : List Int} (h : (fault zs).1 = 0) : fault zs = (0, 0) := by
  unfold fault at h ⊢
  split at h
  · simp at h
  · rw [if_neg (by omega)]; exact pf_zero _ _ h
theorem pf_of_perm {zs : List Int} (hp : IsPerm zs) : ∀ (r i : Nat), i + r = zs.length → pf zs r i = (0, 0)
  | 0, i, _ => rfl
  | r + 1, i, h => by
    have h1 := hp.1 i (by omega)
    rw [pf_on (by omega) (fun hm => by
      rw [mem_take (by omega)] at hm
      obtain ⟨j, hj, e⟩ := hm
      exact hp.2 j i hj (by omega) e)]
    exact pf_of_perm hp r (i + 1) (by omega)
theorem fault_of_perm {zs : List Int} (hp : IsPerm zs) (hl : zs.length ≤ 1000) : fault zs = (0, 0) := by
  unfold fault; rw [if_neg (by omega)]; exact pf_of_perm hp _ _ (by omega)
/-- Which points are among the first i numbers. -/
def seenUpto (zs : List Int) (i : Nat) : List Bool := (List.range zs.length).map fun (y : Nat) => decide ((y : Int) ∈ zs.take i)
theorem seenUpto_len (zs : List Int) (i : Nat) : (seenUpto zs i).length = zs.length := by simp [seenUpto]
theorem seenUpto_zero (zs : List Int) : seenUpto zs 0 = List.replicate zs.length false := by
  apply List.ext_getElem
  · simp [seenUpto]
  · intro i h1 h2; simp [seenUpto]
theorem seenUpto_get {zs : List Int} {i : Nat} {x : Int} (h0 : 0 ≤ x) (h1 : x < zs.length) : (seenUpto zs i)[x.toNat]?.getD false = decide (x ∈ zs.take i) := by
  have h2 : x.toNat < zs.length := by omega
  simp [seenUpto, h2, Int.toNat_of_nonneg h0]
theorem take_snoc {zs : List Int} {i : Nat} (hi : i < zs.length) : zs.take (i + 1) = zs.take i ++ [zs[i]?.getD 0] := by
  rw [List.take_succ_eq_append_getElem hi]; simp [hi]
theorem seenUpto_succ {zs : List Int} {i : Nat} (hi : i < zs.length) (h0 : 0 ≤ zs[i]?.getD 0) : (seenUpto zs i).set (zs[i]?.getD 0).toNat true = seenUpto zs (i + 1) := by
  apply List.ext_getElem
  · simp [seenUpto]
  · intro y h1 h2
    rw [List.getElem_set]
    split
    · rename_i e
      have : (y : Int) = zs[i]?.getD 0 := by omega
      simp [seenUpto, take_snoc hi, this]
    · rename_i e
      have : (y : Int) ≠ zs[i]?.getD 0 := by omega
      simp [seenUpto, take_snoc hi, this]
/-- Where a point is moved. -/
def nx (zs : List Int) (x : Nat) : Nat := (zs[x]?.getD 0).toNat
theorem nx_lt {zs : List Int} (hp : IsPerm zs) {x : Nat} (hx : x < zs.length) : nx zs x < zs.length ∧ zs[x]?.getD 0 = (nx zs x : Int) := by
  have := hp.1 x hx
  unfold nx; omega
/-- The product. -/
def mulL (xs ys : List Int) : List Int := xs.map fun x => ys[x.toNat]?.getD 0
theorem mulL_len (xs ys : List Int) : (mulL xs ys).length = xs.length := by simp [mulL]
theorem mulL_get {xs : List Int} (ys : List Int) {i : Nat} (hi : i < xs.length) : (mulL xs ys)[i]?.getD 0 = ys[(xs[i]?.getD 0).toNat]?.getD 0 := by
  simp [mulL, hi]
/-- A list that is filled place by place. -/
def fillTo (L : List Int) (k : Nat) : List Int := L.take k ++ List.replicate (L.length - k) 0
theorem fillTo_zero (L : List Int) : fillTo L 0 = List.replicate L.length 0 := by simp [fillTo]
theorem fillTo_all (L : List Int) : fillTo L L.length = L := by simp [fillTo]
theorem fillTo_len {L : List Int} {k : Nat} (hk : k ≤ L.length) : (fillTo L k).length = L.length := by simp [fillTo]; omega
theorem fillTo_set {L : List Int} {k : Nat} (hk : k < L.length) : (fillTo L k).set k (L[k]?.getD 0) = fillTo L (k + 1) := by
  apply List.ext_getElem
  · rw [List.length_set, fillTo_len (by omega), fillTo_len (by omega)]
  · intro j h1 h2
    rw [List.length_set, fillTo_len (by omega)] at h1
    rw [List.getElem_set]
    simp only [fillTo, List.getElem_append, List.length_take]
    split
    · rename_i e
      subst e
      rw [dif_pos (by omega)]
      simp [hk]
    · rename_i e
      by_cases hj : j < k
      · rw [dif_pos (by omega), dif_pos (by omega)]; simp
      · rw [dif_neg (by omega), dif_neg (by omega)]; simp
theorem info4 : (Tryd.prog.info? 4).map (fun i => (i.zero, i.size, i.bytes)) = some (some (.bool false), 1, 1) := by kernel_rfl
theorem under66 : Tryd.prog.underlying 77 = some (.slice 4) := by kernel_rfl
set_option maxRecDepth 100000 in
set_option maxHeartbeats 1000000 in
theorem check_any (a : Option Addr) (cap pb po : Nat) (zs : List Int) (w : World) (hr : Reads w a pb po zs) (hp : pb < w.heap.size) (hl : zs.length ≤ maxLen) :
    Calls Tryd.prog 127 #[.slice a zs.length cap] w fun e w' => e = .returned (.agg #[.int .i64 (fault zs).1, .int .i64 (fault zs).2]) ∧ Below w.heap.size w w' := by
  unfold maxLen at hl
  obtain ⟨i0, hi, hz0, hz1, hz2⟩ := info_parts info4
  by_cases hbig : 1000 < zs.length
  · have hb1 : (1000 : Int) < (zs.length : Int) := by omega
    have hf : fault zs = (2, 0) := by unfold fault; rw [if_pos hbig]
    go_enter Tryd.func127, Tryd.ntmps127
    go_wp2
    exact bodyPost_ret (v := .agg #[.int .i64 2, .int .i64 0]) (by simp [results, Tryd.results127, go_sem]) rfl ⟨by rw [hf], (Below.refl _ _).alloc (Nat.le_refl _) _⟩
  · have hb1 : (zs.length : Int) ≤ 1000 := by omega
    have hf : fault zs = pf zs zs.length 0 := by unfold fault; rw [if_neg hbig]
    go_enter Tryd.func127, Tryd.ntmps127
    go_wp2_with (first
      | (at_make; refine wpList_make_full _ rfl _ _ 77 rfl (w.heap.size + 1) 4 i0 (.bool false) 1 under66 hi hz0 hz1 _ _ _ _ zs.length rfl rfl rfl rfl (by rw [hz2]; omega) (by unfold maxLen; omega) (by simp) ?_))
    intro w1 hown hg
    have hS : Blk w1 (w.heap.size + 1) 4 ((seenUpto zs 0).map Value.bool) := by
      have := Blk.of_owns hown
      rw [made_rep] at this
      rw [seenUpto_zero, List.map_replicate]; exact this
    have hR : Blk w1 w.heap.size 28 [.int .i64 0, .int .i64 0] := by
      refine (hg.block w.heap.size (by simp) (by simp)).trans ?_
      exact World.alloc_heap_new w _
    have hB : Below w.heap.size w w1 := ((Below.refl _ w).alloc (Nat.le_refl _) _).grown hg (by simp) (by simp)
    clear hown hg
    go_wp2
    go_loopw [15] (fun i wr => ∃ k : Nat, k ≤ zs.length ∧ i = .int .i64 k ∧ Blk wr (w.heap.size + 1) 4 ((seenUpto zs k).map Value.bool) ∧ Blk wr w.heap.size 28 [.int .i64 0, .int .i64 0] ∧ Below w.heap.size w wr ∧ pf zs (zs.length - k) k = pf zs zs.length 0)
      (fun i _ => zs.length - (intOf i).toNat)
    case atStart => exact ⟨0, Nat.zero_le _, rfl, hS, hR, hB, rfl⟩
    case round =>
      obtain ⟨k, hk, rfl, hS1, hR1, hB1, hpf⟩ := hrel
      have HP : Hid (pf zs (zs.length - k) k = pf zs zs.length 0) := hpf
      have HF : Hid (fault zs = pf zs zs.length 0) := hf
      clear hpf hf hS hR hB
      have hsl := seenUpto_len zs k
      have hR0 : wr.cell? ⟨w.heap.size, 0, none⟩ = some (.int .i64 0) := hR1.cell 0
      have hRa : wr.cell? ⟨w.heap.size, 1, none⟩ = some (.int .i64 0) := hR1.cell 1
      have hF0 := hR1.frozen 0
      have hF1 := hR1.frozen 1
      by_cases hlt : k < zs.length
      · obtain rfl := hr.at_ (by omega)
        have hx : wr.cell? ⟨pb, po + k, none⟩ = some (.int .i64 (zs[k]?.getD 0)) := (hB1.cell (p := ⟨pb, po + k, none⟩) hp).trans (hr.cell k hlt)
        generalize hxe : zs[k]?.getD 0 = x at hx
        have HX : Hid (zs[k]?.getD 0 = x) := hxe
        clear hxe
        have hn : zs.length - k = (zs.length - (k + 1)) + 1 := by omega
        have HN : Hid (zs.length - k = (zs.length - (k + 1)) + 1) := hn
        clear hn
        by_cases h1 : x < 0
        · have hfin : fault zs = (3, (k : Int)) := by
            rw [HF.out, ← HP.out, HN.out, pf_range (by rw [HX.out]; exact .inl h1)]
          have HFIN : Hid (fault zs = (3, (k : Int))) := hfin
          clear hfin
          go_wp2
          refine bodyPost_ret (v := .agg #[.int .i64 3, .int .i64 k]) (by simp [results, Tryd.results127, go_sem, hR0, hRa]) rfl ⟨by rw [HFIN.out], ?_⟩
          exact (hB1.setCell (p := ⟨w.heap.size, 0, none⟩) (Nat.le_refl _) _).setCell (p := ⟨w.heap.size, 1, none⟩) (Nat.le_refl _) _
        · by_cases h2 : (zs.length : Int) ≤ x
          · have hfin : fault zs = (3, (k : Int)) := by
              rw [HF.out, ← HP.out, HN.out, pf_range (by rw [HX.out]; exact .inr h2)]
            have HFIN : Hid (fault zs = (3, (k : Int))) := hfin
            clear hfin
            go_wp2
            refine bodyPost_ret (v := .agg #[.int .i64 3, .int .i64 k]) (by simp [results, Tryd.results127, go_sem, hR0, hRa]) rfl ⟨by rw [HFIN.out], ?_⟩
            exact (hB1.setCell (p := ⟨w.heap.size, 0, none⟩) (Nat.le_refl _) _).setCell (p := ⟨w.heap.size, 1, none⟩) (Nat.le_refl _) _
          · have hin : ¬ (zs[k]?.getD 0 < 0 ∨ (zs.length : Int) ≤ zs[k]?.getD 0) := by rw [HX.out]; omega
            have HIN := hide hin
            clear hin
            obtain ⟨y, rfl⟩ := Int.eq_ofNat_of_zero_le (show 0 ≤ x by omega)
            have hs := hS1.bool (y := y) (by rw [hsl]; omega)
            have hsf := hS1.frozen y
            have hsg : (seenUpto zs k)[y]?.getD false = decide ((y : Int) ∈ zs.take k) := by
              have := seenUpto_get (zs := zs) (i := k) (x := (y : Int)) (by omega) (by omega)
              rwa [Int.toNat_natCast] at this
            by_cases h3 : (y : Int) ∈ zs.take k
            · rw [hsg, decide_eq_true h3] at hs
              have hfin : fault zs = (10, (k : Int)) := by
                rw [HF.out, ← HP.out, HN.out, pf_twice (unhide HIN) (by rw [HX.out]; exact h3)]
              have HFIN : Hid (fault zs = (10, (k : Int))) := hfin
              clear hfin hsg h3
              go_wp2
              refine bodyPost_ret (v := .agg #[.int .i64 10, .int .i64 k]) (by simp [results, Tryd.results127, go_sem, hR0, hRa]) rfl ⟨by rw [HFIN.out], ?_⟩
              exact (hB1.setCell (p := ⟨w.heap.size, 0, none⟩) (Nat.le_refl _) _).setCell (p := ⟨w.heap.size, 1, none⟩) (Nat.le_refl _) _
            · rw [hsg, decide_eq_false h3] at hs
              have hon : pf zs (zs.length - (k + 1)) (k + 1) = pf zs zs.length 0 := by
                rw [← HP.out, HN.out, pf_on (unhide HIN) (by rw [HX.out]; exact h3)]
              have HON : Hid (pf zs (zs.length - (k + 1)) (k + 1) = pf zs zs.length 0) := hon
              have hS2 := hS1.setBool y true
              rw [show (seenUpto zs k).set y true = seenUpto zs (k + 1) by
                have := seenUpto_succ hlt (by rw [HX.out]; omega)
                rwa [HX.out, Int.toNat_natCast] at this] at hS2
              have hR2 := hR1.other (p := ⟨w.heap.size + 1, y, none⟩) (by simp) (.bool true)
              clear hon hsg h3
              go_wp2
              go_roundw
              case rel => exact ⟨k + 1, by omega, by go_num, hS2, hR2, hB1.setCell (p := ⟨w.heap.size + 1, y, none⟩) (by simp) _, HON.out⟩
              case measure => simp [intOf]; omega
      · have hfin : fault zs = (0, 0) := by
          rw [HF.out, ← HP.out, show zs.length - k = 0 by omega]; rfl
        have HFIN : Hid (fault zs = (0, 0)) := hfin
        clear hfin
        go_wp2
        refine bodyPost_ret (v := .agg #[.int .i64 0, .int .i64 0]) (by simp [results, Tryd.results127, go_sem, hR0, hRa]) rfl ⟨by rw [HFIN.out], ?_⟩
        exact (hB1.setCell (p := ⟨w.heap.size, 0, none⟩) (Nat.le_refl _) _).setCell (p := ⟨w.heap.size, 1, none⟩) (Nat.le_refl _) _
set_option maxRecDepth 100000 in
set_option maxHeartbeats 1000000 in
theorem has_any (a : Option Addr) (cap pb po n : Nat) (xs : List Int) (x : Int) (w : World) (hn : n = xs.length) (hr : Reads w a pb po xs) (hl : xs.length ≤ maxLen) :
    Calls Tryd.prog 53 #[.slice a n cap, .int .i64 x] w fun e w' => e = .returned (.bool (decide (x ∈ xs))) ∧ w' = w := by
  subst hn
  unfold maxLen at hl
  go_enter Tryd.func53, Tryd.ntmps53
  go_wp2
  go_loop [5] (fun i => ∃ k : Nat, k ≤ xs.length ∧ i = .int .i64 k ∧ ∀ j, j < k → xs[j]?.getD 0 ≠ x) (fun i => xs.length - (intOf i).toNat)
  case atStart => exact ⟨0, Nat.zero_le _, rfl, fun j hj => by omega⟩
  case round =>
    obtain ⟨k, hk, rfl, hno⟩ := hrel
    have HN := hide hno
    clear hno
    by_cases hlt : k < xs.length
    · have hc := hr.cell k hlt
      obtain rfl := hr.at_ (by omega)
      generalize hye : xs[k]?.getD 0 = y at hc
      have HY := hide hye
      clear hye
      by_cases hyx : y = x
      · have hm : decide (x ∈ xs) = true := by
          rw [decide_eq_true_eq, List.mem_iff_getElem?]
          refine ⟨k, ?_⟩
          have := HY.out
          rw [List.getElem?_eq_getElem hlt] at this ⊢
          simp at this
          rw [this, hyx]
        have HM := hide hm
        have hb : (y == x) = true := by simp [hyx]
        have HE := hide hyx
        clear hm hyx
        go_wp2
        go_ret
        exact ⟨by rw [HM.out]; rfl, rfl⟩
      · have hb : (y == x) = false := by simp [hyx]
        have HE := hide hyx
        clear hyx
        go_wp2
        go_round
        case rel => exact ⟨k + 1, by omega, by go_num, fun j hj => by
          by_cases e : j = k
          · rw [e, HY.out]; exact HE.out
          · exact HN.out j (by omega)⟩
        case measure => simp [intOf]; omega
    · have hm : decide (x ∈ xs) = false := by
        rw [decide_eq_false_iff_not, List.mem_iff_getElem?]
        rintro ⟨j, hj⟩
        have hjl : j < xs.length := (List.getElem?_eq_some_iff.1 hj).1
        exact HN.out j (by omega) (by rw [hj]; rfl)
      have HM := hide hm
      clear hm
      go_wp2
      go_ret
      exact ⟨by rw [HM.out]; rfl, rfl⟩
/-- What is told of two lists that are to go together. -/
def twof (xs ys : List Int) : Int × Int := if (fault xs).1 ≠ 0 then fault xs else if (fault ys).1 ≠ 0 then fault ys else if xs.length ≠ ys.length then (8, 0) else (0, 0)
theorem check_sl (v : Value) (zs : List Int) (w : World) (hv : Sl w v zs) :
    Calls Tryd.prog 127 #[v] w fun e w' => e = .returned (.agg #[.int .i64 (fault zs).1, .int .i64 (fault zs).2]) ∧ Below w.heap.size w w' := by
  obtain ⟨a, cap, pb, po, rfl, hr, hp, h1, h2⟩ := hv
  exact check_any a cap pb po zs w hr hp (Nat.le_trans h1 h2)
set_option maxRecDepth 100000 in
set_option maxHeartbeats 2000000 in
theorem checkPair_any (u v : Value) (xs ys : List Int) (w : World) (hu : Sl w u xs) (hv : Sl w v ys) :
    Calls Tryd.prog 114 #[u, v] w fun e w' => e = .returned (.agg #[.int .i64 (twof xs ys).1, .int .i64 (twof xs ys).2]) ∧ Below w.heap.size w w' := by
  have hB0 : Below w.heap.size w (w.alloc (.cells #[.int .i64 0, .int .i64 0] 28)) := (Below.refl _ w).alloc (Nat.le_refl _) _
  have hu0 := hu.below hB0
  have hv0 := hv.below hB0
  have hR0 := blk0 (w := w) (T := 28) (.int .i64 0) (.int .i64 0)
  obtain ⟨a, cap, pb1, po1, rfl, hq2, hq22, hq3, hq4⟩ := hu
  obtain ⟨b, cap', pb2, po2, rfl, hq6, hq66, hq7, hq8⟩ := hv
  clear hq2 hq6
  unfold maxLen at hq4 hq8
  go_enter Tryd.func114, Tryd.ntmps114
  go_wp2_with fail
  refine (check_sl _ xs _ hu0).mono ?_
  rintro e w1 ⟨rfl, hl1⟩
  have hv1 := hv0.below hl1
  have hB1 := bcat hB0 hl1 (by simp)
  have hR1 : Blk w1 w.heap.size 28 [.int .i64 0, .int .i64 0] := hR0.of_eq (hl1.block _ (by simp))
  have hs1 : w.heap.size < w1.heap.size := hR1.lt
  clear hl1 hu0 hv0 hR0 hB0
  obtain ⟨hc0, hc1, hf0, hf1⟩ := hR1.two
  by_cases h1 : (fault xs).1 = 0
  · have e1 := fault_zero h1
    rw [e1]
    go_wp2_with fail
    have hB2 : Below w1.heap.size w1 (w1.alloc (.cells #[.int .i64 0, .int .i64 0] 28)) := (Below.refl _ w1).alloc (Nat.le_refl _) _
    refine (check_sl _ ys _ (hv1.below hB2)).mono ?_
    rintro e w2 ⟨rfl, hl2⟩
    have hB3 := bcat (bcat hB1 hB2 hB1.size) hl2 (by simp; omega)
    have hR2 : Blk w2 w.heap.size 28 [.int .i64 0, .int .i64 0] := (hR1.alloc _).of_eq (hl2.block _ (by simp; omega))
    obtain ⟨hd0, hd1, hg0, hg1⟩ := hR2.two
    have hlt2 := hR2.lt
    clear hl2 hB2 hc0 hc1 hf0 hf1
    by_cases h2 : (fault ys).1 = 0
    · have e2 := fault_zero h2
      rw [e2]
      by_cases h3 : xs.length = ys.length
      · have ef : twof xs ys = (0, 0) := by unfold twof; rw [if_neg (by simp [h1]), if_neg (by simp [h2]), if_neg (by simp [h3])]
        have EF := hide ef
        have hbe : ((xs.length : Int) != (ys.length : Int)) = false := by simp [h3]
        clear ef h3 h2 h1 e1 e2
        go_wp2
        have hW : Blk (((w2.setCell ⟨w.heap.size, 0, none⟩ (.int .i64 0)).setCell ⟨w.heap.size, 1, none⟩ (.int .i64 0)).alloc (.cells #[.int .i64 0, .int .i64 0] 28)) w.heap.size 28 [.int .i64 0, .int .i64 0] := ((hR2.set 0 _).set 1 _).alloc _
        have hBW : Below w.heap.size w (((w2.setCell ⟨w.heap.size, 0, none⟩ (.int .i64 0)).setCell ⟨w.heap.size, 1, none⟩ (.int .i64 0)).alloc (.cells #[.int .i64 0, .int .i64 0] 28)) := ((hB3.setCell (p := ⟨w.heap.size, 0, none⟩) (by simp) _).setCell (p := ⟨w.heap.size, 1, none⟩) (by simp) _).alloc (by simp; omega) _
        generalize ((w2.setCell ⟨w.heap.size, 0, none⟩ (.int .i64 0)).setCell ⟨w.heap.size, 1, none⟩ (.int .i64 0)).alloc (.cells #[.int .i64 0, .int .i64 0] 28) = W at hW hBW ⊢
        obtain ⟨h0, h1, _, _⟩ := hW.two
        exact bodyPost_ret (v := .agg #[.int .i64 0, .int .i64 0]) (by simp [results, Tryd.results114, go_sem, h0, h1]) rfl ⟨by rw [EF.out], hBW⟩
      · have ef : twof xs ys = (8, 0) := by unfold twof; rw [if_neg (by simp [h1]), if_neg (by simp [h2]), if_pos h3]
        have EF := hide ef
        have hbe : ((xs.length : Int) != (ys.length : Int)) = true := by simp; omega
        clear ef h3 h2 h1 e1 e2
        go_wp2
        have hW : Blk (((w2.setCell ⟨w.heap.size, 0, none⟩ (.int .i64 8)).setCell ⟨w.heap.size, 1, none⟩ (.int .i64 0)).alloc (.cells #[.int .i64 0, .int .i64 0] 28)) w.heap.size 28 [.int .i64 8, .int .i64 0] := ((hR2.set 0 _).set 1 _).alloc _
        have hBW : Below w.heap.size w (((w2.setCell ⟨w.heap.size, 0, none⟩ (.int .i64 8)).setCell ⟨w.heap.size, 1, none⟩ (.int .i64 0)).alloc (.cells #[.int .i64 0, .int .i64 0] 28)) := ((hB3.setCell (p := ⟨w.heap.size, 0, none⟩) (by simp) _).setCell (p := ⟨w.heap.size, 1, none⟩) (by simp) _).alloc (by simp; omega) _
        generalize ((w2.setCell ⟨w.heap.size, 0, none⟩ (.int .i64 8)).setCell ⟨w.heap.size, 1, none⟩ (.int .i64 0)).alloc (.cells #[.int .i64 0, .int .i64 0] 28) = W at hW hBW ⊢
        obtain ⟨h0, h1, _, _⟩ := hW.two
        exact bodyPost_ret (v := .agg #[.int .i64 8, .int .i64 0]) (by simp [results, Tryd.results114, go_sem, h0, h1]) rfl ⟨by rw [EF.out], hBW⟩
    · have ef : twof xs ys = fault ys := by unfold twof; rw [if_neg (by simp [h1]), if_pos h2]
      obtain ⟨c, i, hci⟩ : ∃ c i, fault ys = (c, i) := ⟨_, _, rfl⟩
      rw [hci] at ef h2 ⊢
      have EF := hide ef
      have hbe : (c != 0) = true := by simpa using h2
      clear ef h2 h1 e1 hci
      go_wp2
      have hW : Blk (((w2.setCell ⟨w.heap.size, 0, none⟩ (.int .i64 c)).setCell ⟨w.heap.size, 1, none⟩ (.int .i64 i)).alloc (.cells #[.int .i64 c, .int .i64 i] 28)) w.heap.size 28 [.int .i64 c, .int .i64 i] := ((hR2.set 0 _).set 1 _).alloc _
      have hBW : Below w.heap.size w (((w2.setCell ⟨w.heap.size, 0, none⟩ (.int .i64 c)).setCell ⟨w.heap.size, 1, none⟩ (.int .i64 i)).alloc (.cells #[.int .i64 c, .int .i64 i] 28)) := ((hB3.setCell (p := ⟨w.heap.size, 0, none⟩) (by simp) _).setCell (p := ⟨w.heap.size, 1, none⟩) (by simp) _).alloc (by simp; omega) _
      generalize ((w2.setCell ⟨w.heap.size, 0, none⟩ (.int .i64 c)).setCell ⟨w.heap.size, 1, none⟩ (.int .i64 i)).alloc (.cells #[.int .i64 c, .int .i64 i] 28) = W at hW hBW ⊢
      obtain ⟨h0, h1, _, _⟩ := hW.two
      exact bodyPost_ret (v := .agg #[.int .i64 c, .int .i64 i]) (by simp [results, Tryd.results114, go_sem, h0, h1]) rfl ⟨by rw [EF.out], hBW⟩
  · have ef : twof xs ys = fault xs := by unfold twof; rw [if_pos h1]
    obtain ⟨c, i, hci⟩ : ∃ c i, fault xs = (c, i) := ⟨_, _, rfl⟩
    rw [hci] at ef h1 ⊢
    have EF := hide ef
    have hbe : (c != 0) = true := by simpa using h1
    clear ef h1 hci
    go_wp2
    have hW : Blk (((w1.setCell ⟨w.heap.size, 0, none⟩ (.int .i64 c)).setCell ⟨w.heap.size, 1, none⟩ (.int .i64 i)).alloc (.cells #[.int .i64 c, .int .i64 i] 28)) w.heap.size 28 [.int .i64 c, .int .i64 i] := ((hR1.set 0 _).set 1 _).alloc _
    have hBW : Below w.heap.size w (((w1.setCell ⟨w.heap.size, 0, none⟩ (.int .i64 c)).setCell ⟨w.heap.size, 1, none⟩ (.int .i64 i)).alloc (.cells #[.int .i64 c, .int .i64 i] 28)) := ((hB1.setCell (p := ⟨w.heap.size, 0, none⟩) (by simp) _).setCell (p := ⟨w.heap.size, 1, none⟩) (by simp) _).alloc (by simp; omega) _
    generalize ((w1.setCell ⟨w.heap.size, 0, none⟩ (.int .i64 c)).setCell ⟨w.heap.size, 1, none⟩ (.int .i64 i)).alloc (.cells #[.int .i64 c, .int .i64 i] 28) = W at hW hBW ⊢
    obtain ⟨h0, h1, _, _⟩ := hW.two
    exact bodyPost_ret (v := .agg #[.int .i64 c, .int .i64 i]) (by simp [results, Tryd.results114, go_sem, h0, h1]) rfl ⟨by rw [EF.out], hBW⟩
theorem twof_ok {xs ys : List Int} (hx : IsPerm xs) (hy : IsPerm ys) (hl : xs.length = ys.length) (h1 : xs.length ≤ 1000) : twof xs ys = (0, 0) := by
  unfold twof
  rw [fault_of_perm hx h1, fault_of_perm hy (by omega)]
  simp [hl]
set_option maxRecDepth 100000 in
set_option maxHeartbeats 2000000 in
theorem mul_ok (u v : Value) (xs ys : List Int) (w : World) (hu : Sl w u xs) (hv : Sl w v ys) (hx : IsPerm xs) (hy : IsPerm ys) (hl : xs.length = ys.length) (h1000 : xs.length ≤ 1000) :
    Calls Tryd.prog 79 #[u, v] w fun e w' => ∃ r, e = .returned (.tuple #[r, .agg #[.int .i64 0, .int .i64 0]]) ∧ SlF w.heap.size w' r (mulL xs ys) ∧ Below w.heap.size w w' := by
  obtain ⟨i0, hi, hz0, hz1, hz2⟩ := info_parts info3b
  have hB0 : Below w.heap.size w (w.alloc (.cells #[.int .i64 0, .int .i64 0] 28)) := (Below.refl _ w).alloc (Nat.le_refl _) _
  have hu0 := hu.below hB0
  have hv0 := hv.below hB0
  have hR0 := blk0 (w := w) (T := 28) (.int .i64 0) (.int .i64 0)
  obtain ⟨a, cap, pb, po, rfl, hr, hp, hq3, hq4⟩ := hu
  obtain ⟨b, cap', qb, qo, rfl, hs, hq, hq7, hq8⟩ := hv
  have htw := twof_ok hx hy hl h1000
  have HL := hide hl
  have hle1 : xs.length ≤ ys.length := by omega
  have hle2 : ys.length ≤ xs.length := by omega
  clear hl
  go_enter Tryd.func79, Tryd.ntmps79
  go_wp2_with fail
  refine (checkPair_any _ _ xs ys _ hu0 hv0).mono ?_
  rintro e w1 ⟨rfl, hl1⟩
  rw [htw]
  have hB1 := bcat hB0 hl1 (by simp)
  have hR1 : Blk w1 w.heap.size 28 [.int .i64 0, .int .i64 0] := hR0.of_eq (hl1.block _ (by simp))
  have hs1 : w.heap.size < w1.heap.size := hR1.lt
  have HTW := hide htw
  have HX := hide hx
  have HY := hide hy
  clear hl1 hu0 hv0 hR0 hB0 htw hx hy
  go_wp2_with (first
    | (at_make; refine wpList_make_full _ rfl _ _ 22 rfl (w1.heap.size + 1) 3 i0 (.int .i64 0) 1 under22b hi hz0 hz1 _ _ _ _ xs.length rfl rfl rfl rfl (by rw [hz2]; omega) (by unfold maxLen; omega) (by simp) ?_))
  intro w2 hown hg
  have hP2 : Blk w2 (w1.heap.size + 1) 3 ((fillTo (mulL xs ys) 0).map (Value.int .i64)) := by
    have := Blk.of_owns hown
    rw [made_rep] at this
    rw [fillTo_zero, List.map_replicate, mulL_len]; exact this
  have hB2 : Below w.heap.size w w2 := (hB1.alloc hB1.size _).grown hg (by simp; omega) (by simp)
  have hR2 : Blk w2 w.heap.size 28 [.int .i64 0, .int .i64 0] := (hR1.alloc _).grown hg (by simp)
  clear hown hg hB1 hR1
  go_wp2
  go_loopw [22] (fun i wr => ∃ k : Nat, k ≤ xs.length ∧ i = .int .i64 k ∧ Blk wr (w1.heap.size + 1) 3 ((fillTo (mulL xs ys) k).map (Value.int .i64)) ∧ Below w.heap.size w wr ∧ Blk wr w.heap.size 28 [.int .i64 0, .int .i64 0])
    (fun i _ => xs.length - (intOf i).toNat)
  case atStart => exact ⟨0, Nat.zero_le _, rfl, hP2, hB2, hR2⟩
  case round =>
    obtain ⟨k, hk, rfl, hPk, hBk, hRk⟩ := hrel
    clear hP2 hB2 hR2
    by_cases hlt : k < xs.length
    · have hn := nx_lt HX.out hlt
      have hcx := (hr.below hBk hp).cell k hlt
      have hcy := (hs.below hBk hq).cell (nx xs k) (by omega)
      rw [hn.2] at hcx
      obtain rfl := hr.at_ (by omega)
      obtain rfl := hs.at_ (by omega)
      have hgk : (mulL xs ys)[k]?.getD 0 = ys[nx xs k]?.getD 0 := mulL_get ys hlt
      have hfl := fillTo_len (L := mulL xs ys) (k := k) (by rw [mulL_len]; omega)
      rw [mulL_len] at hfl
      have hck : wr.cell? ⟨w1.heap.size + 1, k, none⟩ = some (.int .i64 ((fillTo (mulL xs ys) k)[k]?.getD 0)) := hPk.int (by rw [hfl]; omega)
      have hfk := hPk.frozen k
      have hset := hPk.setInt k (ys[nx xs k]?.getD 0)
      rw [← hgk, fillTo_set (by rw [mulL_len]; omega), hgk] at hset
      have HN := hide hn.2
      obtain ⟨hn1, _⟩ := hn
      generalize nx xs k = x at hcx hcy hn1 hset HN
      generalize ys[x]?.getD 0 = y at hcy hset
      generalize (fillTo (mulL xs ys) k)[k]?.getD 0 = z at hck
      have hR3 := hRk.other (p := ⟨w1.heap.size + 1, k, none⟩) (by simp; omega) (.int .i64 y)
      have hB3 := hBk.setCell (p := ⟨w1.heap.size + 1, k, none⟩) (by simp; omega) (.int .i64 y)
      clear hgk hfl
      have hx1 : (x : Int) < (ys.length : Int) := by omega
      go_wp2
      go_roundw
      case rel => exact ⟨k + 1, by omega, by go_num, hset, hB3, hR3⟩
      case measure => simp [intOf]; omega
    · obtain ⟨hc0, hc1, hf0, hf1⟩ := hRk.two
      have hkk : k = xs.length := by omega
      subst hkk
      have hP4 : Blk ((wr.setCell ⟨w.heap.size, 0, none⟩ (.int .i64 0)).setCell ⟨w.heap.size, 1, none⟩ (.int .i64 0)) (w1.heap.size + 1) 3 ((mulL xs ys).map (Value.int .i64)) := by
        have := (hPk.other (p := ⟨w.heap.size, 0, none⟩) (by simp; omega) (.int .i64 0)).other (p := ⟨w.heap.size, 1, none⟩) (by simp; omega) (.int .i64 0)
        have e : fillTo (mulL xs ys) xs.length = mulL xs ys := by
          have := fillTo_all (mulL xs ys)
          rwa [mulL_len] at this
        rwa [e] at this
      have hR4 : Blk ((wr.setCell ⟨w.heap.size, 0, none⟩ (.int .i64 0)).setCell ⟨w.heap.size, 1, none⟩ (.int .i64 0)) w.heap.size 28 [.int .i64 0, .int .i64 0] := (hRk.set 0 _).set 1 _
      have hB4 := (hBk.setCell (p := ⟨w.heap.size, 0, none⟩) (by simp) (.int .i64 0)).setCell (p := ⟨w.heap.size, 1, none⟩) (by simp) (.int .i64 0)
      clear hPk
      go_wp2
      generalize (wr.setCell ⟨w.heap.size, 0, none⟩ (.int .i64 0)).setCell ⟨w.heap.size, 1, none⟩ (.int .i64 0) = W at hP4 hR4 hB4 ⊢
      obtain ⟨h0, h1, _, _⟩ := hR4.two
      exact bodyPost_ret (v := .tuple #[.slice (some ⟨w1.heap.size + 1, 0, none⟩) xs.length xs.length, .agg #[.int .i64 0, .int .i64 0]]) (by simp [results, Tryd.results79, go_sem, h0, h1]) rfl ⟨_, rfl, SlF.of_blk hP4 (by rw [mulL_len]) (by rw [mulL_len]; omega) (by omega), hB4⟩
end Go.Proofs.YtoiemlnmcfmakaaDoor.Pm

namespace Go.Proofs.YtoiemlnmcfmakaaDoor
open Go Go.RowKit Go.Maps

/-- The number of a thing's set. -/
def num (n : Nat) (f : Nat → Nat → Bool) (a : Nat) : Nat := (fsts n f (((List.range n).find? fun b => decide (bs (f b) n = bs (f a) n)).getD 0)).length
theorem num_same {n a b : Nat} {f : Nat → Nat → Bool} (h : bs (f a) n = bs (f b) n) : num n f a = num n f b := by unfold num; rw [h]
theorem num_new {n j : Nat} {f : Nat → Nat → Bool} (hj : j < n) (h : (List.range j).all (fun b => decide (bs (f b) n ≠ bs (f j) n)) = true) : num n f j = (fsts n f j).length := by
  unfold num
  have : ((List.range n).find? fun b => decide (bs (f b) n = bs (f j) n)) = some j := by
    rw [List.find?_range_eq_some]
    refine ⟨by simp, List.mem_range.2 hj, fun b hb => ?_⟩
    have := List.all_eq_true.1 h b (List.mem_range.2 hb)
    simpa using this
  rw [this]; rfl
/-- The numbers that the map has. -/
def MNum (n : Nat) (f : Nat → Nat → Bool) (j : Nat) (D : DataW Unit) : Prop := ∀ a, a < j → D.atKey (.int .u64 (bs (f a) n : Nat)) (.lit (.int .i64 0)) = .lit (.int .i64 (num n f a : Nat))
theorem mnum_step {n j : Nat} {f : Nat → Nat → Bool} {D : DataW Unit} (h : MNum n f j D) (hD : IsMap D) (hj : j < n) (hnew : (List.range j).all (fun b => decide (bs (f b) n ≠ bs (f j) n)) = true) : MNum n f (j + 1) (D.put (.int .u64 (bs (f j) n : Nat)) (.lit (.int .i64 ((fsts n f j).length : Nat)))) := by
  intro a ha
  by_cases e : a = j
  · subst e
    rw [atKey_put_same hD (by trivial), num_new hj hnew]
  · have hne := List.all_eq_true.1 hnew a (List.mem_range.2 (by omega))
    rw [atKey_put_other (fun h9 => by injection h9 with _ h9; simp at hne; omega)]
    exact h a (by omega)
theorem mnum_same {n j : Nat} {f : Nat → Nat → Bool} {D : DataW Unit} (h : MNum n f j D) (hs : ∃ a, a < j ∧ bs (f a) n = bs (f j) n) : MNum n f (j + 1) D := by
  obtain ⟨b, hb, e⟩ := hs
  intro a ha
  by_cases e9 : a = j
  · subst e9
    have := h b hb
    rw [e, num_same e] at this
    exact this
  · exact h a (by omega)
set_option maxRecDepth 100000 in
set_option maxHeartbeats 8000000 in
theorem parts2_ok (n k : Nat) (caps : Array Value) (f : Nat → Nat → Bool) (w : World) (hn : n ≤ 60) (hT : Tab w)
    (hcall : ∀ a W, Sem.run Tryd.prog (callFunc k (#[.int .i64 a] ++ caps)) W = .ok (.enter k (#[.int .i64 a] ++ caps)) W)
    (hp : ∀ (W : World) (a : Nat), Below w.heap.size w W → a < n → Calls Tryd.prog k (#[.int .i64 a] ++ caps) W fun e w' => e = .returned (.int .u64 (bs (f a) n)) ∧ Below W.heap.size W w') :
    Calls Tryd.prog 101 #[.int .i64 n, .func (.func k) #[] caps] w fun x w' => ∃ r vs D, x = .returned (.tuple #[r, .map (some w.heap.size)]) ∧ w'.ownsRow (w.heap.size + 1) 22 1 r vs.length vs ∧ Lsts w' (w.heap.size + 1) r vs (csl n f n) ∧ w'.ownsMap Tryd.prog 71 (plainElem Tryd.prog 3) w.heap.size n D ∧ MInv n f n D ∧ MNum n f n D ∧ Below w.heap.size w w' := by
  obtain ⟨i0, hi, hz0, hz1, hz2⟩ := info_parts info22b
  have hmm := @run_makeMap Tryd.prog
  have HP := hide hp
  clear hp
  go_enter Tryd.func101, Tryd.ntmps101
  go_wp2
  clear hmm
  go_loopw [6, 14] (fun r i wr => ∃ (j : Nat) (vs : List Value) (D : DataW Unit), j ≤ n ∧ i = .int .i64 j ∧ wr.ownsRow (w.heap.size + 1) 22 1 r vs.length vs ∧ Lsts wr (w.heap.size + 1) r vs (csl n f j) ∧ wr.ownsMap Tryd.prog 71 (plainElem Tryd.prog 3) w.heap.size j D ∧ MInv n f j D ∧ MNum n f j D ∧ Below w.heap.size w wr) (fun _ i _ => n - (intOf i).toNat)
  case atStart => exact ⟨0, [], .map [], Nat.zero_le _, rfl, World.ownsRow_nil _ _ _ _, ⟨rfl, fun t x l h => by simp at h⟩, World.ownsMap_made _ _ _ _, fun s => ⟨fun h => by simp [Maps.has] at h, fun ⟨a, h, _⟩ => by omega⟩, fun a h => by omega, balloc w _⟩
  case round =>
    obtain ⟨j, vs, D, hj, rfl, hrow, hls, hmap, hM, hMN, hB⟩ := hrel
    obtain ⟨ra, rcap, rfl⟩ := own_slice' hrow
    by_cases hlt : j < n
    · have hji : (j : Int) < (n : Int) := by omega
      go_wp2_with fail
      refine (HP.out wr j hB hlt).mono ?_
      rintro e1 w1 ⟨rfl, hb1⟩
      have hB1 := bcat2 hB hb1
      have hmap1 := hmap.kept (below_grown hb1 none) (by simp)
      have hrow1 := hrow.kept (below_grown hb1 none) (by cases ra <;> simp [Value.ownBlock])
      have hls1 : Lsts w1 (w.heap.size + 1) (.slice ra vs.length rcap) vs (csl n f j) := hls.keep hb1.size (fun g _ h2 _ => hb1.block g h2) (.inl rfl)
      have hkw : (Lit.int .u64 (bs (f j) n : Nat)).wf = true := WalkArith.wf_u64 (by have := bs_64 (p := f j) hn; omega)
      have hkey := keyOf_int_mk und77 hkw
      have hvl : vs.length ≤ j := by rw [hls.1]; unfold csl; rw [List.length_map]; exact fsts_len n f j
      have hs1 : w.heap.size < w1.heap.size := Nat.lt_of_lt_of_le hmap.lt hb1.size
      clear hrow hls hmap hB hb1
      cases hh : Maps.has D (.int .u64 (bs (f j) n : Nat)) with
      | false =>
        have HST := hide (show csl n f (j + 1) = csl n f j ++ [li (lst n (f j))] by
          unfold csl
          rw [fsts_succ, if_pos ((minv_new hM).1 hh), List.map_append]; rfl)
        have HMV := hide (fun d => minv_step (d := d) hM (map_is hmap1))
        have HNV := hide (mnum_step hMN (map_is hmap1) hlt ((minv_new hM).1 hh))
        have HVL2 := hide (show vs.length = (fsts n f j).length by rw [hls1.1, csl_len])
        go_wp2_with (first
          | (at_lookup; refine wpList_lookup_own_ok_int _ rfl _ _ 88 rfl 71 3 .i64 law77 und95 und3' (zero3 _) w.heap.size _ D rfl hmap1 _ _ rfl hkey ?_; intro c hat hwc; rw [hh])
          | (at_mapUpdate; refine wpList_mapUpdate_own _ rfl _ _ _ 88 rfl 71 3 law77 und95 _ w.heap.size _ D rfl hmap1 (by unfold maxLen; omega) _ _ _ rfl rfl hkey _ [] (plainElem_int und3' (WalkArith.wf_i64 (by omega))) ?_; intro w2 hmap2 hgrow2))
        have hB2 := hB1.grown hgrow2 hB1.size (fun k hk => by cases hk; exact Nat.le_refl _)
        have hrow2 := hrow1.kept hgrow2 (by
          by_cases h9 : (Value.slice ra vs.length rcap).ownBlock = some w.heap.size
          · have := owns_ge hrow1 _ h9; omega
          · exact .inr h9)
        have hls2 : Lsts w2 (w.heap.size + 1) (.slice ra vs.length rcap) vs (csl n f j) := hls1.keep hgrow2.size (fun g h1 h2 _ => hgrow2.block g h2 (by simp; omega)) (.inl rfl)
        have hs2 : w.heap.size < w2.heap.size := Nat.lt_of_lt_of_le hs1 hgrow2.size
        clear hrow1 hls1 hmap1 hB1 hgrow2
        refine (list_ok n (f j) w2 hn (hT.below hB2)).mono ?_
        rintro e3 w3 ⟨r9, rfl, hr9, hb3⟩
        have hB3 := bcat2 hB2 hb3
        have hrow3 := hrow2.kept (below_grown hb3 none) (by cases ra <;> simp [Value.ownBlock])
        have hls3 : Lsts w3 (w.heap.size + 1) (.slice ra vs.length rcap) vs (csl n f j) := hls2.keep hb3.size (fun g _ h2 _ => hb3.block g h2) (.inl rfl)
        have hmap3 := hmap2.kept (below_grown hb3 none) (by simp)
        have hown2 : ∀ g, (Value.slice ra vs.length rcap).ownBlock = some g → g < w2.heap.size := fun g hg => by
          rcases hrow2.2 with ⟨h1, _⟩ | ⟨g', cap, cur, h1, _, hh9, _⟩
          · rw [h1] at hg; simp [Value.ownBlock] at hg
          · rw [h1] at hg
            simp [Value.ownBlock] at hg
            subst hg
            exact (Array.getElem?_eq_some_iff.1 hh9).1
        obtain ⟨qa, qcap, qb, qo, rfl, hq, hq1, hq2, hq3, hq4⟩ := hr9
        have hs3 := hb3.size
        have HQ := hide hq
        clear hrow2 hls2 hmap2 hB2 hb3 hq
        generalize li (lst n (f j)) = lj at *
        go_wp2_with (first
          | (at_builtin; refine wpList_append_own_at _ rfl _ _ 55 rfl (w.heap.size + 1) 22 i0 (.slice none 0 0) 1 24 under25b hi hz0 hz1 hz2 rfl (by decide) _ _ _ rfl (World.ownsRow.alloc hrow3 _) ⟨w3.heap.size, 0, none⟩ 1 1 [.slice qa lj.length qcap] rfl rfl ?c1 ?c2 ?c3 ?c4 ?c5 ?_))
        case c1 => exact cell_one_new _ _ _
        case c2 => simp [Value.oneCell']
        case c3 => unfold maxLen; omega
        case c4 => omega
        case c5 => simp; omega
        intro v' w4 hown' hgrow hnil hloc
        obtain ⟨ra', rcap', rfl⟩ := own_slice' hown'
        have hB4 : Below w.heap.size w w4 := (hB3.alloc hB3.size _).grown hgrow (by simp; omega) (fun t e => by have := owns_ge hrow3 t e; omega)
        have hmap4 := (hmap3.kept (World.grownBy_alloc w3 _ none) (by simp)).kept hgrow (fun e => by have := owns_ge hrow3 _ e.symm; omega)
        have hbl : ∀ g, g < w3.heap.size → (Value.slice ra vs.length rcap).ownBlock ≠ some g → w4.heap[g]? = w3.heap[g]? := fun g h1 h2 => (hgrow.block g (by simp; omega) (fun e => h2 e.symm)).trans (Below.block (balloc w3 _) g h1)
        have hs4 : w3.heap.size < w4.heap.size := by have := hgrow.size; simp at this; omega
        have hlo : (Value.slice ra' (vs.length + 1) rcap').ownBlock = (Value.slice ra vs.length rcap).ownBlock ∨ ∀ g, (Value.slice ra' (vs.length + 1) rcap').ownBlock = some g → w3.heap.size ≤ g := by
          rcases hloc with h | h
          · exact .inl h
          · right; intro g hg; rw [h] at hg; simp at hg; omega
        have hls4 := (hls3.keep (r' := .slice ra' (vs.length + 1) rcap') (by omega) (fun g _ h2 h3 => hbl g h2 h3) hlo).snoc (x := .slice qa lj.length qcap) (l := lj) ⟨qa, qcap, qb, qo, rfl, HQ.out.of_eq (hbl qb hq1 (fun e => by have := hown2 _ e; omega)), by omega, hq2, hq3, by omega, fun g hg e => by
          subst e
          rcases hlo with h | h
          · have := hown2 _ (h ▸ hg); omega
          · have := h _ hg; omega⟩
        have hrow4 : w4.ownsRow (w.heap.size + 1) 22 1 (.slice ra' (vs.length + 1) rcap') (vs ++ [Value.slice qa lj.length qcap]).length (vs ++ [Value.slice qa lj.length qcap]) := by simpa using hown'
        clear hown' hgrow hloc hlo hbl hrow3 hls3 hmap3 hB3
        go_wp2
        go_roundw
        case rel => exact ⟨j + 1, _, _, by omega, by go_num, hrow4, by rw [HST.out]; exact hls4, hmap4, HMV.out _, by have := HNV.out; rw [← HVL2.out] at this; exact this, hB4⟩
        case measure => simp [intOf]; omega
      | true =>
        have HST := hide (show csl n f (j + 1) = csl n f j by
          unfold csl
          rw [fsts_succ, if_neg (by rw [← minv_new hM, hh]; simp)])
        have HMV := hide (minv_same hM hh)
        have HNV := hide (mnum_same hMN ((hM _).1 hh))
        go_wp2_with (first
          | (at_lookup; refine wpList_lookup_own_ok_int _ rfl _ _ 88 rfl 71 3 .i64 law77 und95 und3' (zero3 _) w.heap.size _ D rfl hmap1 _ _ rfl hkey ?_; intro c hat hwc; rw [hh]))
        go_roundw
        case rel => exact ⟨j + 1, vs, D, by omega, by go_num, hrow1, by rw [HST.out]; exact hls1, map_more hmap1, HMV.out, HNV.out, hB1⟩
        case measure => simp [intOf]; omega
    · have hjn : j = n := by omega
      subst hjn
      go_wp2
      exact bodyPost_ret (v := .tuple #[.slice ra vs.length rcap, .map (some w.heap.size)]) (by simp [results, Tryd.results101, go_sem]) rfl ⟨_, vs, D, rfl, hrow, hls, hmap, hM, hMN, hB⟩
end Go.Proofs.YtoiemlnmcfmakaaDoor

namespace Go.Proofs.YtoiemlnmcfmakaaDoor
open Go Go.RowKit Go.Maps

theorem ent112 (a : Int) (x y : Value) (W : World) : Sem.run Tryd.prog (callFunc 112 (#[.int .i64 a] ++ #[x, y])) W = .ok (.enter 112 (#[.int .i64 a] ++ #[x, y])) W := by kernel_rfl
set_option maxRecDepth 100000 in
set_option maxHeartbeats 4000000 in
theorem act1_ok (n : Nat) (v lv : Value) (zs : List Int) (xs : List Nat) (a gb lb : Nat) (w : World) (ht : IsTab n zs) (hv : Sl w v zs) (hs : Sl w lv (li xs)) (hx : ∀ x, x ∈ xs → x < n) (ha : a < n) (hX : BoxG w gb n v) (hL : Boxed w lb 22 lv) :
    Calls Tryd.prog 112 (#[.int .i64 a] ++ #[.pointer (some ⟨gb, 0, none⟩), .pointer (some ⟨lb, 0, none⟩)]) w fun e w' => e = .returned (.int .u64 (bs (rgtq n zs xs a) n)) ∧ Below w.heap.size w w' := by
  show Calls Tryd.prog 112 #[.int .i64 a, .pointer (some ⟨gb, 0, none⟩), .pointer (some ⟨lb, 0, none⟩)] w _
  have HD := hide (rgt_ok n v lv zs xs a w ht hv hs hx ha)
  obtain ⟨c0, c1, _, _⟩ := hX.two
  have c2 := hL.cell
  go_enter Tryd.func112, Tryd.ntmps112
  go_wp2_with fail
  refine HD.out.mono ?_
  rintro x w1 ⟨rfl, hb1⟩
  go_wp2
  go_ret
  exact ⟨rfl, hb1⟩
set_option maxRecDepth 100000 in
/-- What a set's number is, as the map has it. -/
theorem look_num {n : Nat} {f : Nat → Nat → Bool} {D : DataW Unit} {W : World} {mb b : Nat} (hn : n ≤ 60) (h : W.ownsMap Tryd.prog 71 (plainElem Tryd.prog 3) mb n D) (hN : MNum n f n D) (hb : b < n) :
    (Instr.lookup 88 (.map (some mb)) (.int .u64 (bs (f b) n : Nat)) false).run Tryd.prog W = .ok (.int .i64 (num n f b : Nat)) W := by
  have hkw : (Lit.int .u64 (bs (f b) n : Nat)).wf = true := WalkArith.wf_u64 (by have := bs_64 (p := f b) hn; omega)
  obtain ⟨c, h1, h2, _⟩ := h.lookup_int law77 und95 und3' (zero3 _) (keyOf_int_mk und77 hkw)
  rw [hN b hb] at h2
  injection h2 with h2
  injection h2 with _ h2
  subst h2
  exact h1
/-- How a thing moves the sets. -/
def actL (n : Nat) (zs : List Int) (f : Nat → Nat → Bool) (a : Nat) : List Int := (fsts n f n).map fun c => (num n f (tm n zs c a) : Int)
theorem actL_len (n : Nat) (zs : List Int) (f : Nat → Nat → Bool) (a : Nat) : (actL n zs f a).length = (csl n f n).length := by unfold actL; rw [List.length_map, csl_len]
def acts (n : Nat) (zs : List Int) (f : Nat → Nat → Bool) (k : Nat) : List (List Int) := (List.range k).map (actL n zs f)
theorem acts_succ (n : Nat) (zs : List Int) (f : Nat → Nat → Bool) (k : Nat) : acts n zs f (k + 1) = acts n zs f k ++ [actL n zs f k] := by unfold acts; rw [List.range_succ, List.map_append]; rfl
theorem acts_len (n : Nat) (zs : List Int) (f : Nat → Nat → Bool) (k : Nat) : (acts n zs f k).length = k := by unfold acts; simp
/-- A block of slices, read. -/
theorem SlL.of_blk {W : World} {B M : Nat} {r : Value} {vals : List Value} {rs : List (List Int)} (h : Blk W M 22 vals) (hl : Lsts W B r vals rs) (hm : rs.length ≤ maxLen) : SlL W (.slice (some ⟨M, 0, none⟩) rs.length rs.length) rs := by
  refine ⟨some ⟨M, 0, none⟩, rs.length, M, 0, rfl, fun _ => rfl, fun j hj => ?_, h.lt, Nat.le_refl _, hm⟩
  have hjv : j < vals.length := by rw [hl.1]; exact hj
  obtain ⟨a, c, pb, po, hx, hr, hp, hq1, hq2, _, _⟩ := hl.2 j vals[j] rs[j] (List.getElem?_eq_getElem hjv) (List.getElem?_eq_getElem hj)
  refine ⟨vals[j], by rw [Nat.zero_add, h.cell, List.getElem?_eq_getElem hjv], ?_⟩
  rw [List.getElem?_eq_getElem hj]
  exact ⟨a, c, pb, po, hx, hr, hp, hq1, hq2⟩
theorem take_set_ge {α : Type} {l : List α} {a : Nat} {v : α} : (l.set a v).take a = l.take a := by
  rw [List.take_set]
  exact List.set_eq_of_length_le (by rw [List.length_take]; omega)
set_option maxRecDepth 100000 in
set_option maxHeartbeats 1000000 in
theorem act_bad (N : Int) (v u : Value) (zs l : List Int) (w : World) (hv : Sl w v zs) (hu : Sl w u l) (hT : Tab w) (hc : (ufault N zs l).1 ≠ 0) :
    Calls Tryd.prog 77 #[.agg #[.int .i64 N, v], u] w fun x w' => x = .returned (.tuple #[.slice none 0 0, .agg #[.int .i64 (ufault N zs l).1, .int .i64 (ufault N zs l).2]]) ∧ Below w.heap.size w w' := by
  obtain ⟨u1, u2, u3, rfl⟩ := hu.isSlice
  obtain ⟨w0, BG⟩ := Beg3.new w N v (.slice u1 u2 u3)
  have hu0 := (hu.below BG.bel).alloc (.cells #[.slice u1 u2 u3] 22)
  have hv0 := (hv.below BG.bel).alloc (.cells #[.slice u1 u2 u3] 22)
  have hT0 := (hT.below BG.bel).below (balloc w0 (.cells #[.slice u1 u2 u3] 22))
  have HW := hide (wrong_ok N v zs w0.heap.size 1 [l] (w0.alloc (.cells #[.slice u1 u2 u3] 22)) hv0 hT0 (by simp) (fun t ht => by
    have : t = 0 := by simp at ht; omega
    subst this
    exact ⟨_, cell1 _ _ _, hu0⟩))
  have hs0 : w0.heap.size = w.heap.size + 1 + 1 + 1 := by rw [BG.eq]; simp
  rw [hs0, show [l].length = 1 from rfl, wfault_one] at HW
  obtain ⟨c0, c1, _, _⟩ := BG.box.two
  have c2 := BG.lis.cell
  rw [BG.eq] at c0 c1 c2
  obtain ⟨c, i, hci⟩ : ∃ c i, ufault N zs l = (c, i) := ⟨_, _, rfl⟩
  rw [hci] at HW hc ⊢
  simp only at HW hc ⊢
  clear hci
  have hcb : (c != 0) = true := by simpa using hc
  go_enter Tryd.func77, Tryd.ntmps77
  go_wp2_with fail
  rw [← BG.eq]
  clear c0 c1 c2
  refine HW.out.mono ?_
  rintro x w1 ⟨rfl, hb1⟩
  have hb1 := bcat2 (balloc w0 (.cells #[.slice u1 u2 u3] 22)) hb1
  have hb2 := bcat2 hb1 (balloc w1 (.cells #[.int .i64 c, .int .i64 i] 28))
  have hF2 := blk0 (w := w1) (T := 28) (.int .i64 c) (.int .i64 i)
  have hBw := bcat BG.bel hb2 BG.bel.size
  have hR2 := blk_below BG.res hb2
  obtain ⟨t0, t1, _, _⟩ := hF2.two
  obtain ⟨y0, y1, fy0, fy1⟩ := hR2.two
  obtain ⟨hR6, hB6⟩ := put2 hR2 hBw (by omega) c i
  go_wp2_with fail
  go_region
  all_goals (
    go_wp2
    obtain ⟨z0, z1, _, _⟩ := hR6.two
    exact bodyPost_ret (v := .tuple #[.slice none 0 0, .agg #[.int .i64 c, .int .i64 i]]) (by simp [results, Tryd.results77, go_sem, z0, z1]) rfl ⟨rfl, bdrew hB6⟩)
set_option maxRecDepth 100000 in
set_option maxHeartbeats 8000000 in
theorem act_good (n e : Nat) (v u : Value) (zs l : List Int) (w : World) (hv : Sl w v zs) (hg : IsGrp n zs e) (hu : Sl w u l) (hT : Tab w) (hl : lfault n l = (0, 0)) (hsb : subT n zs e (pset l) = true) :
    Calls Tryd.prog 77 #[.agg #[.int .i64 n, v], u] w fun x w' => ∃ r1 r2 r3, x = .returned (.tuple #[.slice r1 r2 r3, .agg #[.int .i64 0, .int .i64 0]]) ∧ SlL w' (.slice r1 r2 r3) (acts n zs (rgtq n zs (lst n (pset l))) n) ∧ Below w.heap.size w w' := by
  obtain ⟨j0, hj, hy0, hy1, hy2⟩ := info_parts info22b
  obtain ⟨i0, hi, hz0, hz1, hz2⟩ := info_parts info3b
  have hn := hg.tab.le
  have hn0 : 0 < n := Nat.lt_of_le_of_lt (Nat.zero_le _) hg.elt
  have PP := rgt_parts hg hsb
  obtain ⟨u1, u2, u3, rfl⟩ := hu.isSlice
  obtain ⟨w0, BG⟩ := Beg3.new w n v (.slice u1 u2 u3)
  have hu0 := (hu.below BG.bel).alloc (.cells #[.slice u1 u2 u3] 22)
  have hv0 := (hv.below BG.bel).alloc (.cells #[.slice u1 u2 u3] 22)
  have hT0 := (hT.below BG.bel).below (balloc w0 (.cells #[.slice u1 u2 u3] 22))
  have HW := hide (wrong_ok n v zs w0.heap.size 1 [l] (w0.alloc (.cells #[.slice u1 u2 u3] 22)) hv0 hT0 (by simp) (fun t ht => by
    have : t = 0 := by simp at ht; omega
    subst this
    exact ⟨_, cell1 _ _ _, hu0⟩))
  have hs0 : w0.heap.size = w.heap.size + 1 + 1 + 1 := by rw [BG.eq]; simp
  rw [hs0, show [l].length = 1 from rfl, wfault_one] at HW
  obtain ⟨c0, c1, _, _⟩ := BG.box.two
  have c2 := BG.lis.cell
  rw [BG.eq] at c0 c1 c2
  rw [show ufault n zs l = (0, 0) by rw [ufault_u hg hl, if_pos hsb]] at HW
  simp only at HW
  have hli := set_lst (show (lfault n l).1 = 0 by rw [hl])
  have hu9 : Sl w (.slice u1 u2 u3) (li (lst n (pset l))) := by rw [← hli]; exact hu
  have hxm : ∀ x, x ∈ lst n (pset l) → x < n := fun x hx => (mem_lst.1 hx).1
  go_enter Tryd.func77, Tryd.ntmps77
  go_wp2_with fail
  rw [← BG.eq]
  clear c0 c1 c2
  refine HW.out.mono ?_
  rintro x w1 ⟨rfl, hb1⟩
  have hb1 := bcat2 (balloc w0 (.cells #[.slice u1 u2 u3] 22)) hb1
  have hb2 := bcat2 hb1 (balloc w1 (.cells #[.int .i64 0, .int .i64 0] 28))
  have hF2 := blk0 (w := w1) (T := 28) (.int .i64 0) (.int .i64 0)
  have hBw := bcat BG.bel hb2 BG.bel.size
  have hX2 := blk_below BG.box hb2
  have hL2 := Boxed.below BG.lis hb2
  have hR2 := blk_below BG.res hb2
  obtain ⟨t0, t1, _, _⟩ := hF2.two
  obtain ⟨c0, c1, _, _⟩ := hX2.two
  go_wp2_with fail
  generalize w1.alloc (.cells #[.int .i64 0, .int .i64 0] 28) = w2 at *
  clear t0 t1 c0 c1
  refine (parts2_ok n 112 #[.pointer (some ⟨w.heap.size, 0, none⟩), .pointer (some ⟨w.heap.size + 1, 0, none⟩)] (rgtq n zs (lst n (pset l))) w2 hg.tab.le (hT.below hBw) (fun a W => ent112 a _ _ W) (fun W a hW ha => act1_ok n v (.slice u1 u2 u3) zs (lst n (pset l)) a w.heap.size (w.heap.size + 1) W hg.tab ((hv.below hBw).below hW) ((hu9.below hBw).below hW) hxm ha (blk_below hX2 hW) (Boxed.below hL2 hW))).mono ?_
  rintro x w3 ⟨r, vs, D, rfl, hrow, hls, hmap, _, hMN, hb3⟩
  have h03 : 0 < w3.heap.size := Nat.lt_of_lt_of_le (hT.below hBw).lt hb3.size
  have hSL := SlL.of_own hrow hls h03
  obtain ⟨la, lcap, lpb, lpo, rfl, hS1, hS2, hS3, hS4, hS5⟩ := hSL
  have hlt2 := hR2.lt
  have hB3 := bcat2 hBw hb3
  have hX3 := blk_below hX2 hb3
  have hL3 := Boxed.below hL2 hb3
  have hR3 := blk_below hR2 hb3
  clear hrow hls hX2 hL2 hR2 hb3 hli HW hu0 hv0 hT0 hF2 BG hs0 hb1 hb2 hlt2
  generalize hf : rgtq n zs (lst n (pset l)) = f at *
  have hln : (csl n f n).length = (fsts n f n).length := csl_len n f n
  have hlf : (fsts n f n).length ≤ 60 := Nat.le_trans (fsts_len n f n) hn
  obtain ⟨k0, k1, _, _⟩ := hX3.two
  have HSL := hide (And.intro hS1 hS2)
  have HF := hide hf
  clear hS1 hS2 hS5 hf
  go_wp2_with (first
    | (at_make; refine wpList_make_full _ rfl _ _ 55 rfl w3.heap.size 22 j0 (.slice none 0 0) 1 under25b hj hy0 hy1 _ _ _ _ n rfl rfl rfl rfl (by rw [hy2]; omega) (by unfold maxLen; omega) (by simp) ?_))
  intro w4 hown hgr
  have hM4 : Blk w4 w3.heap.size 22 (List.replicate n (.slice none 0 0)) := by
    have := Blk.of_owns hown
    rw [made_rep] at this
    exact this
  have hb4 : Below w3.heap.size w3 w4 := (Below.refl _ w3).grown hgr (Nat.le_refl _) (by simp)
  clear hown hgr k0 k1
  have HMP := hide hmap
  have HX3 := hide hX3
  have HL3 := hide hL3
  have HR3 := hide hR3
  have HMN := hide hMN
  have HPP := hide PP
  have HPOS := hide (show 0 < (csl n f n).length by
    rw [csl_len]
    refine List.length_pos_of_mem (a := 0) ?_
    rw [PP.fsts, List.mem_filter, List.mem_range, decide_eq_true_eq, head_lst]
    exact ⟨hn0, hn0, PP.refl 0 hn0, fun b hb => by omega⟩)
  have HB9 := hide (fun (b : Nat) (_ : b < n) => show num n f b ≤ 60 from Nat.le_trans (Nat.le_trans (List.length_filter_le _ _) (by
    rw [List.length_range]
    cases hfd : (List.range n).find? (fun c => decide (bs (f c) n = bs (f b) n)) with
    | none => simp
    | some k => have := List.mem_range.1 (List.mem_of_find?_eq_some hfd); simp; omega)) hn)
  clear hmap hX3 hL3 hR3 hMN PP
  go_wp2
  go_loopw [35] (fun i wr => ∃ (a : Nat) (vals : List Value), a ≤ n ∧ i = .int .i64 a ∧ Blk wr w3.heap.size 22 vals ∧ vals.length = n ∧ Lsts wr (w3.heap.size + 1) (.slice none 0 0) (vals.take a) (acts n zs f a) ∧ (∀ b, a ≤ b → b < n → vals[b]? = some (.slice none 0 0)) ∧ Below w3.heap.size w3 wr) (fun i _ => n - (intOf i).toNat)
  case atStart => exact ⟨0, List.replicate n (.slice none 0 0), Nat.zero_le _, rfl, hM4, by simp, ⟨by simp [acts], fun t x l h => by simp at h⟩, fun b _ hb => by simp [hb], hb4⟩
  case round =>
    clear hM4 hb4
    obtain ⟨a, vals, ha, rfl, hM, hvl, hLs, hnil, hB⟩ := hrel
    obtain ⟨wo, rfl⟩ : ∃ wo, wo = wr := ⟨_, rfl⟩
    by_cases hlt : a < n
    · have hai : (a : Int) < (n : Int) := by omega
      have HNIL := hide hnil
      go_wp2
      go_loopw [40] (fun i wr => ∃ (t : Nat) (vals : List Value) (rv : Value), t ≤ (csl n f n).length ∧ i = .int .i64 t ∧ Blk wr w3.heap.size 22 vals ∧ vals.length = n ∧ vals[a]? = some rv ∧ Row wr (w3.heap.size + 1) rv ((actL n zs f a).take t) ∧ Lsts wr (w3.heap.size + 1) rv (vals.take a) (acts n zs f a) ∧ (∀ b, a + 1 ≤ b → b < n → vals[b]? = some (.slice none 0 0)) ∧ Below w3.heap.size w3 wr) (fun i _ => (csl n f n).length - (intOf i).toNat)
      case atStart => exact ⟨0, vals, .slice none 0 0, Nat.zero_le _, rfl, hM, hvl, hnil a (Nat.le_refl _) hlt, by simpa using nil_row _ _, hLs, fun b h1 h2 => hnil b (by omega) h2, hB⟩
      case round =>
        clear hM hvl hLs hnil hB
        obtain ⟨t, vals, rv, ht, rfl, hM, hvl, hva, hrow, hLs, hnil, hB⟩ := hrel
        by_cases htl : t < (csl n f n).length
        · have hti : (t : Int) < ((csl n f n).length : Int) := by omega
          obtain ⟨hS1, hS2⟩ := HSL.out
          obtain rfl := hS1 (by omega)
          obtain ⟨y9, cy, hy⟩ := hS2 t htl
          have htf : t < (fsts n f n).length := by omega
          obtain ⟨c, hce⟩ : ∃ c, (fsts n f n)[t] = c := ⟨_, rfl⟩
          have hcm : c ∈ fsts n f n := by rw [← hce]; exact List.getElem_mem htf
          rw [HPP.out.fsts, List.mem_filter, List.mem_range, decide_eq_true_eq] at hcm
          obtain ⟨hcn, hch⟩ := hcm
          have hye : (csl n f n)[t]?.getD [] = li (lst n (f c)) := by unfold csl; simp [htf, hce]
          rw [hye] at hy
          clear hS1 hS2 hye
          obtain ⟨y1, ycap, yb, yo, rfl, hyr, hyb, hyc, hym⟩ := hy
          obtain ⟨s9, hs9⟩ : ∃ s9, lst n (f c) = c :: s9 := by
            cases hlc : lst n (f c) with
            | nil => rw [hlc] at hch; simp at hch
            | cons z s => rw [hlc] at hch; simp at hch; subst hch; exact ⟨s, rfl⟩
          rw [hs9] at hyr hyc cy
          have hyl : (li (c :: s9)).length = s9.length + 1 := by simp [li]
          have cx := hyr.cell 0 (by rw [hyl]; omega)
          rw [show (li (c :: s9))[0]?.getD 0 = (c : Int) from rfl, Nat.add_zero] at cx
          obtain rfl := hyr.at_ (by rw [hyl]; omega)
          rw [hyl] at cy hyc
          have hyi : ((0 : Nat) : Int) < ((s9.length + 1 : Nat) : Int) := by omega
          have hym9 : s9.length + 1 ≤ 9223372036854775807 := by unfold maxLen at hym; omega
          have hct : tm n zs c a < n := tm_lt hg.tab hcn hlt
          have HE := hide (show (actL n zs f a).take (t + 1) = (actL n zs f a).take t ++ [(num n f (tm n zs c a) : Int)] by
            have h9 : t < (actL n zs f a).length := by rw [actL_len]; exact htl
            rw [List.take_succ_eq_append_getElem h9]
            congr 2
            simp [actL, hce])
          have HLL := hide (show ((actL n zs f a).take t).length ≤ 60 by rw [List.length_take]; omega)
          have HCM := hide (fun W (h : Below w3.heap.size w3 W) => cprd_ok n v zs c a W hg.tab (hv.below (bcat2 hB3 h)) hcn hlt)
          have HCL := hide (fun W (h : Below w3.heap.size w3 W) => act1_ok n v (.slice u1 u2 u3) zs (lst n (pset l)) (tm n zs c a) w.heap.size (w.heap.size + 1) W hg.tab (hv.below (bcat2 hB3 h)) (hu9.below (bcat2 hB3 h)) hxm hct (blk_below HX3.out h) (Boxed.below HL3.out h))
          rw [HF.out] at HCL
          obtain ⟨K9, hK9⟩ : ∃ K9, bs (f (tm n zs c a)) n = K9 := ⟨_, rfl⟩
          obtain ⟨q9, hq9⟩ : ∃ q9, num n f (tm n zs c a) = q9 := ⟨_, rfl⟩
          have HLK := hide (fun W (h : Below w3.heap.size w3 W) => look_num (b := tm n zs c a) hn (HMP.out.kept (below_grown h none) (by simp)) HMN.out hct)
          rw [hK9] at HCL HLK
          rw [hq9] at HE HLK
          have hb9 := HB9.out _ hct
          rw [hq9] at hb9
          generalize tm n zs c a = d9 at *
          clear hK9 hq9
          obtain ⟨g0, g1, _, _⟩ := HX3.out.two
          have cy := below_cell hB cy
          have cM : wr.cell? ⟨w3.heap.size, a, none⟩ = some rv := by rw [hM.cell]; exact hva
          have fM := hM.frozen a
          have hMlt := hM.lt
          have hvla : (a : Int) < (n : Int) := hai
          clear g0 g1 hyr hyc hym hch hs9 hce hyl htf
          generalize hls : (actL n zs f a).take t = ls at *
          have HLS := hide hls
          clear hls
          go_wp2_with fail
          have hgg := HX3.out
          obtain ⟨g0, g1, _, _⟩ := (blk_below HX3.out hB).two
          have cx := below_cell hB cx
          have hBd := bdrew hB
          go_region_law (first
              | (go_simp; go_at_call 113; refine (HCM.out _ hBd).mono ?_; rintro e1 U1 ⟨rfl, hl1⟩; have hlA := undrew hl1; have hBU1 := bcat2 hBd hl1; have hown1 : Row U1 (w3.heap.size + 1) rv ls := row_below hrow hlA; have hM1 : Blk U1 w3.heap.size 22 vals := blk_below hM hlA; have hc1 : U1.cell? ⟨w3.heap.size, a, none⟩ = some rv := (by rw [hM1.cell]; exact hva))
              | (go_simp; go_at_call 112; refine (HCL.out _ hBU1).mono ?_; rintro e2 U2 ⟨rfl, hl1⟩; have hown2 : U2.ownsRow (w3.heap.size + 1) 3 1 rv ls.length (ls.map (Value.int .i64)) := row_below hown1 hl1; have hM2 : Blk U2 w3.heap.size 22 vals := blk_below hM1 hl1; have hc2 : U2.cell? ⟨w3.heap.size, a, none⟩ = some rv := (by rw [hM2.cell]; exact hva); have hcA : (U2.alloc (.cells #[.int .i64 q9] 3)).cell? ⟨w3.heap.size, a, none⟩ = some rv := (by rw [(hM2.alloc _).cell]; exact hva); have hlB := bcat2 hlA hl1; have hB1 := bcat2 hBU1 hl1; have hBa := hB1.alloc hB1.size (.cells #[.int .i64 q9] 3); have hlk := HLK.out _ hB1; have hsz9 := hM2.lt)
              | (refine step_append_lies _ rfl _ _ 22 rfl (w3.heap.size + 1) 3 i0 (.int .i64 0) 1 8 under22b hi hz0 hz1 hz2 rfl (by decide) _ _ _ rfl (World.ownsRow.alloc hown2 _) ⟨U2.heap.size, 0, none⟩ 1 1 [.int .i64 q9] rfl rfl (cell_one_new _ _ _) (by simp [Value.oneCell']) (by decide) (by unfold maxLen; have := HLL.out; omega) (by have := HLL.out; omega) (by simp; omega) _ rfl ?_; intro g9 cap9 w9 hown9 hgrow hloc _; have hB2 : Below w3.heap.size w3 w9 := hBa.grown hgrow (by simp; omega) (fun t e => by have := owns_ge hown2 t e; omega); have hM9 : Blk w9 w3.heap.size 22 vals := (hM2.alloc _).of_eq (hgrow.block _ (by simp; omega) (fun e => by have := owns_ge hown2 _ e.symm; omega)); have hcw : w9.cell? ⟨w3.heap.size, a, none⟩ = some rv := (by rw [hM9.cell]; exact hva); have hfw := hM9.frozen a))
          all_goals (
            have hbl : ∀ g, g < U2.heap.size → rv.ownBlock ≠ some g → w9.heap[g]? = U2.heap[g]? := fun g h1 h2 => (hgrow.block g (by simp; omega) (fun e => h2 e.symm)).trans (Below.block (balloc U2 _) g h1)
            have hs9 : U2.heap.size ≤ w9.heap.size := by have := hgrow.size; simp at this; omega
            have hwU := hlB.size
            have hM' := hM9.set a (Value.slice (some ⟨g9, 0, none⟩) (ls.length + 1) cap9)
            have hrow' : Row (w9.setCell ⟨w3.heap.size, a, none⟩ (Value.slice (some ⟨g9, 0, none⟩) (ls.length + 1) cap9)) (w3.heap.size + 1) (Value.slice (some ⟨g9, 0, none⟩) (ls.length + 1) cap9) ((actL n zs f a).take (t + 1)) := by
              rw [HE.out]
              refine rowset ?_ (Nat.lt_succ_self _)
              unfold Row
              simpa using hown9
            have hLs' : Lsts (w9.setCell ⟨w3.heap.size, a, none⟩ (Value.slice (some ⟨g9, 0, none⟩) (ls.length + 1) cap9)) (w3.heap.size + 1) (Value.slice (some ⟨g9, 0, none⟩) (ls.length + 1) cap9) ((vals.set a (Value.slice (some ⟨g9, 0, none⟩) (ls.length + 1) cap9)).take a) (acts n zs f a) := by
              rw [take_set_ge]
              refine hLs.keep (by rw [size_set]; omega) (fun g h1 h2 h3 => ?_) ?_
              · exact (Below.heap_setCell _ _ _ g (by simp; omega)).trans ((hbl g (by omega) h3).trans (hlB.block g h2))
              · rcases hloc with h | h
                · exact .inl h.symm
                · right
                  intro g hg
                  simp [Value.ownBlock] at hg h
                  omega
            have hnil' : ∀ b, a + 1 ≤ b → b < n → (vals.set a (Value.slice (some ⟨g9, 0, none⟩) (ls.length + 1) cap9))[b]? = some (.slice none 0 0) := fun b h1 h2 => by
              rw [List.getElem?_set_ne (by omega)]
              exact hnil b h1 h2
            have hva' : (vals.set a (Value.slice (some ⟨g9, 0, none⟩) (ls.length + 1) cap9))[a]? = some (Value.slice (some ⟨g9, 0, none⟩) (ls.length + 1) cap9) := by rw [List.getElem?_set_self (by omega)]
            have hB' := bSet (b := w3.heap.size) (o := a) (x := (Value.slice (some ⟨g9, 0, none⟩) (ls.length + 1) cap9)) hB2 (Nat.le_refl _)
            go_wp2
            go_roundw
            case rel => exact ⟨t + 1, _, _, by omega, by go_num, hM', by simpa using hvl, hva', hrow', hLs', hnil', hB'⟩
            case measure => simp [intOf]; omega)
        · have hti : ¬ (t : Int) < ((csl n f n).length : Int) := by omega
          have hall : (actL n zs f a).take t = actL n zs f a := List.take_of_length_le (by rw [actL_len]; omega)
          rw [hall] at hrow
          obtain ⟨m9, hm9⟩ : ∃ m9, (actL n zs f a).length = m9 + 1 := ⟨(actL n zs f a).length - 1, by have := HPOS.out; rw [actL_len]; omega⟩
          have hown : wr.ownsRow (w3.heap.size + 1) 3 1 rv (m9 + 1) ((actL n zs f a).map (Value.int .i64)) := by rw [← hm9]; exact hrow
          obtain ⟨g9, cap9, rfl⟩ := ownsRow_succ hown
          have hsf := SlF.of_own hm9.symm hown
          have hLs9 : Lsts wr (w3.heap.size + 1) (.slice none 0 0) (vals.take (a + 1)) (acts n zs f (a + 1)) := by
            rw [acts_succ, List.take_add_one, hva]
            refine (hLs.keep (r' := .slice none 0 0) (Nat.le_refl _) (fun _ _ _ _ => rfl) (.inr (fun g hg => by simp [Value.ownBlock] at hg))).snoc ?_
            obtain ⟨b1, b2, b3, b4, h1, h2, h3, h4, h5, h6⟩ := hsf
            rw [hm9] at h1 h4
            exact ⟨b1, b2, b3, b4, by rw [hm9]; exact h1, h2, h3, by rw [hm9]; exact h4, h5, h6, fun g hg => by simp [Value.ownBlock] at hg⟩
          go_wp2
          go_roundw
          case rel => exact ⟨a + 1, vals, by omega, by go_num, hM, hvl, hLs9, fun b h1 h2 => hnil b h1 h2, hB⟩
          case measure => simp [intOf]; omega
    · have hai : ¬ (a : Int) < (n : Int) := by omega
      have han : a = n := by omega
      rw [han, List.take_of_length_le (by omega)] at hLs
      have hR := blk_below HR3.out hB
      have hBw9 := bcat2 hB3 hB
      obtain ⟨y0, y1, fy0, fy1⟩ := hR.two
      obtain ⟨hR6, hB6⟩ := put2 hR hBw9 (by omega) 0 0
      have hlt3 := HR3.out.lt
      have hk6 : ∀ g, w3.heap.size ≤ g → g < wo.heap.size → ((wo.setCell ⟨w.heap.size + 1 + 1, 0, none⟩ (.int .i64 0)).setCell ⟨w.heap.size + 1 + 1, 1, none⟩ (.int .i64 0)).heap[g]? = wo.heap[g]? := fun g h1 _ => (Below.heap_setCell _ _ _ g (by simp; omega)).trans (Below.heap_setCell _ _ _ g (by simp; omega))
      have hSL6 := SlL.of_blk (hM.of_eq (hk6 _ (Nat.le_refl _) hM.lt)) (hLs.keep (r' := .slice none 0 0) (by rw [size_set, size_set]; exact Nat.le_refl _) (fun g h1 h2 _ => hk6 g (by omega) h2) (.inl rfl)) (by rw [acts_len]; unfold maxLen; omega)
      rw [acts_len] at hSL6
      clear hk6
      have hai2 : a = n := han
      rw [← HF.out] at hSL6
      clear hM hLs hnil hB han hai2 hvl hlt3 hln hlf
      go_wp2
      generalize (wo.setCell ⟨w.heap.size + 1 + 1, 0, none⟩ (.int .i64 0)).setCell ⟨w.heap.size + 1 + 1, 1, none⟩ (.int .i64 0) = W at hR6 hB6 hSL6 ⊢
      obtain ⟨z0, z1, _, _⟩ := hR6.two
      exact bodyPost_ret (v := .tuple #[.slice (some ⟨w3.heap.size, 0, none⟩) n n, .agg #[.int .i64 0, .int .i64 0]]) (by simp [results, Tryd.results77, go_sem, z0, z1]) rfl ⟨_, _, _, rfl, hSL6, hB6⟩
end Go.Proofs.YtoiemlnmcfmakaaDoor

namespace Go.Proofs.YtoiemlnmcfmakaaDoor
open Go Go.RowKit

/-- Which of the lists has a number first. -/
def whichI (rs : List (List Int)) (a : Int) : Int := if rs.findIdx (fun y => decide (a ∈ y)) < rs.length then (rs.findIdx (fun y => decide (a ∈ y)) : Int) else -1
theorem whichI_at {rs : List (List Int)} {a : Int} {k : Nat} (hk : k < rs.length) (h : a ∈ rs[k]?.getD []) (hno : ∀ t, t < k → ¬ a ∈ rs[t]?.getD []) : whichI rs a = k := by
  have h1 : rs.findIdx (fun y => decide (a ∈ y)) = k := by
    rw [List.findIdx_eq hk]
    rw [List.getElem?_eq_getElem hk] at h
    refine ⟨by simpa using h, fun t ht => ?_⟩
    have := hno t ht
    rw [List.getElem?_eq_getElem (by omega)] at this
    simpa using this
  unfold whichI
  rw [h1, if_pos hk]
theorem whichI_no {rs : List (List Int)} {a : Int} (hno : ∀ t, t < rs.length → ¬ a ∈ rs[t]?.getD []) : whichI rs a = -1 := by
  unfold whichI
  rw [if_neg]
  intro h
  have h2 := List.findIdx_getElem (w := h)
  have := hno _ h
  rw [List.getElem?_eq_getElem h] at this
  simp at this h2
  exact this h2
set_option maxRecDepth 100000 in
set_option maxHeartbeats 2000000 in
theorem which_ok (v : Value) (rs : List (List Int)) (a : Int) (w : World) (hv : SlL w v rs) :
    Calls Tryd.prog 78 #[v, .int .i64 a] w fun x w' => x = .returned (.int .i64 (whichI rs a)) ∧ Below w.heap.size w w' := by
  obtain ⟨va, vc, vb, vo, rfl, v1, v2, v3, v4, v5⟩ := hv
  have hm1 : rs.length ≤ 9223372036854775807 := by unfold maxLen at v5; omega
  have HV := hide v2
  have HV1 := hide v1
  clear v1 v2 v5
  go_enter Tryd.func78, Tryd.ntmps78
  go_wp2
  go_loopw [5] (fun i wr => ∃ k : Nat, k ≤ rs.length ∧ i = .int .i64 k ∧ (∀ t, t < k → ¬ a ∈ rs[t]?.getD []) ∧ Below w.heap.size w wr) (fun i _ => rs.length - (intOf i).toNat)
  case atStart => exact ⟨0, Nat.zero_le _, rfl, fun t ht => by omega, Below.refl _ _⟩
  case round =>
    obtain ⟨k, hk, rfl, hno, hB⟩ := hrel
    have HNO := hide hno
    clear hno
    by_cases hlt : k < rs.length
    · have hki : (k : Int) < (rs.length : Int) := by omega
      obtain rfl := HV1.out (by omega)
      obtain ⟨y, cy, hy⟩ := HV.out k hlt
      have cy := below_cell hB cy
      have hy := hy.below hB
      obtain ⟨y1, y2, y3, rfl⟩ := hy.isSlice
      have HH := hide (rhas_ok (.slice y1 y2 y3) (rs[k]?.getD []) a wr hy)
      by_cases hin : a ∈ rs[k]?.getD []
      · have HW := hide (whichI_at hlt hin HNO.out)
        rw [decide_eq_true hin] at HH
        clear hin hy
        go_wp2_with fail
        refine HH.out.mono ?_
        rintro x w1 ⟨rfl, rfl⟩
        go_wp2
        go_ret
        exact ⟨by rw [HW.out]; rfl, hB⟩
      · rw [decide_eq_false hin] at HH
        have HIN := hide hin
        clear hin hy
        go_wp2_with fail
        refine HH.out.mono ?_
        rintro x w1 ⟨rfl, rfl⟩
        go_wp2
        go_roundw
        case rel => exact ⟨k + 1, by omega, by go_num, fun t ht => by
          by_cases e9 : t = k
          · subst e9; exact HIN.out
          · exact HNO.out t (by omega), hB⟩
        case measure => simp [intOf]; omega
    · have hki : ¬ (k : Int) < (rs.length : Int) := by omega
      have HW := hide (whichI_no (rs := rs) (a := a) (fun t ht => HNO.out t (by omega)))
      go_wp2
      go_ret
      exact ⟨by rw [HW.out]; rfl, hB⟩
theorem ent80 (a : Int) (x y : Value) (W : World) : Sem.run Tryd.prog (callFunc 80 (#[.int .i64 a] ++ #[x, y])) W = .ok (.enter 80 (#[.int .i64 a] ++ #[x, y])) W := by kernel_rfl
set_option maxRecDepth 100000 in
set_option maxHeartbeats 2000000 in
theorem cl80_ok (a pb cb m : Nat) (pv cv : Value) (ps rs : List (List Int)) (w : World) (h0 : 0 < w.heap.size) (hP : Boxed w pb 55 pv) (hC : Boxed w cb 55 cv) (hp : SlL w pv ps) (hc : SlL w cv rs) (ha : a < ps.length) (hm : rs.length = m) (hm60 : m ≤ 60) :
    Calls Tryd.prog 80 (#[.int .i64 a] ++ #[.pointer (some ⟨pb, 0, none⟩), .pointer (some ⟨cb, 0, none⟩)]) w fun z w' => z = .returned (.bool (decide (ps[a]?.getD [] = li (List.range m)))) ∧ Below w.heap.size w w' := by
  show Calls Tryd.prog 80 #[.int .i64 a, .pointer (some ⟨pb, 0, none⟩), .pointer (some ⟨cb, 0, none⟩)] w _
  obtain ⟨va, vc, vb, vo, rfl, v1, v2, v3, v4, v5⟩ := hp
  obtain ⟨ra, rc, rb, ro, rfl, r1, r2, r3, r4, r5⟩ := hc
  have hai : (a : Int) < (ps.length : Int) := by omega
  have hpl : ps.length ≤ 9223372036854775807 := by unfold maxLen at v5; omega
  obtain rfl := v1 (by omega)
  obtain ⟨y, c3, hsy⟩ := v2 a ha
  obtain ⟨y1, y2, y3, rfl⟩ := hsy.isSlice
  rw [hm] at *
  have HS := hide (fun W (h : Below w.heap.size w W) => stays_sl m W hm60 (Nat.lt_of_lt_of_le h0 h.size))
  have HI := hide (fun W q (h : Below w.heap.size w W) (hq : Sl W q (li (List.range m))) => ints_any (.slice y1 y2 y3) q (ps[a]?.getD []) (li (List.range m)) W (hsy.below h) hq)
  generalize ps[a]?.getD [] = pa at *
  have c0 := hP.cell
  have c1 := hC.cell
  have hS : ∀ W, Below w.heap.size w W → (Below w.heap.size w W ∧ W.cell? ⟨pb, 0, none⟩ = some (.slice (some ⟨vb, vo, none⟩) ps.length vc) ∧ W.cell? ⟨cb, 0, none⟩ = some (.slice ra m rc) ∧ W.cell? ⟨vb, vo + a, none⟩ = some (.slice y1 y2 y3)) := fun W h => ⟨h, below_cell h c0, below_cell h c1, below_cell h c3⟩
  have hS0 := hS _ (bdrew (Below.refl _ w))
  clear c0 c1 c3 v1 v2 v5 r1 r2 r5 hm
  go_enter Tryd.func80, Tryd.ntmps80
  go_wp2_with fail
  go_region_held3 (fun W => Below w.heap.size w W ∧ W.cell? ⟨pb, 0, none⟩ = some (.slice (some ⟨vb, vo, none⟩) ps.length vc) ∧ W.cell? ⟨cb, 0, none⟩ = some (.slice ra m rc) ∧ W.cell? ⟨vb, vo + a, none⟩ = some (.slice y1 y2 y3))
    (first | exact hS0 | assumption | exact hS _ (bcat2 (And.left ‹_›) hl1))
    (first
      | (go_at_call 63; refine (HS.out _ (And.left ‹_›)).mono ?_; rintro e1 U1 ⟨qq, rfl, hq, hl1⟩; obtain ⟨q1, q2, q3, rfl⟩ := hq.isSlice)
      | (go_at_call 23; refine (HI.out _ _ (And.left ‹_›) hq).mono ?_; rintro e3 U3 ⟨rfl, hl1⟩))
  all_goals (
    have hB9 := And.left ‹Below w.heap.size w U3 ∧ _›
    go_wp2
    go_ret
    exact ⟨rfl, hB9⟩)
end Go.Proofs.YtoiemlnmcfmakaaDoor

namespace Go.Proofs.YtoiemlnmcfmakaaDoor
open Go Go.RowKit

section
variable {n : Nat} {f : Nat → Nat → Bool}
/-- The least thing of a thing's set. -/
theorem prts_rep (h : Prts n f) {a : Nat} (ha : a < n) : ∃ r, r < n ∧ f a r = true ∧ r ∈ fsts n f n ∧ ((List.range n).find? fun b => decide (bs (f b) n = bs (f a) n)) = some r ∧ num n f a = (fsts n f r).length := by
  have hs : ((List.range n).find? fun b => decide (bs (f b) n = bs (f a) n)).isSome = true := by
    rw [List.find?_isSome]
    exact ⟨a, List.mem_range.2 ha, by simp⟩
  obtain ⟨r, hr⟩ := Option.isSome_iff_exists.1 hs
  obtain ⟨h1, h2, h3⟩ := List.find?_range_eq_some.1 hr
  have hrn := List.mem_range.1 h2
  have h1 : bs (f r) n = bs (f a) n := by simpa using h1
  have hfr : f a r = true := by rw [← bs_inj h1 r hrn]; exact h.refl r hrn
  refine ⟨r, hrn, hfr, ?_, hr, by unfold num; rw [hr]; rfl⟩
  unfold fsts
  rw [List.mem_filter, List.mem_range]
  refine ⟨hrn, List.all_eq_true.2 fun b hb => ?_⟩
  have := h3 b (List.mem_range.1 hb)
  rw [h1]
  simpa using this
theorem fsts_take (n : Nat) (f : Nat → Nat → Bool) {r j : Nat} (h : r ≤ j) : fsts n f r = (fsts n f j).filter fun a => decide (a < r) := by
  unfold fsts
  rw [List.filter_filter]
  have : List.range r = (List.range j).filter fun a => decide (a < r) := by
    induction j with
    | zero => have : r = 0 := by omega
              subst this; rfl
    | succ j ih =>
      by_cases e : r = j + 1
      · subst e
        rw [List.filter_eq_self.2]
        intro a ha
        simpa using ha
      · rw [List.range_succ, List.filter_append, ← ih (by omega)]
        simp; omega
  rw [this, List.filter_filter]
  exact List.filter_congr fun a _ => Bool.and_comm _ _
theorem sorted_idx : ∀ (l : List Nat), l.Pairwise (· < ·) → ∀ i, (h : i < l.length) → (l.filter fun a => decide (a < l[i])).length = i
  | [], _, i, h => by simp at h
  | x :: t, hp, i, h => by
    rw [List.pairwise_cons] at hp
    cases i with
    | zero =>
      simp only [List.getElem_cons_zero]
      rw [List.filter_cons, if_neg (by simp)]
      rw [List.filter_eq_nil_iff.2]
      · rfl
      · intro a ha
        have := hp.1 a ha
        simp; omega
    | succ i =>
      simp only [List.getElem_cons_succ, List.length_cons] at h ⊢
      have hx := hp.1 (t[i]'(by omega)) (List.getElem_mem _)
      rw [List.filter_cons, if_pos (by simpa using hx), List.length_cons, sorted_idx t hp.2 i (by omega)]
theorem fsts_sorted (n : Nat) (f : Nat → Nat → Bool) (j : Nat) : (fsts n f j).Pairwise (· < ·) := List.Pairwise.sublist List.filter_sublist List.pairwise_lt_range
/-- The number of the set that stands at a place. -/
theorem prts_num_at (_h : Prts n f) {i : Nat} (hi : i < (fsts n f n).length) : num n f (fsts n f n)[i] = i := by
  have hm := List.getElem_mem hi
  generalize hc : (fsts n f n)[i] = c at *
  have hcn : c < n := by unfold fsts at hm; exact List.mem_range.1 (List.mem_filter.1 hm).1
  have hal : (List.range c).all (fun b => decide (bs (f b) n ≠ bs (f c) n)) = true := by unfold fsts at hm; exact (List.mem_filter.1 hm).2
  rw [num_new hcn hal, fsts_take n f (Nat.le_of_lt hcn), ← hc]
  exact sorted_idx _ (fsts_sorted n f n) i hi
theorem prts_num_lt (h : Prts n f) {a : Nat} (ha : a < n) : num n f a < (fsts n f n).length ∧ ∀ hl : num n f a < (fsts n f n).length, f a ((fsts n f n)[num n f a]) = true := by
  obtain ⟨r, hr, hf, hm, hfd, hnum⟩ := prts_rep h ha
  obtain ⟨i, hi, he⟩ := List.mem_iff_getElem.1 hm
  have h1 := prts_num_at h hi
  have h2 : num n f r = num n f a := by
    refine num_same (bs_ext fun x hx => ?_)
    exact (h.same a r ha hr hf x hx).symm
  rw [he, h2] at h1
  refine ⟨by omega, fun hl => ?_⟩
  have : (fsts n f n)[num n f a] = r := by simp only [h1]; exact he
  rw [this]
  exact hf
theorem prts_num_eq (h : Prts n f) {a b : Nat} (ha : a < n) (hb : b < n) : num n f a = num n f b ↔ f a b = true := by
  constructor
  · intro e
    obtain ⟨h1, h2⟩ := prts_num_lt h ha
    obtain ⟨h3, h4⟩ := prts_num_lt h hb
    have h5 := h2 h1
    have h6 := h4 h3
    simp only [← e] at h6
    have hm := List.getElem_mem h1
    generalize (fsts n f n)[num n f a] = c at *
    have hcn : c < n := by unfold fsts at hm; exact List.mem_range.1 (List.mem_filter.1 hm).1
    rw [h.same a c ha hcn h5 b hb, ← h.same b c hb hcn h6 b hb]
    exact h.refl b hb
  · intro e
    exact num_same (bs_ext fun x hx => h.same a b ha hb e x hx)
/-- The document's number of a thing's set. -/
theorem prts_which (h : Prts n f) {a : Nat} (ha : a < n) : whichI (csl n f n) a = (num n f a : Int) := by
  obtain ⟨h1, h2⟩ := prts_num_lt h ha
  have hget : ∀ t, t < (fsts n f n).length → ∀ hl : t < (fsts n f n).length, (csl n f n)[t]?.getD [] = li (lst n (f (fsts n f n)[t])) := fun t _ hl => by unfold csl; simp [hl]
  have hmem : ∀ t (hl : t < (fsts n f n).length), (a : Int) ∈ (csl n f n)[t]?.getD [] ↔ num n f a = t := fun t hl => by
    rw [hget t hl hl, mem_li, mem_lst]
    have hm := List.getElem_mem hl
    have hcn : (fsts n f n)[t] < n := by unfold fsts at hm; exact List.mem_range.1 (List.mem_filter.1 hm).1
    have h3 := prts_num_at h hl
    rw [← prts_num_eq h hcn ha, h3]
    exact ⟨fun h4 => h4.2.symm, fun h4 => ⟨ha, h4.symm⟩⟩
  refine whichI_at (by rw [csl_len]; exact h1) ((hmem _ h1).2 rfl) fun t ht => ?_
  rw [hmem t (by omega)]
  omega
end
section
variable {n e : Nat} {zs : List Int} {q : Nat → Bool}
theorem actL_get (zs : List Int) (f : Nat → Nat → Bool) (a : Nat) {i : Nat} (hi : i < (fsts n f n).length) : (actL n zs f a)[i]?.getD 0 = (num n f (tm n zs (fsts n f n)[i] a) : Int) := by
  unfold actL; simp [hi]
theorem fst_lt {f : Nat → Nat → Bool} {i : Nat} (hi : i < (fsts n f n).length) : (fsts n f n)[i] < n := by
  have hm := List.getElem_mem hi
  unfold fsts at hm ⊢
  exact List.mem_range.1 (List.mem_filter.1 hm).1
/-- A right coset, moved. -/
theorem rgt_mul (g : IsGrp n zs e) {a b c : Nat} (ha : a < n) (hb : b < n) (hc : c < n) : rgtq n zs (lst n q) (tm n zs a c) (tm n zs b c) = rgtq n zs (lst n q) a b := by
  obtain ⟨c1, c2, _, _⟩ := iv_spec g hc
  obtain ⟨a1, _, _, _⟩ := iv_spec g ha
  rw [rgt_iff g (tm_lt g.tab ha hc) (tm_lt g.tab hb hc), rgt_iff g ha hb]
  have : tm n zs (tm n zs b c) (iv n zs e (tm n zs a c)) = tm n zs b (iv n zs e a) := by
    have h1 : iv n zs e (tm n zs a c) = tm n zs (iv n zs e c) (iv n zs e a) := by
      refine (iv_only g (tm_lt g.tab ha hc) (tm_lt g.tab c1 a1) ?_).symm
      obtain ⟨_, a2, _, _⟩ := iv_spec g ha
      rw [g.ass a c _ ha hc (tm_lt g.tab c1 a1), ← g.ass c _ _ hc c1 a1, c2, g.left _ a1, a2]
    rw [h1, g.ass b c _ hb hc (tm_lt g.tab c1 a1), ← g.ass c _ _ hc c1 a1, c2, g.left _ a1]
  rw [this]
theorem act_perm (g : IsGrp n zs e) (hs : subT n zs e q = true) {a : Nat} (ha : a < n) : Pm.IsPerm (actL n zs (rgtq n zs (lst n q)) a) := by
  have P := rgt_parts g hs
  have hlen : (actL n zs (rgtq n zs (lst n q)) a).length = (fsts n (rgtq n zs (lst n q)) n).length := by unfold actL; rw [List.length_map]
  refine ⟨fun i hi => ?_, fun i j hij hj he => ?_⟩
  · rw [hlen] at hi ⊢
    rw [actL_get zs _ a hi]
    have := (prts_num_lt P (tm_lt g.tab (fst_lt hi) ha)).1
    omega
  · rw [hlen] at hj
    rw [actL_get zs _ a (by omega), actL_get zs _ a hj] at he
    have hi9 : i < (fsts n (rgtq n zs (lst n q)) n).length := by omega
    have h1 := (prts_num_eq P (tm_lt g.tab (fst_lt hi9) ha) (tm_lt g.tab (fst_lt hj) ha)).1 (by omega)
    rw [rgt_mul g (fst_lt hi9) (fst_lt hj) ha, ← prts_num_eq P (fst_lt hi9) (fst_lt hj), prts_num_at P hi9, prts_num_at P hj] at h1
    omega
theorem act_mul (g : IsGrp n zs e) (hs : subT n zs e q = true) {a b : Nat} (ha : a < n) (hb : b < n) : Pm.mulL (actL n zs (rgtq n zs (lst n q)) a) (actL n zs (rgtq n zs (lst n q)) b) = actL n zs (rgtq n zs (lst n q)) (tm n zs a b) := by
  have P := rgt_parts g hs
  have hlen : ∀ a, (actL n zs (rgtq n zs (lst n q)) a).length = (fsts n (rgtq n zs (lst n q)) n).length := fun a => by unfold actL; rw [List.length_map]
  refine List.ext_getElem (by rw [Pm.mulL_len, hlen, hlen]) fun i h1 h2 => ?_
  rw [hlen] at h2
  have hab := tm_lt g.tab ha hb
  have e1 : (Pm.mulL (actL n zs (rgtq n zs (lst n q)) a) (actL n zs (rgtq n zs (lst n q)) b))[i]?.getD 0 = (actL n zs (rgtq n zs (lst n q)) (tm n zs a b))[i]?.getD 0 := by
    rw [Pm.mulL_get _ (by rw [hlen]; exact h2), actL_get zs _ a h2, actL_get zs _ _ h2, Int.toNat_natCast]
    have hca := tm_lt g.tab (fst_lt h2) ha
    obtain ⟨k1, k2⟩ := prts_num_lt P hca
    rw [actL_get zs _ b k1]
    have k3 := k2 k1
    have hr := fst_lt k1
    generalize (fsts n (rgtq n zs (lst n q)) n)[num n (rgtq n zs (lst n q)) (tm n zs (fsts n (rgtq n zs (lst n q)) n)[i] a)] = r at *
    have : num n (rgtq n zs (lst n q)) (tm n zs r b) = num n (rgtq n zs (lst n q)) (tm n zs (fsts n (rgtq n zs (lst n q)) n)[i] (tm n zs a b)) := by
      rw [← g.ass _ a b (fst_lt h2) ha hb, prts_num_eq P (tm_lt g.tab hr hb) (tm_lt g.tab hca hb), rgt_mul g hr hca hb]
      exact P.symm hca hr k3
    rw [this]
  rw [List.getElem?_eq_getElem h1, List.getElem?_eq_getElem (by rw [hlen]; exact h2)] at e1
  exact e1
/-- What moves nothing is the core. -/
theorem act_core (g : IsGrp n zs e) (hs : subT n zs e q = true) : lst n (fun a => decide (actL n zs (rgtq n zs (lst n q)) a = li (List.range (fsts n (rgtq n zs (lst n q)) n).length))) = lst n (corq n zs e q n) := by
  have P := rgt_parts g hs
  refine lst_congr fun a ha => ?_
  obtain ⟨a1, a2, a3, _⟩ := iv_spec g ha
  have hlen : (actL n zs (rgtq n zs (lst n q)) a).length = (fsts n (rgtq n zs (lst n q)) n).length := by unfold actL; rw [List.length_map]
  have hfix : ∀ c, c < n → (rgtq n zs (lst n q) c (tm n zs c a) = true ↔ q (tm n zs (tm n zs c a) (iv n zs e c)) = true) := fun c hc => by
    obtain ⟨c1, _, _, _⟩ := iv_spec g hc
    rw [rgt_iff g hc (tm_lt g.tab hc ha), decide_eq_true_eq, mem_lst]
    exact ⟨fun h => h.2, fun h => ⟨tm_lt g.tab (tm_lt g.tab hc ha) c1, h⟩⟩
  rw [Bool.eq_iff_iff, decide_eq_true_eq, cor_iff g ha]
  unfold Fin.Core Fin.cj
  constructor
  · intro he x hx
    have hxn := List.mem_range.1 hx
    obtain ⟨x1, x2, x3, _⟩ := iv_spec g hxn
    -- the coset of the inverse, by its least thing
    obtain ⟨k1, k2⟩ := prts_num_lt P x1
    have k3 := k2 k1
    have hc := fst_lt k1
    have hnum := prts_num_at P k1
    have h9 := congrArg (fun l => l[num n (rgtq n zs (lst n q)) (iv n zs e x)]?.getD 0) he
    simp only [actL_get zs _ a k1] at h9
    rw [show (li (List.range (fsts n (rgtq n zs (lst n q)) n).length))[num n (rgtq n zs (lst n q)) (iv n zs e x)]?.getD 0 = (num n (rgtq n zs (lst n q)) (iv n zs e x) : Int) by simp [li, k1]] at h9
    generalize (fsts n (rgtq n zs (lst n q)) n)[num n (rgtq n zs (lst n q)) (iv n zs e x)] = c at *
    have h8 : num n (rgtq n zs (lst n q)) (iv n zs e x) = num n (rgtq n zs (lst n q)) (tm n zs c a) := by omega
    have h7 := (prts_num_eq P x1 (tm_lt g.tab hc ha)).1 h8
    have h6 : rgtq n zs (lst n q) (iv n zs e x) (tm n zs (iv n zs e x) a) = true := by
      rw [P.same _ _ x1 (tm_lt g.tab hc ha) h7 _ (tm_lt g.tab x1 ha), rgt_mul g hc x1 ha]
      exact P.symm x1 hc k3
    have h5 := (hfix _ x1).1 h6
    rw [show iv n zs e (iv n zs e x) = x from (iv_only g x1 hxn x3).symm, g.ass _ a x x1 ha hxn] at h5
    exact h5
  · intro h
    refine List.ext_getElem (by rw [hlen, li_len, List.length_range]) fun i h1 h2 => ?_
    rw [hlen] at h1
    have hc := fst_lt h1
    obtain ⟨c1, c2, c3, _⟩ := iv_spec g hc
    have h5 := h _ (List.mem_range.2 c1)
    rw [show iv n zs e (iv n zs e (fsts n (rgtq n zs (lst n q)) n)[i]) = (fsts n (rgtq n zs (lst n q)) n)[i] from (iv_only g c1 hc c3).symm, ← g.ass _ a _ hc ha c1] at h5
    have h6 := (hfix _ hc).2 h5
    have h7 := (prts_num_eq P hc (tm_lt g.tab hc ha)).2 h6
    rw [prts_num_at P h1] at h7
    have e1 : (actL n zs (rgtq n zs (lst n q)) a)[i]?.getD 0 = (li (List.range (fsts n (rgtq n zs (lst n q)) n).length))[i]?.getD 0 := by
      rw [actL_get zs _ a h1, ← h7]
      simp [li, h1]
    rw [List.getElem?_eq_getElem (by rw [hlen]; exact h1), List.getElem?_eq_getElem h2] at e1
    exact e1
end
end Go.Proofs.YtoiemlnmcfmakaaDoor

namespace Go.Proofs.YtoiemlnmcfmakaaDoor
open Go Go.RowKit

/-- A list that is new since B: it reads so, whatever lies ahead of B. -/
def Frs2 (B : Nat) (W : World) (v : Value) (zs : List Int) : Prop := 0 < W.heap.size ∧ ∀ W' : World, (∀ g, B ≤ g → g < W.heap.size → W'.heap[g]? = W.heap[g]?) → W.heap.size ≤ W'.heap.size → Sl W' v zs
theorem Frs2.sl {B : Nat} {W : World} {v : Value} {zs : List Int} (h : Frs2 B W v zs) : Sl W v zs := h.2 W (fun _ _ _ => rfl) (Nat.le_refl _)
theorem Frs2.set {B b o : Nat} {W : World} {v y : Value} {zs : List Int} (h : Frs2 B W v zs) (hb : b < B) : Frs2 B (W.setCell ⟨b, o, none⟩ y) v zs :=
  ⟨by rw [size_set]; exact h.1, fun W' hk hs => h.2 W' (fun g h1 h2 => (hk g h1 (by rw [size_set]; exact h2)).trans (Below.heap_setCell _ _ _ g (by simp; omega))) (by rw [size_set] at hs; exact hs)⟩
theorem Frs2.sl2 {B b o : Nat} {W : World} {v y : Value} {zs : List Int} (h : Frs2 B W v zs) (hb : b < B) : Sl (W.setCell ⟨b, o, none⟩ y) v zs := (h.set hb).sl
theorem SlF.frs2 {B : Nat} {W : World} {v : Value} {zs : List Int} (h : SlF B W v zs) (h0 : 0 < W.heap.size) : Frs2 B W v zs := ⟨h0, fun _ hk hs => (h.keep hk hs).sl⟩
theorem ans2 {f : Nat} {args : Array Value} {w : World} {zs : List Int} (h0 : 0 < w.heap.size) (h : Calls Tryd.prog f args w fun x w' => ∃ r, x = .returned (.tuple #[r, .agg #[.int .i64 0, .int .i64 0]]) ∧ SlF w.heap.size w' r zs ∧ Below w.heap.size w w') :
    Calls Tryd.prog f args w fun x w' => ∃ r1 r2 r3, x = .returned (.tuple #[.slice r1 r2 r3, .agg #[.int .i64 0, .int .i64 0]]) ∧ Frs2 w.heap.size w' (.slice r1 r2 r3) zs ∧ Below w.heap.size w w' := by
  refine h.mono ?_
  rintro x w' ⟨r, rfl, hr, hb⟩
  obtain ⟨a, l, c, rfl⟩ := hr.sl.isSlice
  exact ⟨a, l, c, rfl, hr.frs2 (Nat.lt_of_lt_of_le h0 hb.size), hb⟩
def ARel (w1 : World) (zs : List Int) (s6 s7 : Value) (W : World) : Prop := ∃ fb a l k, s6 = .slice a l k ∧ s7 = .pointer (some ⟨fb, 0, none⟩) ∧ Blk W fb 28 [.int .i64 0, .int .i64 0] ∧ Sl W (.slice a l k) zs ∧ Below w1.heap.size w1 W
/-- A cell of lists of lists: the list that lies there. -/
theorem SlL.get {w : World} {a : Option Addr} {c : Nat} {rs : List (List Int)} (h : SlL w (.slice a rs.length c) rs) {j : Nat} {y : List Int} (hy : rs[j]? = some y) : ∃ pb po y1 ycap, a = some ⟨pb, po, none⟩ ∧ w.cell? ⟨pb, po + j, none⟩ = some (.slice y1 y.length ycap) ∧ Sl w (.slice y1 y.length ycap) y := by
  obtain ⟨a', c', pb, po, he, h1, h2, _, _, _⟩ := h
  injection he with e1 e2 e3
  subst e1 e3
  have hj := (List.getElem?_eq_some_iff.1 hy).1
  obtain ⟨x, hx, hs⟩ := h2 j hj
  rw [hy] at hs
  obtain ⟨y1, ycap, h3⟩ : ∃ y1 ycap, x = .slice y1 y.length ycap := by
    obtain ⟨y1, ycap, _, _, h3, _⟩ := hs
    exact ⟨y1, ycap, h3⟩
  subst h3
  exact ⟨pb, po, y1, ycap, h1 (by omega), hx, hs⟩
theorem Sl.get {w : World} {a : Option Addr} {k c : Nat} {y : List Int} (h : Sl w (.slice a k c) y) {i : Nat} (hi : i < y.length) : ∃ pb po, a = some ⟨pb, po, none⟩ ∧ w.cell? ⟨pb, po + i, none⟩ = some (.int .i64 (y[i]?.getD 0)) := by
  obtain ⟨a', c', pb, po, he, hr, _, _, _⟩ := h
  injection he with e1 e2 e3
  subst e1
  exact ⟨pb, po, hr.at_ (by omega), hr.cell i hi⟩
set_option maxRecDepth 100000 in
set_option maxHeartbeats 40000000 in
theorem acts_bad (N : Int) (v1 : Option Addr) (v2 v3 : Nat) (u1 : Option Addr) (u2 u3 : Nat) (zs l : List Int) (w : World) (hv : Sl w (.slice v1 v2 v3) zs) (hu : Sl w (.slice u1 u2 u3) l) (hT : Tab w) (hz : zs.length * 8 ≤ 140737488355328) (hl8 : l.length * 8 ≤ 140737488355328) (c i : Int) (hc : c ≠ 0)
    (HACT : Hid (∀ W x m, Below w.heap.size w W → Sl W x zs → Sl W m l → Calls Tryd.prog 77 #[.agg #[.int .i64 N, x], m] W fun x W' => ∃ r1 r2 r3, x = .returned (.tuple #[.slice r1 r2 r3, .agg #[.int .i64 c, .int .i64 i]]) ∧ SlL W' (.slice r1 r2 r3) [] ∧ Below W.heap.size W W'))
    (HU : Hid (∀ W, Below w.heap.size w W → Calls Tryd.prog 46 #[.agg #[.int .i64 N, .slice v1 v2 v3], .slice u1 u2 u3] W fun e W' => e = .returned (.agg #[.int .i64 c, .int .i64 i]) ∧ Below W.heap.size W W')) :
    Calls Tryd.prog 12 #[.agg #[.int .i64 N, .slice v1 v2 v3], .slice u1 u2 u3] w fun e w' => e = .returned (.bool true) ∧ Below w.heap.size w w' := by
  have hcb : (c != 0) = true := by simpa using hc
  have hB0 : Below w.heap.size w (w.alloc (.cells #[.int .i64 N, .slice v1 v2 v3] 24)) := balloc w _
  have hX0 : BoxG (w.alloc (.cells #[.int .i64 N, .slice v1 v2 v3] 24)) w.heap.size N (.slice v1 v2 v3) := blk0 _ _
  obtain ⟨w0, hw0⟩ : ∃ w0, w0 = w.alloc (.cells #[.int .i64 N, .slice v1 v2 v3] 24) := ⟨_, rfl⟩
  rw [← hw0] at hB0 hX0
  obtain ⟨c0, c1, _, _⟩ := hX0.two
  rw [hw0] at c0 c1
  go_enter Tryd.func12, Tryd.ntmps12
  go_wp2_with fail
  rw [← hw0]
  clear hw0 c0 c1
  refine (ownGroup_row N (.slice v1 v2 v3) zs w0 (hv.below hB0) hz).mono ?_
  rintro x w1 ⟨x9, rfl, hx9, hb1⟩
  obtain ⟨x1, x3, rfl⟩ := row_len hx9
  have hB1 := bcat2 hB0 hb1
  have h01 : 0 < w1.heap.size := Nat.lt_of_lt_of_le hT.lt hB1.size
  have hx1 := row_sl hx9 h01
  go_wp2_with fail
  refine (own_any (.slice u1 u2 u3) l w1 (hu.below hB1) hl8).mono ?_
  rintro x w2 ⟨m9, rfl, hm9, hb2⟩
  obtain ⟨m1, m3, rfl⟩ := own_slice hm9
  have hB2 := bcat2 hB1 hb2
  have hm2 := row_sl hm9 (Nat.lt_of_lt_of_le h01 hb2.size)
  have hx2 := hx1.below hb2
  go_wp2_with fail
  refine (HACT.out _ _ _ hB2 hx2 hm2).mono ?_
  rintro x w3 ⟨p1, p2, p3, rfl, hp3, hb3⟩
  have hF4 : Blk ((w3.alloc (.cells #[.slice p1 p2 p3] 55)).alloc (.cells #[.int .i64 c, .int .i64 i] 28)) (w3.heap.size + 1) 28 [.int .i64 c, .int .i64 i] := by
    have h := blk0 (w := w3.alloc (.cells #[.slice p1 p2 p3] 55)) (T := 28) (.int .i64 c) (.int .i64 i)
    rw [World.size_alloc] at h
    exact h
  have hP4 : Boxed ((w3.alloc (.cells #[.slice p1 p2 p3] 55)).alloc (.cells #[.int .i64 c, .int .i64 i] 28)) w3.heap.size 55 (.slice p1 p2 p3) := (Boxed.new w3 55 (.slice p1 p2 p3)).alloc _
  have hb34 := (balloc w3 (.cells #[.slice p1 p2 p3] 55)).alloc (by simp) (.cells #[.int .i64 c, .int .i64 i] 28)
  have hp4 := hp3.below hb34
  have hB4 := bcat2 (bcat2 hB2 hb3) hb34
  have hX4 := blk_below hX0 (bcat2 (bcat2 hb1 hb2) (bcat2 hb3 hb34))
  obtain ⟨c0, c1, _, _⟩ := hX4.two
  go_wp2_with fail
  clear c0 c1 hb34 hp3 hx2 hm2 hx1 hx9 hm9 hB2 hB1 hb1 hb2 hb3 hX0 h01 HACT
  generalize (w3.alloc (.cells #[.slice p1 p2 p3] 55)).alloc (.cells #[.int .i64 c, .int .i64 i] 28) = w4 at *
  refine (HU.out w4 hB4).mono ?_
  rintro x w5 ⟨rfl, hb5⟩
  have hb6 := bcat2 hb5 (balloc w5 (.cells #[.int .i64 c, .int .i64 i] 28))
  have hG6 := blk0 (w := w5) (T := 28) (.int .i64 c) (.int .i64 i)
  have hX6 := blk_below hX4 hb6
  have hF6 := blk_below hF4 hb6
  have hP6 := Boxed.below hP4 hb6
  have hp6 := hp4.below hb6
  have hB6 := bcat2 hB4 hb6
  go_wp2_with fail
  generalize w5.alloc (.cells #[.int .i64 c, .int .i64 i] 28) = w6 at *
  clear hX4 hF4 hP4 hp4 hb5 hb6 hB4 HU
  refine (cosetBegun_any w6 (hT.below hB6)).mono ?_
  rintro x w7 ⟨rfl, hb7⟩
  have hX7 := blk_below hX6 hb7
  have hF7 := blk_below hF6 hb7
  have hG7 := blk_below hG6 hb7
  have hP7 := Boxed.below hP6 hb7
  have hp7 := hp6.below hb7
  have hB7 := bcat2 hB6 hb7
  clear hX6 hF6 hG6 hP6 hp6 hB6 hb7
  obtain ⟨t0, t1, _, _⟩ := hF7.two
  obtain ⟨t2, t3, _, _⟩ := hG7.two
  obtain ⟨c0, c1, _, _⟩ := hX7.two
  have c2 := hP7.cell
  obtain ⟨pa, pcap, _, _, hpe, _, _, _, _, _⟩ := hp7
  injection hpe with e1 e2 e3
  subst e1 e2 e3
  go_wp2
  go_ret
  exact ⟨rfl, hB7⟩
end Go.Proofs.YtoiemlnmcfmakaaDoor

namespace Go.Proofs.YtoiemlnmcfmakaaDoor
open Go Go.RowKit

theorem acts_sl {n : Nat} {zs : List Int} {f : Nat → Nat → Bool} {w : World} {a : Option Addr} {c : Nat} (h : SlL w (.slice a n c) (acts n zs f n)) : SlL w (.slice a (acts n zs f n).length c) (acts n zs f n) := by rw [acts_len]; exact h
theorem csl_sl {n m : Nat} {f : Nat → Nat → Bool} {w : World} {a : Option Addr} {c : Nat} (h : SlL w (.slice a m c) (csl n f n)) (hm : (csl n f n).length = m) : SlL w (.slice a (csl n f n).length c) (csl n f n) := by rw [hm]; exact h
set_option maxRecDepth 100000 in
set_option maxHeartbeats 40000000 in
theorem acts_good (n e m : Nat) (f : Nat → Nat → Bool) (v1 : Option Addr) (v2 v3 : Nat) (u1 : Option Addr) (u2 u3 : Nat) (zs l : List Int) (core : List Int) (w : World) (hv : Sl w (.slice v1 v2 v3) zs) (hg : IsGrp n zs e) (hu : Sl w (.slice u1 u2 u3) l) (hT : Tab w) (hz : zs.length * 8 ≤ 140737488355328) (hl8 : l.length * 8 ≤ 140737488355328)
    (HACT : Hid (∀ W x m, Below w.heap.size w W → Sl W x zs → Sl W m l → Calls Tryd.prog 77 #[.agg #[.int .i64 n, x], m] W fun x W' => ∃ r1 r2 r3, x = .returned (.tuple #[.slice r1 r2 r3, .agg #[.int .i64 0, .int .i64 0]]) ∧ SlL W' (.slice r1 r2 r3) (acts n zs f n) ∧ Below W.heap.size W W'))
    (HU : Hid (∀ W, Below w.heap.size w W → Calls Tryd.prog 46 #[.agg #[.int .i64 n, .slice v1 v2 v3], .slice u1 u2 u3] W fun e W' => e = .returned (.agg #[.int .i64 0, .int .i64 0]) ∧ Below W.heap.size W W'))
    (HRO : Hid (∀ W, Below w.heap.size w W → Calls Tryd.prog 70 #[.agg #[.int .i64 n, .slice v1 v2 v3], .slice u1 u2 u3] W fun x W' => ∃ r, x = .returned r ∧ SlL W' r (csl n f n) ∧ Below W.heap.size W W'))
    (HCO : Hid (∀ W, Below w.heap.size w W → Calls Tryd.prog 44 #[.agg #[.int .i64 n, .slice v1 v2 v3], .slice u1 u2 u3] W fun x W' => ∃ r1 r2 r3, x = .returned (.tuple #[.slice r1 r2 r3, .agg #[.int .i64 0, .int .i64 0]]) ∧ Frs2 W.heap.size W' (.slice r1 r2 r3) core ∧ Below W.heap.size W W'))
    (HMM : Hid ((csl n f n).length = m)) (HML : Hid (m ≤ 60))
    (HROW : Hid (∀ a, a < n → ∃ y, (acts n zs f n)[a]? = some y ∧ y.length = m ∧ (y.length = m ∧ y = actL n zs f a)))
    (HZ : Hid (∀ k, k < m → ∃ (ck : Nat) (t : List Int), ck < n ∧ (csl n f n)[k]? = some ((ck : Int) :: t) ∧ ∀ a, a < n → (actL n zs f a)[k]?.getD 0 = whichI (csl n f n) (tm n zs ck a : Nat)))
    (HPM : Hid (∀ a, a < n → Pm.IsPerm (actL n zs f a))) (HMULL : Hid (∀ a b, a < n → b < n → Pm.mulL (actL n zs f a) (actL n zs f b) = actL n zs f (tm n zs a b)))
    (HCE : Hid (core = li (lst n (fun a => decide (actL n zs f a = li (List.range m)))))) :
    Calls Tryd.prog 12 #[.agg #[.int .i64 n, .slice v1 v2 v3], .slice u1 u2 u3] w fun e w' => e = .returned (.bool true) ∧ Below w.heap.size w w' := by
  have hn := hg.tab.le
  have at0 : ∀ W : World, Below w.heap.size w W → 0 < W.heap.size := fun W h => Nat.lt_of_lt_of_le hT.lt h.size
  have hB0 : Below w.heap.size w (w.alloc (.cells #[.int .i64 n, .slice v1 v2 v3] 24)) := balloc w _
  have hX0 : BoxG (w.alloc (.cells #[.int .i64 n, .slice v1 v2 v3] 24)) w.heap.size n (.slice v1 v2 v3) := blk0 _ _
  obtain ⟨w0, hw0⟩ : ∃ w0, w0 = w.alloc (.cells #[.int .i64 n, .slice v1 v2 v3] 24) := ⟨_, rfl⟩
  rw [← hw0] at hB0 hX0
  obtain ⟨c0, c1, _, _⟩ := hX0.two
  rw [hw0] at c0 c1
  go_enter Tryd.func12, Tryd.ntmps12
  go_wp2_with fail
  rw [← hw0]
  clear hw0 c0 c1
  refine (ownGroup_row n (.slice v1 v2 v3) zs w0 (hv.below hB0) hz).mono ?_
  rintro x w1 ⟨x9, rfl, hx9, hb1⟩
  obtain ⟨x1, x3, rfl⟩ := row_len hx9
  have hB1 := bcat2 hB0 hb1
  have h01 : 0 < w1.heap.size := Nat.lt_of_lt_of_le hT.lt hB1.size
  have hx1 := row_sl hx9 h01
  go_wp2_with fail
  refine (own_any (.slice u1 u2 u3) l w1 (hu.below hB1) hl8).mono ?_
  rintro x w2 ⟨m9, rfl, hm9, hb2⟩
  obtain ⟨m1, m3, rfl⟩ := own_slice hm9
  have hB2 := bcat2 hB1 hb2
  have hm2 := row_sl hm9 (Nat.lt_of_lt_of_le h01 hb2.size)
  have hx2 := hx1.below hb2
  go_wp2_with fail
  refine (HACT.out _ _ _ hB2 hx2 hm2).mono ?_
  rintro x w3 ⟨p1, p2, p3, rfl, hp3, hb3⟩
  have hF4 : Blk ((w3.alloc (.cells #[.slice p1 p2 p3] 55)).alloc (.cells #[.int .i64 0, .int .i64 0] 28)) (w3.heap.size + 1) 28 [.int .i64 0, .int .i64 0] := by
    have h := blk0 (w := w3.alloc (.cells #[.slice p1 p2 p3] 55)) (T := 28) (.int .i64 0) (.int .i64 0)
    rw [World.size_alloc] at h
    exact h
  have hP4 : Boxed ((w3.alloc (.cells #[.slice p1 p2 p3] 55)).alloc (.cells #[.int .i64 0, .int .i64 0] 28)) w3.heap.size 55 (.slice p1 p2 p3) := (Boxed.new w3 55 (.slice p1 p2 p3)).alloc _
  have hb34 := (balloc w3 (.cells #[.slice p1 p2 p3] 55)).alloc (by simp) (.cells #[.int .i64 0, .int .i64 0] 28)
  have hp4 := hp3.below hb34
  have hB4 := bcat2 (bcat2 hB2 hb3) hb34
  have hX4 := blk_below hX0 (bcat2 (bcat2 hb1 hb2) (bcat2 hb3 hb34))
  obtain ⟨c0, c1, _, _⟩ := hX4.two
  go_wp2_with fail
  clear c0 c1 hb34 hp3 hx2 hm2 hx1 hx9 hm9 hB2 hB1 hb1 hb2 hb3 hX0 h01 HACT
  generalize (w3.alloc (.cells #[.slice p1 p2 p3] 55)).alloc (.cells #[.int .i64 0, .int .i64 0] 28) = w4 at *
  refine (HU.out w4 hB4).mono ?_
  rintro x w5 ⟨rfl, hb5⟩
  have hb6 := bcat2 hb5 (balloc w5 (.cells #[.int .i64 0, .int .i64 0] 28))
  have hG6 := blk0 (w := w5) (T := 28) (.int .i64 0) (.int .i64 0)
  have hX6 := blk_below hX4 hb6
  have hF6 := blk_below hF4 hb6
  have hP6 := Boxed.below hP4 hb6
  have hp6 := hp4.below hb6
  have hB6 := bcat2 hB4 hb6
  go_wp2_with fail
  generalize w5.alloc (.cells #[.int .i64 0, .int .i64 0] 28) = w6 at *
  clear hX4 hF4 hP4 hp4 hb5 hb6 hB4 HU
  refine (cosetBegun_any w6 (hT.below hB6)).mono ?_
  rintro x w7 ⟨rfl, hb7⟩
  have hX7 := blk_below hX6 hb7
  have hF7 := blk_below hF6 hb7
  have hG7 := blk_below hG6 hb7
  have hP7 := Boxed.below hP6 hb7
  have hp7 := hp6.below hb7
  have hB7 := bcat2 hB6 hb7
  clear hX6 hF6 hG6 hP6 hp6 hB6 hb7
  obtain ⟨t0, t1, _, _⟩ := hF7.two
  obtain ⟨t2, t3, _, _⟩ := hG7.two
  obtain ⟨c0, c1, _, _⟩ := hX7.two
  have c2 := hP7.cell
  obtain rfl : n = p2 := by
    obtain ⟨_, _, _, _, hpe, _⟩ := id hp7
    injection hpe with _ e2
    rw [e2, acts_len]
  have hlr : (csl n f n).length = m := HMM.out
  go_wp2_with fail
  clear c0 c1 c2 t0 t1 t2 t3 hF7 hG7
  refine (HRO.out w7 hB7).mono ?_
  rintro x w8 ⟨r9, rfl, hr8, hb8⟩
  obtain ⟨r1, r2, r3, rfl⟩ := hr8.isSlice
  obtain rfl : r2 = m := by
    obtain ⟨_, _, _, _, hpe, _⟩ := id hr8
    injection hpe with _ e2
    rw [e2, hlr]
  have hm60 : r2 ≤ 60 := HML.out
  have hb9 := bcat2 hb8 (balloc w8 (.cells #[.slice r1 r2 r3] 55))
  have hX9 := blk_below hX7 hb9
  have hP9 := Boxed.below hP7 hb9
  have hp9 := hp7.below hb9
  have hB9 := bcat2 hB7 hb9
  have hR9 := Boxed.new w8 55 (.slice r1 r2 r3)
  have hr9 := hr8.below (balloc w8 (.cells #[.slice r1 r2 r3] 55))
  obtain ⟨c0, c1, _, _⟩ := hX9.two
  have c2 := hP9.cell
  clear hX7 hP7 hp7 hB7 hb8 hb9 hr8
  go_wp2
  clear c0 c1 c2
  generalize w8.alloc (.cells #[.slice r1 r2 r3] 55) = w9 at *
  have h09 : 0 < w9.heap.size := at0 _ hB9
  have HXB := hide hX9
  have HPB := hide hP9
  have HRB := hide hR9
  have HPL := hide hp9
  have HRL := hide hr9
  clear hX9 hP9 hR9 hp9 hr9 hlr
  go_loopw [9] (fun i9 wr => ∃ a : Nat, a ≤ n ∧ i9 = .int .i64 a ∧ Below w9.heap.size w9 wr) (fun i9 _ => n - (intOf i9).toNat)
  case atStart => exact ⟨0, Nat.zero_le _, rfl, Below.refl _ _⟩
  case round =>
    obtain ⟨a, ha, rfl, hB⟩ := hrel
    obtain ⟨wo, rfl⟩ : ∃ wo, wo = wr := ⟨_, rfl⟩
    obtain ⟨c0, c1, _, _⟩ := (blk_below HXB.out hB).two
    have c2 := (Boxed.below HPB.out hB).cell
    have c3 := (Boxed.below HRB.out hB).cell
    by_cases hlt : a < n
    · have hai : (a : Int) < (n : Int) := by omega
      obtain ⟨y, hy, hyl, hyk⟩ := HROW.out a hlt
      obtain ⟨pb, po, y1, ycap, rfl, cy, hys⟩ := (acts_sl HPL.out).get hy
      rw [hyl] at cy hys
      have HYS := hide hys
      have HCY := hide cy
      have cy := below_cell hB cy
      clear hys hyl
      go_wp2_with fail
      go_quiet (fail)
      have hBq := bdrewN hB nq
      generalize wo.drewN nq = wq at hBq ⊢
      clear c0 c1 c2 c3 cy
      go_wp2
      go_loopw [10] (fun i9 wr => ∃ k : Nat, k ≤ r2 ∧ i9 = .int .i64 k ∧ Below w9.heap.size w9 wr) (fun i9 _ => r2 - (intOf i9).toNat)
      case atStart => exact ⟨0, Nat.zero_le _, rfl, hBq⟩
      case round =>
        clear hBq hB
        obtain ⟨k, hk, rfl, hB⟩ := hrel
        obtain ⟨c0, c1, _, _⟩ := (blk_below HXB.out hB).two
        have c2 := (Boxed.below HPB.out hB).cell
        have c3 := (Boxed.below HRB.out hB).cell
        by_cases hkl : k < r2
        · have hki : (k : Int) < (r2 : Int) := by omega
          obtain ⟨ck, t9, hck, hcz, hnum⟩ := HZ.out k hkl
          obtain ⟨rb, ro, z1, zcap, rfl, cz, hzs⟩ := (csl_sl HRL.out HMM.out).get hcz
          obtain ⟨zb, zo, rfl, c4⟩ := hzs.get (i := 0) (by simp)
          rw [show ((ck : Int) :: t9)[0]?.getD 0 = (ck : Int) from rfl, Nat.add_zero] at c4
          rw [show ((ck : Int) :: t9).length = t9.length + 1 from rfl] at cz
          obtain ⟨yb, yo, rfl, c5⟩ := HYS.out.get (i := k) (by rw [hyk.1]; exact hkl)
          have HYK := hide (show whichI (csl n f n) (tm n zs ck a : Nat) = y[k]?.getD 0 by rw [hyk.2]; exact (hnum a hlt).symm)
          have hct : tm n zs ck a < n := tm_lt hg.tab hck hlt
          obtain ⟨yk, hye⟩ : ∃ yk, y[k]?.getD 0 = yk := ⟨_, rfl⟩
          rw [hye] at c5 HYK
          clear hye
          have HM := hide (fun W (h : Below wr.heap.size wr W) => M_ok n (.slice v1 v2 v3) zs ck a W hg.tab (hv.below (bcat2 hB9 (bcat2 hB h))) hck hlt)
          have HWH := hide (fun W (h : Below wr.heap.size wr W) => which_ok _ (csl n f n) (tm n zs ck a : Nat) W (HRL.out.below (bcat2 hB h)))
          rw [HYK.out] at HWH
          have cy := below_cell hB HCY.out
          have cz := below_cell hB cz
          have c4 := below_cell hB c4
          have c5 := below_cell hB c5
          have hti : ((0 : Nat) : Int) < ((t9.length + 1 : Nat) : Int) := by omega
          have hS : ∀ W, Below wr.heap.size wr W → (Below wr.heap.size wr W ∧ W.cell? ⟨w.heap.size, 0, none⟩ = some (.int .i64 n) ∧ W.cell? ⟨w.heap.size, 1, none⟩ = some (.slice v1 v2 v3) ∧ W.cell? ⟨w3.heap.size, 0, none⟩ = some (.slice (some ⟨pb, po, none⟩) n p3) ∧ W.cell? ⟨w8.heap.size, 0, none⟩ = some (.slice (some ⟨rb, ro, none⟩) r2 r3) ∧ W.cell? ⟨pb, po + a, none⟩ = some (.slice (some ⟨yb, yo, none⟩) r2 ycap) ∧ W.cell? ⟨yb, yo + k, none⟩ = some (.int .i64 yk) ∧ W.cell? ⟨rb, ro + k, none⟩ = some (.slice (some ⟨zb, zo, none⟩) (t9.length + 1) zcap) ∧ W.cell? ⟨zb, zo, none⟩ = some (.int .i64 ck)) := fun W h => ⟨h, below_cell h c0, below_cell h c1, below_cell h c2, below_cell h c3, below_cell h cy, below_cell h c5, below_cell h cz, below_cell h c4⟩
          have hS0 := hS _ (bdrew (Below.refl _ wr))
          clear c0 c1 c2 c4 c5 cy cz hcz hzs hnum
          go_wp2_with fail
          clear c3
          go_region_held3 (fun W => Below wr.heap.size wr W ∧ W.cell? ⟨w.heap.size, 0, none⟩ = some (.int .i64 n) ∧ W.cell? ⟨w.heap.size, 1, none⟩ = some (.slice v1 v2 v3) ∧ W.cell? ⟨w3.heap.size, 0, none⟩ = some (.slice (some ⟨pb, po, none⟩) n p3) ∧ W.cell? ⟨w8.heap.size, 0, none⟩ = some (.slice (some ⟨rb, ro, none⟩) r2 r3) ∧ W.cell? ⟨pb, po + a, none⟩ = some (.slice (some ⟨yb, yo, none⟩) r2 ycap) ∧ W.cell? ⟨yb, yo + k, none⟩ = some (.int .i64 yk) ∧ W.cell? ⟨rb, ro + k, none⟩ = some (.slice (some ⟨zb, zo, none⟩) (t9.length + 1) zcap) ∧ W.cell? ⟨zb, zo, none⟩ = some (.int .i64 ck))
            (first | exact hS0 | assumption | exact hS _ (bcat2 (And.left ‹_›) hl1))
            (first
              | (go_at_call 31; refine (HM.out _ (And.left ‹_›)).mono ?_; rintro e1 U1 ⟨rfl, hl1⟩)
              | (go_at_call 78; refine (HWH.out _ (And.left ‹_›)).mono ?_; rintro e2 U2 ⟨rfl, hl1⟩))
          all_goals (
            have hB8 := And.left ‹Below wr.heap.size wr U2 ∧ _›
            go_wp2
            go_roundw
            case rel => exact ⟨k + 1, by omega, by go_num, bcat2 hB hB8⟩
            case measure => simp [intOf]; omega)
        · have hki : ¬ (k : Int) < (r2 : Int) := by omega
          go_wp2
          go_roundw
          case rel => exact ⟨a + 1, by omega, by go_num, hB⟩
          case measure => simp [intOf]; omega
    · have hai : ¬ (a : Int) < (n : Int) := by omega
      clear c2 c3
      go_wp2
      clear c0 c1
      go_loopw [11] (fun i9 wr => ∃ a : Nat, a ≤ n ∧ i9 = .int .i64 a ∧ Below w9.heap.size w9 wr) (fun i9 _ => n - (intOf i9).toNat)
      case atStart => exact ⟨0, Nat.zero_le _, rfl, hB⟩
      case round =>
        clear hB hai ha
        obtain ⟨a, ha, rfl, hB⟩ := hrel
        obtain ⟨wo, rfl⟩ : ∃ wo, wo = wr := ⟨_, rfl⟩
        obtain ⟨c0, c1, _, _⟩ := (blk_below HXB.out hB).two
        by_cases hlt : a < n
        · have hai : (a : Int) < (n : Int) := by omega
          go_wp2
          clear c0 c1
          go_loopw [12] (fun i9 wr => ∃ b : Nat, b ≤ n ∧ i9 = .int .i64 b ∧ Below w9.heap.size w9 wr) (fun i9 _ => n - (intOf i9).toNat)
          case atStart => exact ⟨0, Nat.zero_le _, rfl, hB⟩
          case round =>
            clear hB
            obtain ⟨b, hb, rfl, hB⟩ := hrel
            obtain ⟨c0, c1, _, _⟩ := (blk_below HXB.out hB).two
            by_cases hbl : b < n
            · have hbi : (b : Int) < (n : Int) := by omega
              obtain ⟨y, hy, hyl, hyk⟩ := HROW.out a hlt
              obtain ⟨x, hx, hxl, hxk⟩ := HROW.out b hbl
              have hct : tm n zs a b < n := tm_lt hg.tab hlt hbl
              obtain ⟨d, hd, hdl, hdk⟩ := HROW.out _ hct
              obtain ⟨pb, po, y1, ycap, rfl, cy, hys⟩ := (acts_sl HPL.out).get hy
              obtain ⟨pb2, po2, x1, xcap, he2, cx, hxs⟩ := (acts_sl HPL.out).get hx
              injection he2 with he2
              injection he2 with e1 e2
              subst e1 e2
              obtain ⟨pb2, po2, e1, ecap, he2, cd, hds⟩ := (acts_sl HPL.out).get hd
              injection he2 with he2
              injection he2 with e3 e4
              subst e3 e4
              rw [hyl] at cy hys
              rw [hxl] at cx hxs
              rw [hdl] at cd hds
              have HMU := hide (fun W (h : Below wr.heap.size wr W) => ans2 (at0 _ (bcat2 hB9 (bcat2 hB h))) (Pm.mul_ok (.slice y1 r2 ycap) (.slice x1 r2 xcap) y x W (hys.below (bcat2 hB h)) (hxs.below (bcat2 hB h)) (by rw [hyk.2]; exact HPM.out a hlt) (by rw [hxk.2]; exact HPM.out b hbl) (by rw [hyl, hxl]) (by rw [hyl]; omega)))
              have HME := hide (show Pm.mulL y x = d by rw [hyk.2, hxk.2, hdk.2]; exact HMULL.out a b hlt hbl)
              rw [HME.out] at HMU
              have HDS := hide hds
              have HCD := hide cd
              have cy := below_cell hB cy
              have cx := below_cell hB cx
              have c2 := (Boxed.below HPB.out hB).cell
              clear hys hxs hds cd hyl hxl hyk hxk hdk HME
              go_wp2_with fail
              clear c0 c1
              go_cut [13, 14] from 94 to 126 (fun s13 s14 wy => ARel wr d s13 s14 wy)
              case first =>
                have hS : ∀ W, Below wr.heap.size wr W → (Below wr.heap.size wr W ∧ W.cell? ⟨w3.heap.size, 0, none⟩ = some (.slice (some ⟨pb, po, none⟩) n p3) ∧ W.cell? ⟨pb, po + a, none⟩ = some (.slice y1 r2 ycap) ∧ W.cell? ⟨pb, po + b, none⟩ = some (.slice x1 r2 xcap)) := fun W h => ⟨h, below_cell h c2, below_cell h cy, below_cell h cx⟩
                have hS0 := hS _ (bdrew (Below.refl _ wr))
                clear c2 cy cx
                go_region_held3 (fun W => Below wr.heap.size wr W ∧ W.cell? ⟨w3.heap.size, 0, none⟩ = some (.slice (some ⟨pb, po, none⟩) n p3) ∧ W.cell? ⟨pb, po + a, none⟩ = some (.slice y1 r2 ycap) ∧ W.cell? ⟨pb, po + b, none⟩ = some (.slice x1 r2 xcap))
                  (first | exact hS0 | assumption | exact hS _ (bcat2 (And.left ‹_›) hl1) | exact hS _ (bcat2 (And.left ‹_›) (balloc _ _)) | (refine hS _ ?_; repeat (first | exact hU2 | (refine bAlloc ?_) | (refine bSet ?_ (by omega)))))
                  (first
                    | (go_at_call 79; refine (HMU.out _ (And.left ‹_›)).mono ?_; rintro e2 U2 ⟨k1, k2, k3, rfl, hk9, hl1⟩; have hlB := hl1; have hU2 := bcat2 (And.left ‹_›) hl1; have hz2 := hU2.size; have hp2 := cell_eq hl1; have hq2 := frozen_eq hl1))
                all_goals (go_wp2; go_meet)
                all_goals (have hzB := hlB.size; try simp only [World.size_alloc] at hzB)
                all_goals first
                  | exact ⟨_, _, _, _, rfl, rfl, blk0 _ _, (hk9.sl).alloc _, bAlloc hU2⟩
                  | exact ⟨_, _, _, _, rfl, rfl, ((blk_below (blk0 _ _) hlB).set 0 _).set 1 _, (hk9.set (by simp only [World.size_alloc]; omega)).sl2 (by simp only [World.size_alloc]; omega), bSet (bSet hU2 (by omega)) (by omega)⟩
                  | exact ⟨_, _, _, _, rfl, rfl, ((blk_below (blkd _ _) hlB).set 0 _).set 1 _, (hk9.set (show wr.heap.size < (wr.alloc (.cells #[.int .i64 0, .int .i64 0] 28)).heap.size by simp)).sl2 (show wr.heap.size < (wr.alloc (.cells #[.int .i64 0, .int .i64 0] 28)).heap.size by simp), bSet (bSet hU2 (by omega)) (by omega)⟩
              case rest =>
                obtain ⟨fb, k1, k2, k3, rfl, rfl, hF, hk9, hbn⟩ := hcut
                have hBc := bcat2 hB hbn
                obtain ⟨c0, c1, _, _⟩ := (blk_below HXB.out hBc).two
                obtain ⟨t0, t1, _, _⟩ := hF.two
                have c2 := (Boxed.below HPB.out hBc).cell
                have cd := below_cell hBc HCD.out
                have HM := hide (fun W (h : Below wc.heap.size wc W) => M_ok n (.slice v1 v2 v3) zs a b W hg.tab (hv.below (bcat2 hB9 (bcat2 hBc h))) hlt hbl)
                have HI := hide (fun W (h : Below wc.heap.size wc W) => ints_any (.slice k1 k2 k3) (.slice e1 r2 ecap) d d W (hk9.below h) (HDS.out.below (bcat2 hBc h)))
                rw [show decide (d = d) = true from decide_eq_true rfl] at HI
                have hdi : ((tm n zs a b : Nat) : Int) < (n : Int) := by omega
                generalize tm n zs a b = d9 at *
                have hS : ∀ W, Below wc.heap.size wc W → (Below wc.heap.size wc W ∧ W.cell? ⟨w.heap.size, 0, none⟩ = some (.int .i64 n) ∧ W.cell? ⟨w.heap.size, 1, none⟩ = some (.slice v1 v2 v3) ∧ W.cell? ⟨w3.heap.size, 0, none⟩ = some (.slice (some ⟨pb, po, none⟩) n p3) ∧ W.cell? ⟨fb, 0, none⟩ = some (.int .i64 0) ∧ W.cell? ⟨fb, 1, none⟩ = some (.int .i64 0) ∧ W.cell? ⟨pb, po + d9, none⟩ = some (.slice e1 r2 ecap)) := fun W h => ⟨h, below_cell h c0, below_cell h c1, below_cell h c2, below_cell h t0, below_cell h t1, below_cell h cd⟩
                have hS0 := hS _ (bdrew (Below.refl _ wc))
                clear c0 c1 c2 t0 t1 cd cx cy
                go_wp2_with fail
                go_region_held3 (fun W => Below wc.heap.size wc W ∧ W.cell? ⟨w.heap.size, 0, none⟩ = some (.int .i64 n) ∧ W.cell? ⟨w.heap.size, 1, none⟩ = some (.slice v1 v2 v3) ∧ W.cell? ⟨w3.heap.size, 0, none⟩ = some (.slice (some ⟨pb, po, none⟩) n p3) ∧ W.cell? ⟨fb, 0, none⟩ = some (.int .i64 0) ∧ W.cell? ⟨fb, 1, none⟩ = some (.int .i64 0) ∧ W.cell? ⟨pb, po + d9, none⟩ = some (.slice e1 r2 ecap))
                  (first | exact hS0 | assumption | exact hS _ (bcat2 (And.left ‹_›) hl1))
                  (first
                    | (go_at_call 31; refine (HM.out _ (And.left ‹_›)).mono ?_; rintro e1 U1 ⟨rfl, hl1⟩)
                    | (go_at_call 23; refine (HI.out _ (And.left ‹_›)).mono ?_; rintro e2 U2 ⟨rfl, hl1⟩))
                all_goals (
                  have hB8 := And.left ‹Below wc.heap.size wc U2 ∧ _›
                  go_wp2
                  go_roundw
                  case rel => exact ⟨b + 1, by omega, by go_num, bcat2 hBc hB8⟩
                  case measure => simp [intOf]; omega)
            · have hbi : ¬ (b : Int) < (n : Int) := by omega
              go_wp2
              go_roundw
              case rel => exact ⟨a + 1, by omega, by go_num, hB⟩
              case measure => simp [intOf]; omega
        · have hai : ¬ (a : Int) < (n : Int) := by omega
          go_wp2_with fail
          clear c0 c1
          refine (HCO.out _ (bcat2 hB9 hB)).mono ?_
          rintro x w10 ⟨k1, k2, k3, rfl, hk9, hb10⟩
          have hb11 := bcat2 hb10 (balloc w10 (.cells #[.int .i64 0, .int .i64 0] 28))
          have hF := blk0 (w := w10) (T := 28) (.int .i64 0) (.int .i64 0)
          have hk9 := (hk9.sl).below (balloc w10 (.cells #[.int .i64 0, .int .i64 0] 28))
          have hB11 := bcat2 hB hb11
          have hX11 := blk_below HXB.out hB11
          obtain ⟨c0, c1, _, _⟩ := hX11.two
          obtain ⟨t0, t1, _, _⟩ := hF.two
          go_wp2_with fail
          clear c0 c1 t0 t1
          generalize w10.alloc (.cells #[.int .i64 0, .int .i64 0] 28) = w11 at *
          refine (those_sl (at0 _ (bcat2 hB9 hB11)) (rthose_ok n 80 (.slice v1 v2 v3) #[.pointer (some ⟨w3.heap.size, 0, none⟩), .pointer (some ⟨w8.heap.size, 0, none⟩)] (fun a => decide (actL n zs f a = li (List.range r2))) w11 hn (fun a W => ent80 a _ _ W) (fun W a hW ha => by
            have h9 := cl80_ok a w3.heap.size w8.heap.size r2 (.slice p1 n p3) (.slice r1 r2 r3) (acts n zs f n) (csl n f n) W (at0 _ (bcat2 (bcat2 hB9 hB11) hW)) (Boxed.below HPB.out (bcat2 hB11 hW)) (Boxed.below HRB.out (bcat2 hB11 hW)) (HPL.out.below (bcat2 hB11 hW)) (HRL.out.below (bcat2 hB11 hW)) (by rw [acts_len]; exact ha) HMM.out (by have := HML.out; omega)
            rw [show (acts n zs f n)[a]?.getD [] = actL n zs f a by unfold acts; simp [ha]] at h9
            exact h9))).mono ?_
          rintro x w12 ⟨q1, q2, q3, rfl, hq9, hb12⟩
          go_wp2_with fail
          refine (ints_any (.slice k1 k2 k3) (.slice q1 q2 q3) _ _ w12 (hk9.below hb12) hq9).mono ?_
          rintro x w13 ⟨rfl, hb13⟩
          rw [decide_eq_true HCE.out]
          go_wp2
          go_ret
          exact ⟨rfl, bcat2 (bcat2 (bcat2 hB9 hB11) hb12) hb13⟩
end Go.Proofs.YtoiemlnmcfmakaaDoor

namespace Go.Proofs.YtoiemlnmcfmakaaDoor
open Go Go.RowKit

theorem acts_nil {f : Nat} {args : Array Value} {w : World} {c i : Int} (h0 : 0 < w.heap.size) (h : Calls Tryd.prog f args w fun x w' => x = .returned (.tuple #[.slice none 0 0, .agg #[.int .i64 c, .int .i64 i]]) ∧ Below w.heap.size w w') :
    Calls Tryd.prog f args w fun x w' => ∃ r1 r2 r3, x = .returned (.tuple #[.slice r1 r2 r3, .agg #[.int .i64 c, .int .i64 i]]) ∧ SlL w' (.slice r1 r2 r3) [] ∧ Below w.heap.size w w' := by
  refine h.mono ?_
  rintro x w' ⟨rfl, hb⟩
  exact ⟨none, 0, 0, rfl, ⟨none, 0, 0, 0, rfl, by simp, by simp, Nat.lt_of_lt_of_le h0 hb.size, by simp, by unfold maxLen; omega⟩, hb⟩
theorem acts_law (N : Int) (v u : Value) (zs l : List Int) (w : World) (hv : Sl w v zs) (hu : Sl w u l) (hT : Tab w) (hz : zs.length * 8 ≤ 140737488355328) (hl8 : l.length * 8 ≤ 140737488355328) :
    Calls Tryd.prog 12 #[.agg #[.int .i64 N, v], u] w fun e w' => e = .returned (.bool true) ∧ Below w.heap.size w w' := by
  obtain ⟨v1, v2, v3, rfl⟩ := hv.isSlice
  obtain ⟨u1, u2, u3, rfl⟩ := hu.isSlice
  have at0 : ∀ W : World, Below w.heap.size w W → 0 < W.heap.size := fun W h => Nat.lt_of_lt_of_le hT.lt h.size
  have HU := hide (fun W (h : Below w.heap.size w W) => rsub_any N (.slice v1 v2 v3) (.slice u1 u2 u3) zs l W (hv.below h) (hu.below h))
  by_cases hc : (ufault N zs l).1 = 0
  · obtain ⟨n, e, rfl, hg, hl0, hsb, hu0⟩ := ufault_zero hc
    rw [hu0] at HU
    have hli := set_lst (show (lfault n l).1 = 0 by rw [hl0])
    have hu9 : ∀ W, Below w.heap.size w W → Sl W (.slice u1 u2 u3) (li (lst n (pset l))) := fun W h => by rw [← hli]; exact hu.below h
    have P := rgt_parts hg hsb
    have hn := hg.tab.le
    have hcs : csl n (rgtq n zs (lst n (pset l))) n = rcs n (fun a b => decide (tm n zs b (iv n zs e a) ∈ lst n (pset l))) n := P.csl_rcs fun a b ha hb => (rgt_iff hg ha hb).symm
    have HRO := hide (fun W (h : Below w.heap.size w W) => rof_ok n e (.slice v1 v2 v3) (.slice u1 u2 u3) zs (lst n (pset l)) W hg (hv.below h) (hu9 W h))
    rw [← hcs] at HRO
    refine acts_good n e (csl n (rgtq n zs (lst n (pset l))) n).length (rgtq n zs (lst n (pset l))) v1 v2 v3 u1 u2 u3 zs l (li (lst n (corq n zs e (pset l) n))) w hv hg hu hT hz hl8
      (hide fun W x m h h1 h2 => act_good n e x m zs l W h1 hg h2 (hT.below h) hl0 hsb) HU HRO
      (hide fun W h => ans2 (at0 W h) (core_good n e (.slice v1 v2 v3) (.slice u1 u2 u3) zs l W (hv.below h) hg (hu.below h) (hT.below h) hl0 hsb))
      (hide rfl) (hide (by rw [csl_len]; exact Nat.le_trans (fsts_len _ _ _) hn))
      (hide fun a ha => ⟨actL n zs (rgtq n zs (lst n (pset l))) a, by unfold acts; simp [ha], actL_len _ _ _ _, actL_len _ _ _ _, rfl⟩)
      (hide fun k hk => ?_) (hide fun a ha => act_perm hg hsb ha) (hide fun a b ha hb => act_mul hg hsb ha hb) (hide ?_)
    · rw [csl_len] at hk
      have hck := fst_lt hk
      have hget := fun a => actL_get zs (rgtq n zs (lst n (pset l))) a hk
      have hcsl : (csl n (rgtq n zs (lst n (pset l))) n)[k]? = some (li (lst n (rgtq n zs (lst n (pset l)) (fsts n (rgtq n zs (lst n (pset l))) n)[k]))) := by
        unfold csl
        rw [List.getElem?_map, List.getElem?_eq_getElem hk]
        rfl
      have hm := List.getElem_mem hk
      generalize (fsts n (rgtq n zs (lst n (pset l))) n)[k] = c at *
      rw [P.fsts, List.mem_filter, decide_eq_true_eq] at hm
      cases hlc : lst n (rgtq n zs (lst n (pset l)) c) with
      | nil => rw [hlc] at hm; simp at hm
      | cons x t =>
        rw [hlc] at hm hcsl
        have hx : x = c := by simpa using hm.2
        rw [hx] at hcsl
        refine ⟨c, li t, hck, hcsl, fun a ha => ?_⟩
        rw [hget a, prts_which P (tm_lt hg.tab hck ha)]
    · rw [csl_len, act_core hg hsb]
  · exact acts_bad N v1 v2 v3 u1 u2 u3 zs l w hv hu hT hz hl8 _ _ hc (hide fun W x m h h1 h2 => acts_nil (at0 W h) (act_bad N x m zs l W h1 h2 (hT.below h) hc)) HU
end Go.Proofs.YtoiemlnmcfmakaaDoor
