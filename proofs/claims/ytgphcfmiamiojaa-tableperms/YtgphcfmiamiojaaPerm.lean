/- What package perm's Check and Mul, and the document's fault of a permutation, answer: as they were walked for the laws of permutations. -/
import Derived.Test.YtgphcfmiamiojaaSame
import Derived.Maps.AppendAt
import Derived.Deep.QuietTactic
import Derived.BigQuiet
namespace Go.Proofs.Ytgphcfmiamiojaa.Pm
open Go Go.RowKit

/-- What is wrong with a list at the places from i on, r of them. -/
def pf (zs : List Int) : Nat → Nat → Int × Int
  | 0, _ => (0, 0)
  | r + 1, i => if zs[i]?.getD 0 < 0 ∨ (zs.length : Int) ≤ zs[i]?.getD 0 then (3, (i : Int)) else if zs[i]?.getD 0 ∈ zs.take i then (10, (i : Int)) else pf zs r (i + 1)
/-- What perm.Check answers: the code and the place. -/
def fault (zs : List Int) : Int × Int := if 1000 < zs.length then (2, 0) else pf zs zs.length 0
theorem pf_range {zs : List Int} {r i : Nat} (h : zs[i]?.getD 0 < 0 ∨ (zs.length : Int) ≤ zs[i]?.getD 0) : pf zs (r + 1) i = (3, (i : Int)) := by
  rw [pf, if_pos h]
theorem pf_twice {zs : List Int} {r i : Nat} (h : ¬ (zs[i]?.getD 0 < 0 ∨ (zs.length : Int) ≤ zs[i]?.getD 0)) (h2 : zs[i]?.getD 0 ∈ zs.take i) : pf zs (r + 1) i = (10, (i : Int)) := by
  rw [pf, if_neg h, if_pos h2]
theorem pf_on {zs : List Int} {r i : Nat} (h : ¬ (zs[i]?.getD 0 < 0 ∨ (zs.length : Int) ≤ zs[i]?.getD 0)) (h2 : ¬ zs[i]?.getD 0 ∈ zs.take i) : pf zs (r + 1) i = pf zs r (i + 1) := by
  rw [pf, if_neg h, if_neg h2]
/-- The numbers 0 to n - 1, each once. -/
def IsPerm (zs : List Int) : Prop := (∀ i, i < zs.length → 0 ≤ zs[i]?.getD 0 ∧ zs[i]?.getD 0 < zs.length) ∧ ∀ i j, i < j → j < zs.length → zs[i]?.getD 0 ≠ zs[j]?.getD 0
theorem mem_take {zs : List Int} {i : Nat} (hi : i ≤ zs.length) (x : Int) : x ∈ zs.take i ↔ ∃ j, j < i ∧ zs[j]?.getD 0 = x := by
  rw [List.mem_iff_getElem?]
  constructor
  · rintro ⟨j, hj⟩
    rw [List.getElem?_take] at hj
    split at hj
    · exact ⟨j, by assumption, by rw [hj]; rfl⟩
    · cases hj
  · rintro ⟨j, hj, rfl⟩
    refine ⟨j, ?_⟩
    rw [List.getElem?_take, if_pos hj, List.getElem?_eq_getElem (by omega)]
    simp
theorem pf_perm {zs : List Int} : ∀ (r i : Nat), i + r = zs.length → (pf zs r i).1 = 0 →
    (∀ k, i ≤ k → k < zs.length → 0 ≤ zs[k]?.getD 0 ∧ zs[k]?.getD 0 < zs.length) ∧ ∀ j k, j < k → i ≤ k → k < zs.length → zs[j]?.getD 0 ≠ zs[k]?.getD 0
  | 0, i, h, _ => ⟨fun k h1 h2 => by omega, fun j k h1 h2 h3 => by omega⟩
  | r + 1, i, h, h0 => by
    by_cases a : zs[i]?.getD 0 < 0 ∨ (zs.length : Int) ≤ zs[i]?.getD 0
    · rw [pf_range a] at h0; simp at h0
    · by_cases b : zs[i]?.getD 0 ∈ zs.take i
      · rw [pf_twice a b] at h0; simp at h0
      · rw [pf_on a b] at h0
        obtain ⟨h1, h2⟩ := pf_perm r (i + 1) (by omega) h0
        rw [mem_take (by omega)] at b
        refine ⟨fun k hk hl => ?_, fun j k hj hk hl => ?_⟩
        · by_cases e : k = i
          · subst e; omega
          · exact h1 k (by omega) hl
        · by_cases e : k = i
          · subst e; exact fun e => b ⟨j, hj, e⟩
          · exact h2 j k hj (by omega) hl
theorem fault_perm {zs : List Int} (h : (fault zs).1 = 0) : IsPerm zs ∧ zs.length ≤ 1000 := by
  unfold fault at h
  split at h
  · simp at h
  · obtain ⟨h1, h2⟩ := pf_perm zs.length 0 (by omega) h
    exact ⟨⟨fun i hi => h1 i (by omega) hi, fun i j hij hj => h2 i j hij (by omega) hj⟩, by omega⟩
theorem pf_zero {zs : List Int} : ∀ (r i : Nat), (pf zs r i).1 = 0 → pf zs r i = (0, 0)
  | 0, i, _ => rfl
  | r + 1, i, h0 => by
    by_cases a : zs[i]?.getD 0 < 0 ∨ (zs.length : Int) ≤ zs[i]?.getD 0
    · rw [pf_range a] at h0; simp at h0
    · by_cases b : zs[i]?.getD 0 ∈ zs.take i
      · rw [pf_twice a b] at h0; simp at h0
      · rw [pf_on a b] at h0 ⊢
        exact pf_zero r (i + 1) h0
theorem fault_zero {zs : List Int} (h : (fault zs).1 = 0) : fault zs = (0, 0) := by
  unfold fault at h ⊢
  split at h
  · simp at h
  · rw [if_neg (by omega)]; exact pf_zero _ _ h
theorem pf_of_perm {zs : List Int} (hp : IsPerm zs) : ∀ (r i : Nat), i + r = zs.length → pf zs r i = (0, 0)
  | 0, i, _ => rfl
  | r + 1, i, h => by
    have h1 := hp.1 i (by omega)
    rw [pf_on (by omega) (fun hm => by
      rw [mem_take (by omega)] at hm
      obtain ⟨j, hj, e⟩ := hm
      exact hp.2 j i hj (by omega) e)]
    exact pf_of_perm hp r (i + 1) (by omega)
theorem fault_of_perm {zs : List Int} (hp : IsPerm zs) (hl : zs.length ≤ 1000) : fault zs = (0, 0) := by
  unfold fault; rw [if_neg (by omega)]; exact pf_of_perm hp _ _ (by omega)
/-- Which points are among the first i numbers. -/
def seenUpto (zs : List Int) (i : Nat) : List Bool := (List.range zs.length).map fun (y : Nat) => decide ((y : Int) ∈ zs.take i)
theorem seenUpto_len (zs : List Int) (i : Nat) : (seenUpto zs i).length = zs.length := by simp [seenUpto]
theorem seenUpto_zero (zs : List Int) : seenUpto zs 0 = List.replicate zs.length false := by
  apply List.ext_getElem
  · simp [seenUpto]
  · intro i h1 h2; simp [seenUpto]
theorem seenUpto_get {zs : List Int} {i : Nat} {x : Int} (h0 : 0 ≤ x) (h1 : x < zs.length) : (seenUpto zs i)[x.toNat]?.getD false = decide (x ∈ zs.take i) := by
  have h2 : x.toNat < zs.length := by omega
  simp [seenUpto, h2, Int.toNat_of_nonneg h0]
theorem take_snoc {zs : List Int} {i : Nat} (hi : i < zs.length) : zs.take (i + 1) = zs.take i ++ [zs[i]?.getD 0] := by
  rw [List.take_succ_eq_append_getElem hi]; simp [hi]
theorem seenUpto_succ {zs : List Int} {i : Nat} (hi : i < zs.length) (h0 : 0 ≤ zs[i]?.getD 0) : (seenUpto zs i).set (zs[i]?.getD 0).toNat true = seenUpto zs (i + 1) := by
  apply List.ext_getElem
  · simp [seenUpto]
  · intro y h1 h2
    rw [List.getElem_set]
    split
    · rename_i e
      have : (y : Int) = zs[i]?.getD 0 := by omega
      simp [seenUpto, take_snoc hi, this]
    · rename_i e
      have : (y : Int) ≠ zs[i]?.getD 0 := by omega
      simp [seenUpto, take_snoc hi, this]
/-- Where a point is moved. -/
def nx (zs : List Int) (x : Nat) : Nat := (zs[x]?.getD 0).toNat
theorem nx_lt {zs : List Int} (hp : IsPerm zs) {x : Nat} (hx : x < zs.length) : nx zs x < zs.length ∧ zs[x]?.getD 0 = (nx zs x : Int) := by
  have := hp.1 x hx
  unfold nx; omega
/-- The product. -/
def mulL (xs ys : List Int) : List Int := xs.map fun x => ys[x.toNat]?.getD 0
theorem mulL_len (xs ys : List Int) : (mulL xs ys).length = xs.length := by simp [mulL]
theorem mulL_get {xs : List Int} (ys : List Int) {i : Nat} (hi : i < xs.length) : (mulL xs ys)[i]?.getD 0 = ys[(xs[i]?.getD 0).toNat]?.getD 0 := by
  simp [mulL, hi]
/-- A list that is filled place by place. -/
def fillTo (L : List Int) (k : Nat) : List Int := L.take k ++ List.replicate (L.length - k) 0
theorem fillTo_zero (L : List Int) : fillTo L 0 = List.replicate L.length 0 := by simp [fillTo]
theorem fillTo_all (L : List Int) : fillTo L L.length = L := by simp [fillTo]
theorem fillTo_len {L : List Int} {k : Nat} (hk : k ≤ L.length) : (fillTo L k).length = L.length := by simp [fillTo]; omega
theorem fillTo_set {L : List Int} {k : Nat} (hk : k < L.length) : (fillTo L k).set k (L[k]?.getD 0) = fillTo L (k + 1) := by
  apply List.ext_getElem
  · rw [List.length_set, fillTo_len (by omega), fillTo_len (by omega)]
  · intro j h1 h2
    rw [List.length_set, fillTo_len (by omega)] at h1
    rw [List.getElem_set]
    simp only [fillTo, List.getElem_append, List.length_take]
    split
    · rename_i e
      subst e
      rw [dif_pos (by omega)]
      simp [hk]
    · rename_i e
      by_cases hj : j < k
      · rw [dif_pos (by omega), dif_pos (by omega)]; simp
      · rw [dif_neg (by omega), dif_neg (by omega)]; simp
theorem info4 : (Try.prog.info? 4).map (fun i => (i.zero, i.size, i.bytes)) = some (some (.bool false), 1, 1) := by kernel_rfl
theorem under66 : Try.prog.underlying 65 = some (.slice 4) := by kernel_rfl
set_option maxRecDepth 100000 in
set_option maxHeartbeats 1000000 in
theorem check_any (a : Option Addr) (cap pb po : Nat) (zs : List Int) (w : World) (hr : Reads w a pb po zs) (hp : pb < w.heap.size) (hl : zs.length ≤ maxLen) :
    Calls Try.prog 31 #[.slice a zs.length cap] w fun e w' => e = .returned (.agg #[.int .i64 (fault zs).1, .int .i64 (fault zs).2]) ∧ Below w.heap.size w w' := by
  unfold maxLen at hl
  obtain ⟨i0, hi, hz0, hz1, hz2⟩ := info_parts info4
  by_cases hbig : 1000 < zs.length
  · have hb1 : (1000 : Int) < (zs.length : Int) := by omega
    have hf : fault zs = (2, 0) := by unfold fault; rw [if_pos hbig]
    go_enter Try.func31, Try.ntmps31
    go_wp2
    exact bodyPost_ret (v := .agg #[.int .i64 2, .int .i64 0]) (by simp [results, Try.results31, go_sem]) rfl ⟨by rw [hf], (Below.refl _ _).alloc (Nat.le_refl _) _⟩
  · have hb1 : (zs.length : Int) ≤ 1000 := by omega
    have hf : fault zs = pf zs zs.length 0 := by unfold fault; rw [if_neg hbig]
    go_enter Try.func31, Try.ntmps31
    go_wp2_with (first
      | (at_make; refine wpList_make_full _ rfl _ _ 65 rfl (w.heap.size + 1) 4 i0 (.bool false) 1 under66 hi hz0 hz1 _ _ _ _ zs.length rfl rfl rfl rfl (by rw [hz2]; omega) (by unfold maxLen; omega) (by simp) ?_))
    intro w1 hown hg
    have hS : Blk w1 (w.heap.size + 1) 4 ((seenUpto zs 0).map Value.bool) := by
      have := Blk.of_owns hown
      rw [made_rep] at this
      rw [seenUpto_zero, List.map_replicate]; exact this
    have hR : Blk w1 w.heap.size 29 [.int .i64 0, .int .i64 0] := by
      refine (hg.block w.heap.size (by simp) (by simp)).trans ?_
      exact World.alloc_heap_new w _
    have hB : Below w.heap.size w w1 := ((Below.refl _ w).alloc (Nat.le_refl _) _).grown hg (by simp) (by simp)
    clear hown hg
    go_wp2
    go_loopw [15] (fun i wr => ∃ k : Nat, k ≤ zs.length ∧ i = .int .i64 k ∧ Blk wr (w.heap.size + 1) 4 ((seenUpto zs k).map Value.bool) ∧ Blk wr w.heap.size 29 [.int .i64 0, .int .i64 0] ∧ Below w.heap.size w wr ∧ pf zs (zs.length - k) k = pf zs zs.length 0)
      (fun i _ => zs.length - (intOf i).toNat)
    case atStart => exact ⟨0, Nat.zero_le _, rfl, hS, hR, hB, rfl⟩
    case round =>
      obtain ⟨k, hk, rfl, hS1, hR1, hB1, hpf⟩ := hrel
      have HP : Hid (pf zs (zs.length - k) k = pf zs zs.length 0) := hpf
      have HF : Hid (fault zs = pf zs zs.length 0) := hf
      clear hpf hf hS hR hB
      have hsl := seenUpto_len zs k
      have hR0 : wr.cell? ⟨w.heap.size, 0, none⟩ = some (.int .i64 0) := hR1.cell 0
      have hRa : wr.cell? ⟨w.heap.size, 1, none⟩ = some (.int .i64 0) := hR1.cell 1
      have hF0 := hR1.frozen 0
      have hF1 := hR1.frozen 1
      by_cases hlt : k < zs.length
      · obtain rfl := hr.at_ (by omega)
        have hx : wr.cell? ⟨pb, po + k, none⟩ = some (.int .i64 (zs[k]?.getD 0)) := (hB1.cell (p := ⟨pb, po + k, none⟩) hp).trans (hr.cell k hlt)
        generalize hxe : zs[k]?.getD 0 = x at hx
        have HX : Hid (zs[k]?.getD 0 = x) := hxe
        clear hxe
        have hn : zs.length - k = (zs.length - (k + 1)) + 1 := by omega
        have HN : Hid (zs.length - k = (zs.length - (k + 1)) + 1) := hn
        clear hn
        by_cases h1 : x < 0
        · have hfin : fault zs = (3, (k : Int)) := by
            rw [HF.out, ← HP.out, HN.out, pf_range (by rw [HX.out]; exact .inl h1)]
          have HFIN : Hid (fault zs = (3, (k : Int))) := hfin
          clear hfin
          go_wp2
          refine bodyPost_ret (v := .agg #[.int .i64 3, .int .i64 k]) (by simp [results, Try.results31, go_sem, hR0, hRa]) rfl ⟨by rw [HFIN.out], ?_⟩
          exact (hB1.setCell (p := ⟨w.heap.size, 0, none⟩) (Nat.le_refl _) _).setCell (p := ⟨w.heap.size, 1, none⟩) (Nat.le_refl _) _
        · by_cases h2 : (zs.length : Int) ≤ x
          · have hfin : fault zs = (3, (k : Int)) := by
              rw [HF.out, ← HP.out, HN.out, pf_range (by rw [HX.out]; exact .inr h2)]
            have HFIN : Hid (fault zs = (3, (k : Int))) := hfin
            clear hfin
            go_wp2
            refine bodyPost_ret (v := .agg #[.int .i64 3, .int .i64 k]) (by simp [results, Try.results31, go_sem, hR0, hRa]) rfl ⟨by rw [HFIN.out], ?_⟩
            exact (hB1.setCell (p := ⟨w.heap.size, 0, none⟩) (Nat.le_refl _) _).setCell (p := ⟨w.heap.size, 1, none⟩) (Nat.le_refl _) _
          · have hin : ¬ (zs[k]?.getD 0 < 0 ∨ (zs.length : Int) ≤ zs[k]?.getD 0) := by rw [HX.out]; omega
            have HIN := hide hin
            clear hin
            obtain ⟨y, rfl⟩ := Int.eq_ofNat_of_zero_le (show 0 ≤ x by omega)
            have hs := hS1.bool (y := y) (by rw [hsl]; omega)
            have hsf := hS1.frozen y
            have hsg : (seenUpto zs k)[y]?.getD false = decide ((y : Int) ∈ zs.take k) := by
              have := seenUpto_get (zs := zs) (i := k) (x := (y : Int)) (by omega) (by omega)
              rwa [Int.toNat_natCast] at this
            by_cases h3 : (y : Int) ∈ zs.take k
            · rw [hsg, decide_eq_true h3] at hs
              have hfin : fault zs = (10, (k : Int)) := by
                rw [HF.out, ← HP.out, HN.out, pf_twice (unhide HIN) (by rw [HX.out]; exact h3)]
              have HFIN : Hid (fault zs = (10, (k : Int))) := hfin
              clear hfin hsg h3
              go_wp2
              refine bodyPost_ret (v := .agg #[.int .i64 10, .int .i64 k]) (by simp [results, Try.results31, go_sem, hR0, hRa]) rfl ⟨by rw [HFIN.out], ?_⟩
              exact (hB1.setCell (p := ⟨w.heap.size, 0, none⟩) (Nat.le_refl _) _).setCell (p := ⟨w.heap.size, 1, none⟩) (Nat.le_refl _) _
            · rw [hsg, decide_eq_false h3] at hs
              have hon : pf zs (zs.length - (k + 1)) (k + 1) = pf zs zs.length 0 := by
                rw [← HP.out, HN.out, pf_on (unhide HIN) (by rw [HX.out]; exact h3)]
              have HON : Hid (pf zs (zs.length - (k + 1)) (k + 1) = pf zs zs.length 0) := hon
              have hS2 := hS1.setBool y true
              rw [show (seenUpto zs k).set y true = seenUpto zs (k + 1) by
                have := seenUpto_succ hlt (by rw [HX.out]; omega)
                rwa [HX.out, Int.toNat_natCast] at this] at hS2
              have hR2 := hR1.other (p := ⟨w.heap.size + 1, y, none⟩) (by simp) (.bool true)
              clear hon hsg h3
              go_wp2
              go_roundw
              case rel => exact ⟨k + 1, by omega, by go_num, hS2, hR2, hB1.setCell (p := ⟨w.heap.size + 1, y, none⟩) (by simp) _, HON.out⟩
              case measure => simp [intOf]; omega
      · have hfin : fault zs = (0, 0) := by
          rw [HF.out, ← HP.out, show zs.length - k = 0 by omega]; rfl
        have HFIN : Hid (fault zs = (0, 0)) := hfin
        clear hfin
        go_wp2
        refine bodyPost_ret (v := .agg #[.int .i64 0, .int .i64 0]) (by simp [results, Try.results31, go_sem, hR0, hRa]) rfl ⟨by rw [HFIN.out], ?_⟩
        exact (hB1.setCell (p := ⟨w.heap.size, 0, none⟩) (Nat.le_refl _) _).setCell (p := ⟨w.heap.size, 1, none⟩) (Nat.le_refl _) _
set_option maxRecDepth 100000 in
set_option maxHeartbeats 1000000 in
theorem has_any (a : Option Addr) (cap pb po n : Nat) (xs : List Int) (x : Int) (w : World) (hn : n = xs.length) (hr : Reads w a pb po xs) (hl : xs.length ≤ maxLen) :
    Calls Try.prog 23 #[.slice a n cap, .int .i64 x] w fun e w' => e = .returned (.bool (decide (x ∈ xs))) ∧ w' = w := by
  subst hn
  unfold maxLen at hl
  go_enter Try.func23, Try.ntmps23
  go_wp2
  go_loop [5] (fun i => ∃ k : Nat, k ≤ xs.length ∧ i = .int .i64 k ∧ ∀ j, j < k → xs[j]?.getD 0 ≠ x) (fun i => xs.length - (intOf i).toNat)
  case atStart => exact ⟨0, Nat.zero_le _, rfl, fun j hj => by omega⟩
  case round =>
    obtain ⟨k, hk, rfl, hno⟩ := hrel
    have HN := hide hno
    clear hno
    by_cases hlt : k < xs.length
    · have hc := hr.cell k hlt
      obtain rfl := hr.at_ (by omega)
      generalize hye : xs[k]?.getD 0 = y at hc
      have HY := hide hye
      clear hye
      by_cases hyx : y = x
      · have hm : decide (x ∈ xs) = true := by
          rw [decide_eq_true_eq, List.mem_iff_getElem?]
          refine ⟨k, ?_⟩
          have := HY.out
          rw [List.getElem?_eq_getElem hlt] at this ⊢
          simp at this
          rw [this, hyx]
        have HM := hide hm
        have hb : (y == x) = true := by simp [hyx]
        have HE := hide hyx
        clear hm hyx
        go_wp2
        go_ret
        exact ⟨by rw [HM.out]; rfl, rfl⟩
      · have hb : (y == x) = false := by simp [hyx]
        have HE := hide hyx
        clear hyx
        go_wp2
        go_round
        case rel => exact ⟨k + 1, by omega, by go_num, fun j hj => by
          by_cases e : j = k
          · rw [e, HY.out]; exact HE.out
          · exact HN.out j (by omega)⟩
        case measure => simp [intOf]; omega
    · have hm : decide (x ∈ xs) = false := by
        rw [decide_eq_false_iff_not, List.mem_iff_getElem?]
        rintro ⟨j, hj⟩
        have hjl : j < xs.length := (List.getElem?_eq_some_iff.1 hj).1
        exact HN.out j (by omega) (by rw [hj]; rfl)
      have HM := hide hm
      clear hm
      go_wp2
      go_ret
      exact ⟨by rw [HM.out]; rfl, rfl⟩
set_option maxRecDepth 100000 in
set_option maxHeartbeats 2000000 in
theorem permFault_any (v : Value) (zs : List Int) (w : World) (hv : Sl w v zs) :
    Calls Try.prog 8 #[v] w fun e w' => e = .returned (.agg #[.int .i64 (fault zs).1, .int .i64 (fault zs).2]) ∧ Below w.heap.size w w' := by
  obtain ⟨a, cap, pb, po, rfl, hr, hp, hcap, hcm⟩ := hv
  unfold maxLen at hcm
  have hB0 : Below w.heap.size w (w.alloc (.cells #[.int .i64 0, .int .i64 0] 29)) := (Below.refl _ w).alloc (Nat.le_refl _) _
  by_cases hbig : 1000 < zs.length
  · have hb1 : (1000 : Int) < (zs.length : Int) := by omega
    have hf : fault zs = (2, 0) := by unfold fault; rw [if_pos hbig]
    go_enter Try.func8, Try.ntmps8
    go_wp2_with fail
    refine (f_any 2 0 _).mono ?_
    rintro e w1 ⟨rfl, hl1⟩
    have hR : Blk w1 w.heap.size 29 [.int .i64 0, .int .i64 0] := (hl1.block w.heap.size (by simp)).trans (World.alloc_heap_new w _)
    have hc0 : w1.cell? ⟨w.heap.size, 0, none⟩ = some (.int .i64 0) := hR.cell 0
    have hc1 : w1.cell? ⟨w.heap.size, 1, none⟩ = some (.int .i64 0) := hR.cell 1
    have hf0 := hR.frozen 0
    have hf1 := hR.frozen 1
    go_wp2
    refine bodyPost_ret (v := .agg #[.int .i64 2, .int .i64 0]) (by simp [results, Try.results8, go_sem, hc0, hc1]) rfl ⟨by rw [hf], ?_⟩
    exact ((hB0.trans (hl1.mono (by simp))).setCell (p := ⟨w.heap.size, 0, none⟩) (Nat.le_refl _) _).setCell (p := ⟨w.heap.size, 1, none⟩) (Nat.le_refl _) _
  · have hb1 : (zs.length : Int) ≤ 1000 := by omega
    have hf : fault zs = pf zs zs.length 0 := by unfold fault; rw [if_neg hbig]
    have hR0 : Blk (w.alloc (.cells #[.int .i64 0, .int .i64 0] 29)) w.heap.size 29 [.int .i64 0, .int .i64 0] := World.alloc_heap_new w _
    go_enter Try.func8, Try.ntmps8
    go_wp2_with fail
    go_loopw [3] (fun i wr => ∃ k : Nat, k ≤ zs.length ∧ i = .int .i64 k ∧ Blk wr w.heap.size 29 [.int .i64 0, .int .i64 0] ∧ Below w.heap.size w wr ∧ pf zs (zs.length - k) k = pf zs zs.length 0)
      (fun i _ => zs.length - (intOf i).toNat)
    case atStart => exact ⟨0, Nat.zero_le _, rfl, hR0, hB0, rfl⟩
    case round =>
      obtain ⟨k, hk, rfl, hR1, hB1, hpf⟩ := hrel
      have HP := hide hpf
      have HF := hide hf
      clear hpf hf hR0 hB0
      have hc0 : wr.cell? ⟨w.heap.size, 0, none⟩ = some (.int .i64 0) := hR1.cell 0
      have hc1 : wr.cell? ⟨w.heap.size, 1, none⟩ = some (.int .i64 0) := hR1.cell 1
      have hf0 := hR1.frozen 0
      have hf1 := hR1.frozen 1
      by_cases hlt : k < zs.length
      · obtain rfl := hr.at_ (by omega)
        have hrr := hr.below hB1 hp
        have hx := hrr.cell k hlt
        generalize hxe : zs[k]?.getD 0 = x at hx
        have HX := hide hxe
        clear hxe
        have HN : Hid (zs.length - k = (zs.length - (k + 1)) + 1) := by unfold Hid; omega
        have hfin : ∀ (c : Int) (w1 : World), Below wr.heap.size wr w1 → Blk w1 w.heap.size 29 [.int .i64 0, .int .i64 0] := fun c w1 h => hR1.of_eq (h.block _ hR1.lt)
        have HFI := hide hfin
        clear hfin
        by_cases hrange : x < 0 ∨ (zs.length : Int) ≤ x
        · have hfl : fault zs = (3, (k : Int)) := by
            rw [HF.out, ← HP.out, HN.out, pf_range (by rw [HX.out]; exact hrange)]
          have HFL := hide hfl
          clear hfl
          rcases hrange with hneg | hbigx
          all_goals
            go_wp2_with fail
            refine (f_any 3 (k : Int) _).mono ?_
            rintro e w1 ⟨rfl, hl1⟩
            have hR := HFI.out 0 w1 hl1
            have hd0 : w1.cell? ⟨w.heap.size, 0, none⟩ = some (.int .i64 0) := hR.cell 0
            have hd1 : w1.cell? ⟨w.heap.size, 1, none⟩ = some (.int .i64 0) := hR.cell 1
            have hg0 := hR.frozen 0
            have hg1 := hR.frozen 1
            go_wp2
            refine bodyPost_ret (v := .agg #[.int .i64 3, .int .i64 k]) (by simp [results, Try.results8, go_sem, hd0, hd1]) rfl ⟨by rw [HFL.out], ?_⟩
            exact ((bcat hB1 hl1 hB1.size).setCell (p := ⟨w.heap.size, 0, none⟩) (Nat.le_refl _) _).setCell (p := ⟨w.heap.size, 1, none⟩) (Nat.le_refl _) _
        · have h1 : 0 ≤ x := by omega
          have h2 : x < (zs.length : Int) := by omega
          have HR := hide hrange
          clear hrange
          have hrt : Reads wr (some ⟨pb, po, none⟩) pb po (zs.take k) := ⟨fun _ => rfl, fun j hj => by
            rw [List.length_take] at hj
            rw [hrr.cell j (by omega), List.getElem?_take, if_pos (by omega)]⟩
          have htl : k = (zs.take k).length := by rw [List.length_take]; omega
          have HTL := hide htl
          have h52 : ∀ W, W.heap = wr.heap → Calls Try.prog 23 #[.slice (some ⟨pb, po, none⟩) k cap, .int .i64 x] W fun e w' => e = .returned (.bool (decide (x ∈ zs.take k))) ∧ w' = W := fun W hW =>
            has_any _ cap pb po k (zs.take k) x W HTL.out (hrt.of_eq (by rw [hW])) (by rw [← HTL.out]; unfold maxLen; omega)
          generalize hbb : decide (x ∈ zs.take k) = b at h52
          have H52 := hide h52
          clear htl h52 hrt
          have hki : (k : Int) < (zs.length : Int) := by omega
          cases b with
          | true =>
            have h3 : x ∈ zs.take k := of_decide_eq_true hbb
            have hfl : fault zs = (10, (k : Int)) := by
              rw [HF.out, ← HP.out, HN.out, pf_twice (by rw [HX.out]; exact HR.out) (by rw [HX.out]; exact h3)]
            have HFL := hide hfl
            clear hfl h3 hbb
            go_wp2
            go_quiet ((go_at_call 23; exact Calls.quiet_of_same (H52.out _ rfl)))
            go_wp2_with fail
            refine (f_any 10 (k : Int) _).mono ?_
            rintro e w1 ⟨rfl, hl1⟩
            have hR : Blk w1 w.heap.size 29 [.int .i64 0, .int .i64 0] := hR1.of_eq (hl1.block _ hR1.lt)
            have hd0 : w1.cell? ⟨w.heap.size, 0, none⟩ = some (.int .i64 0) := hR.cell 0
            have hd1 : w1.cell? ⟨w.heap.size, 1, none⟩ = some (.int .i64 0) := hR.cell 1
            have hg0 := hR.frozen 0
            have hg1 := hR.frozen 1
            go_wp2
            refine bodyPost_ret (v := .agg #[.int .i64 10, .int .i64 k]) (by simp [results, Try.results8, go_sem, hd0, hd1]) rfl ⟨by rw [HFL.out], ?_⟩
            exact ((bcat (bdrewN hB1 _) hl1 hB1.size).setCell (p := ⟨w.heap.size, 0, none⟩) (Nat.le_refl _) _).setCell (p := ⟨w.heap.size, 1, none⟩) (Nat.le_refl _) _
          | false =>
            have h3 : ¬ x ∈ zs.take k := of_decide_eq_false hbb
            have hon : pf zs (zs.length - (k + 1)) (k + 1) = pf zs zs.length 0 := by
              rw [← HP.out, HN.out, pf_on (by rw [HX.out]; exact HR.out) (by rw [HX.out]; exact h3)]
            have HON := hide hon
            clear hon h3 hbb
            go_wp2
            go_quiet ((go_at_call 23; exact Calls.quiet_of_same (H52.out _ rfl)))
            go_wp2
            go_roundw
            case rel => exact ⟨k + 1, by omega, by go_num, hR1, bdrewN hB1 _, HON.out⟩
            case measure => simp [intOf]; omega
      · have hfl : fault zs = (0, 0) := by
          rw [HF.out, ← HP.out, show zs.length - k = 0 by omega]; rfl
        have HFL := hide hfl
        clear hfl
        go_wp2
        refine bodyPost_ret (v := .agg #[.int .i64 0, .int .i64 0]) (by simp [results, Try.results8, go_sem, hc0, hc1]) rfl ⟨by rw [HFL.out], ?_⟩
        exact (hB1.setCell (p := ⟨w.heap.size, 0, none⟩) (Nat.le_refl _) _).setCell (p := ⟨w.heap.size, 1, none⟩) (Nat.le_refl _) _
/-- What is told of two lists that are to go together. -/
def twof (xs ys : List Int) : Int × Int := if (fault xs).1 ≠ 0 then fault xs else if (fault ys).1 ≠ 0 then fault ys else if xs.length ≠ ys.length then (8, 0) else (0, 0)
theorem check_sl (v : Value) (zs : List Int) (w : World) (hv : Sl w v zs) :
    Calls Try.prog 31 #[v] w fun e w' => e = .returned (.agg #[.int .i64 (fault zs).1, .int .i64 (fault zs).2]) ∧ Below w.heap.size w w' := by
  obtain ⟨a, cap, pb, po, rfl, hr, hp, h1, h2⟩ := hv
  exact check_any a cap pb po zs w hr hp (Nat.le_trans h1 h2)
set_option maxRecDepth 100000 in
set_option maxHeartbeats 2000000 in
theorem checkPair_any (u v : Value) (xs ys : List Int) (w : World) (hu : Sl w u xs) (hv : Sl w v ys) :
    Calls Try.prog 51 #[u, v] w fun e w' => e = .returned (.agg #[.int .i64 (twof xs ys).1, .int .i64 (twof xs ys).2]) ∧ Below w.heap.size w w' := by
  have hB0 : Below w.heap.size w (w.alloc (.cells #[.int .i64 0, .int .i64 0] 29)) := (Below.refl _ w).alloc (Nat.le_refl _) _
  have hu0 := hu.below hB0
  have hv0 := hv.below hB0
  have hR0 := blk0 (w := w) (T := 29) (.int .i64 0) (.int .i64 0)
  obtain ⟨a, cap, pb1, po1, rfl, hq2, hq22, hq3, hq4⟩ := hu
  obtain ⟨b, cap', pb2, po2, rfl, hq6, hq66, hq7, hq8⟩ := hv
  clear hq2 hq6
  unfold maxLen at hq4 hq8
  go_enter Try.func51, Try.ntmps51
  go_wp2_with fail
  refine (check_sl _ xs _ hu0).mono ?_
  rintro e w1 ⟨rfl, hl1⟩
  have hv1 := hv0.below hl1
  have hB1 := bcat hB0 hl1 (by simp)
  have hR1 : Blk w1 w.heap.size 29 [.int .i64 0, .int .i64 0] := hR0.of_eq (hl1.block _ (by simp))
  have hs1 : w.heap.size < w1.heap.size := hR1.lt
  clear hl1 hu0 hv0 hR0 hB0
  obtain ⟨hc0, hc1, hf0, hf1⟩ := hR1.two
  by_cases h1 : (fault xs).1 = 0
  · have e1 := fault_zero h1
    rw [e1]
    go_wp2_with fail
    have hB2 : Below w1.heap.size w1 (w1.alloc (.cells #[.int .i64 0, .int .i64 0] 29)) := (Below.refl _ w1).alloc (Nat.le_refl _) _
    refine (check_sl _ ys _ (hv1.below hB2)).mono ?_
    rintro e w2 ⟨rfl, hl2⟩
    have hB3 := bcat (bcat hB1 hB2 hB1.size) hl2 (by simp; omega)
    have hR2 : Blk w2 w.heap.size 29 [.int .i64 0, .int .i64 0] := (hR1.alloc _).of_eq (hl2.block _ (by simp; omega))
    obtain ⟨hd0, hd1, hg0, hg1⟩ := hR2.two
    have hlt2 := hR2.lt
    clear hl2 hB2 hc0 hc1 hf0 hf1
    by_cases h2 : (fault ys).1 = 0
    · have e2 := fault_zero h2
      rw [e2]
      by_cases h3 : xs.length = ys.length
      · have ef : twof xs ys = (0, 0) := by unfold twof; rw [if_neg (by simp [h1]), if_neg (by simp [h2]), if_neg (by simp [h3])]
        have EF := hide ef
        have hbe : ((xs.length : Int) != (ys.length : Int)) = false := by simp [h3]
        clear ef h3 h2 h1 e1 e2
        go_wp2
        have hW : Blk (((w2.setCell ⟨w.heap.size, 0, none⟩ (.int .i64 0)).setCell ⟨w.heap.size, 1, none⟩ (.int .i64 0)).alloc (.cells #[.int .i64 0, .int .i64 0] 29)) w.heap.size 29 [.int .i64 0, .int .i64 0] := ((hR2.set 0 _).set 1 _).alloc _
        have hBW : Below w.heap.size w (((w2.setCell ⟨w.heap.size, 0, none⟩ (.int .i64 0)).setCell ⟨w.heap.size, 1, none⟩ (.int .i64 0)).alloc (.cells #[.int .i64 0, .int .i64 0] 29)) := ((hB3.setCell (p := ⟨w.heap.size, 0, none⟩) (by simp) _).setCell (p := ⟨w.heap.size, 1, none⟩) (by simp) _).alloc (by simp; omega) _
        generalize ((w2.setCell ⟨w.heap.size, 0, none⟩ (.int .i64 0)).setCell ⟨w.heap.size, 1, none⟩ (.int .i64 0)).alloc (.cells #[.int .i64 0, .int .i64 0] 29) = W at hW hBW ⊢
        obtain ⟨h0, h1, _, _⟩ := hW.two
        exact bodyPost_ret (v := .agg #[.int .i64 0, .int .i64 0]) (by simp [results, Try.results51, go_sem, h0, h1]) rfl ⟨by rw [EF.out], hBW⟩
      · have ef : twof xs ys = (8, 0) := by unfold twof; rw [if_neg (by simp [h1]), if_neg (by simp [h2]), if_pos h3]
        have EF := hide ef
        have hbe : ((xs.length : Int) != (ys.length : Int)) = true := by simp; omega
        clear ef h3 h2 h1 e1 e2
        go_wp2
        have hW : Blk (((w2.setCell ⟨w.heap.size, 0, none⟩ (.int .i64 8)).setCell ⟨w.heap.size, 1, none⟩ (.int .i64 0)).alloc (.cells #[.int .i64 0, .int .i64 0] 29)) w.heap.size 29 [.int .i64 8, .int .i64 0] := ((hR2.set 0 _).set 1 _).alloc _
        have hBW : Below w.heap.size w (((w2.setCell ⟨w.heap.size, 0, none⟩ (.int .i64 8)).setCell ⟨w.heap.size, 1, none⟩ (.int .i64 0)).alloc (.cells #[.int .i64 0, .int .i64 0] 29)) := ((hB3.setCell (p := ⟨w.heap.size, 0, none⟩) (by simp) _).setCell (p := ⟨w.heap.size, 1, none⟩) (by simp) _).alloc (by simp; omega) _
        generalize ((w2.setCell ⟨w.heap.size, 0, none⟩ (.int .i64 8)).setCell ⟨w.heap.size, 1, none⟩ (.int .i64 0)).alloc (.cells #[.int .i64 0, .int .i64 0] 29) = W at hW hBW ⊢
        obtain ⟨h0, h1, _, _⟩ := hW.two
        exact bodyPost_ret (v := .agg #[.int .i64 8, .int .i64 0]) (by simp [results, Try.results51, go_sem, h0, h1]) rfl ⟨by rw [EF.out], hBW⟩
    · have ef : twof xs ys = fault ys := by unfold twof; rw [if_neg (by simp [h1]), if_pos h2]
      obtain ⟨c, i, hci⟩ : ∃ c i, fault ys = (c, i) := ⟨_, _, rfl⟩
      rw [hci] at ef h2 ⊢
      have EF := hide ef
      have hbe : (c != 0) = true := by simpa using h2
      clear ef h2 h1 e1 hci
      go_wp2
      have hW : Blk (((w2.setCell ⟨w.heap.size, 0, none⟩ (.int .i64 c)).setCell ⟨w.heap.size, 1, none⟩ (.int .i64 i)).alloc (.cells #[.int .i64 c, .int .i64 i] 29)) w.heap.size 29 [.int .i64 c, .int .i64 i] := ((hR2.set 0 _).set 1 _).alloc _
      have hBW : Below w.heap.size w (((w2.setCell ⟨w.heap.size, 0, none⟩ (.int .i64 c)).setCell ⟨w.heap.size, 1, none⟩ (.int .i64 i)).alloc (.cells #[.int .i64 c, .int .i64 i] 29)) := ((hB3.setCell (p := ⟨w.heap.size, 0, none⟩) (by simp) _).setCell (p := ⟨w.heap.size, 1, none⟩) (by simp) _).alloc (by simp; omega) _
      generalize ((w2.setCell ⟨w.heap.size, 0, none⟩ (.int .i64 c)).setCell ⟨w.heap.size, 1, none⟩ (.int .i64 i)).alloc (.cells #[.int .i64 c, .int .i64 i] 29) = W at hW hBW ⊢
      obtain ⟨h0, h1, _, _⟩ := hW.two
      exact bodyPost_ret (v := .agg #[.int .i64 c, .int .i64 i]) (by simp [results, Try.results51, go_sem, h0, h1]) rfl ⟨by rw [EF.out], hBW⟩
  · have ef : twof xs ys = fault xs := by unfold twof; rw [if_pos h1]
    obtain ⟨c, i, hci⟩ : ∃ c i, fault xs = (c, i) := ⟨_, _, rfl⟩
    rw [hci] at ef h1 ⊢
    have EF := hide ef
    have hbe : (c != 0) = true := by simpa using h1
    clear ef h1 hci
    go_wp2
    have hW : Blk (((w1.setCell ⟨w.heap.size, 0, none⟩ (.int .i64 c)).setCell ⟨w.heap.size, 1, none⟩ (.int .i64 i)).alloc (.cells #[.int .i64 c, .int .i64 i] 29)) w.heap.size 29 [.int .i64 c, .int .i64 i] := ((hR1.set 0 _).set 1 _).alloc _
    have hBW : Below w.heap.size w (((w1.setCell ⟨w.heap.size, 0, none⟩ (.int .i64 c)).setCell ⟨w.heap.size, 1, none⟩ (.int .i64 i)).alloc (.cells #[.int .i64 c, .int .i64 i] 29)) := ((hB1.setCell (p := ⟨w.heap.size, 0, none⟩) (by simp) _).setCell (p := ⟨w.heap.size, 1, none⟩) (by simp) _).alloc (by simp; omega) _
    generalize ((w1.setCell ⟨w.heap.size, 0, none⟩ (.int .i64 c)).setCell ⟨w.heap.size, 1, none⟩ (.int .i64 i)).alloc (.cells #[.int .i64 c, .int .i64 i] 29) = W at hW hBW ⊢
    obtain ⟨h0, h1, _, _⟩ := hW.two
    exact bodyPost_ret (v := .agg #[.int .i64 c, .int .i64 i]) (by simp [results, Try.results51, go_sem, h0, h1]) rfl ⟨by rw [EF.out], hBW⟩
theorem twof_ok {xs ys : List Int} (hx : IsPerm xs) (hy : IsPerm ys) (hl : xs.length = ys.length) (h1 : xs.length ≤ 1000) : twof xs ys = (0, 0) := by
  unfold twof
  rw [fault_of_perm hx h1, fault_of_perm hy (by omega)]
  simp [hl]
set_option maxRecDepth 100000 in
set_option maxHeartbeats 2000000 in
theorem mul_ok (u v : Value) (xs ys : List Int) (w : World) (hu : Sl w u xs) (hv : Sl w v ys) (hx : IsPerm xs) (hy : IsPerm ys) (hl : xs.length = ys.length) (h1000 : xs.length ≤ 1000) :
    Calls Try.prog 37 #[u, v] w fun e w' => ∃ r, e = .returned (.tuple #[r, .agg #[.int .i64 0, .int .i64 0]]) ∧ Sl w' r (mulL xs ys) ∧ Below w.heap.size w w' := by
  obtain ⟨i0, hi, hz0, hz1, hz2⟩ := info_parts info3b
  have hB0 : Below w.heap.size w (w.alloc (.cells #[.int .i64 0, .int .i64 0] 29)) := (Below.refl _ w).alloc (Nat.le_refl _) _
  have hu0 := hu.below hB0
  have hv0 := hv.below hB0
  have hR0 := blk0 (w := w) (T := 29) (.int .i64 0) (.int .i64 0)
  obtain ⟨a, cap, pb, po, rfl, hr, hp, hq3, hq4⟩ := hu
  obtain ⟨b, cap', qb, qo, rfl, hs, hq, hq7, hq8⟩ := hv
  have htw := twof_ok hx hy hl h1000
  have HL := hide hl
  have hle1 : xs.length ≤ ys.length := by omega
  have hle2 : ys.length ≤ xs.length := by omega
  clear hl
  go_enter Try.func37, Try.ntmps37
  go_wp2_with fail
  refine (checkPair_any _ _ xs ys _ hu0 hv0).mono ?_
  rintro e w1 ⟨rfl, hl1⟩
  rw [htw]
  have hB1 := bcat hB0 hl1 (by simp)
  have hR1 : Blk w1 w.heap.size 29 [.int .i64 0, .int .i64 0] := hR0.of_eq (hl1.block _ (by simp))
  have hs1 : w.heap.size < w1.heap.size := hR1.lt
  have HTW := hide htw
  have HX := hide hx
  have HY := hide hy
  clear hl1 hu0 hv0 hR0 hB0 htw hx hy
  go_wp2_with (first
    | (at_make; refine wpList_make_full _ rfl _ _ 24 rfl (w1.heap.size + 1) 3 i0 (.int .i64 0) 1 under22b hi hz0 hz1 _ _ _ _ xs.length rfl rfl rfl rfl (by rw [hz2]; omega) (by unfold maxLen; omega) (by simp) ?_))
  intro w2 hown hg
  have hP2 : Blk w2 (w1.heap.size + 1) 3 ((fillTo (mulL xs ys) 0).map (Value.int .i64)) := by
    have := Blk.of_owns hown
    rw [made_rep] at this
    rw [fillTo_zero, List.map_replicate, mulL_len]; exact this
  have hB2 : Below w.heap.size w w2 := (hB1.alloc hB1.size _).grown hg (by simp; omega) (by simp)
  have hR2 : Blk w2 w.heap.size 29 [.int .i64 0, .int .i64 0] := (hR1.alloc _).grown hg (by simp)
  clear hown hg hB1 hR1
  go_wp2
  go_loopw [22] (fun i wr => ∃ k : Nat, k ≤ xs.length ∧ i = .int .i64 k ∧ Blk wr (w1.heap.size + 1) 3 ((fillTo (mulL xs ys) k).map (Value.int .i64)) ∧ Below w.heap.size w wr ∧ Blk wr w.heap.size 29 [.int .i64 0, .int .i64 0])
    (fun i _ => xs.length - (intOf i).toNat)
  case atStart => exact ⟨0, Nat.zero_le _, rfl, hP2, hB2, hR2⟩
  case round =>
    obtain ⟨k, hk, rfl, hPk, hBk, hRk⟩ := hrel
    clear hP2 hB2 hR2
    by_cases hlt : k < xs.length
    · have hn := nx_lt HX.out hlt
      have hcx := (hr.below hBk hp).cell k hlt
      have hcy := (hs.below hBk hq).cell (nx xs k) (by omega)
      rw [hn.2] at hcx
      obtain rfl := hr.at_ (by omega)
      obtain rfl := hs.at_ (by omega)
      have hgk : (mulL xs ys)[k]?.getD 0 = ys[nx xs k]?.getD 0 := mulL_get ys hlt
      have hfl := fillTo_len (L := mulL xs ys) (k := k) (by rw [mulL_len]; omega)
      rw [mulL_len] at hfl
      have hck : wr.cell? ⟨w1.heap.size + 1, k, none⟩ = some (.int .i64 ((fillTo (mulL xs ys) k)[k]?.getD 0)) := hPk.int (by rw [hfl]; omega)
      have hfk := hPk.frozen k
      have hset := hPk.setInt k (ys[nx xs k]?.getD 0)
      rw [← hgk, fillTo_set (by rw [mulL_len]; omega), hgk] at hset
      have HN := hide hn.2
      obtain ⟨hn1, _⟩ := hn
      generalize nx xs k = x at hcx hcy hn1 hset HN
      generalize ys[x]?.getD 0 = y at hcy hset
      generalize (fillTo (mulL xs ys) k)[k]?.getD 0 = z at hck
      have hR3 := hRk.other (p := ⟨w1.heap.size + 1, k, none⟩) (by simp; omega) (.int .i64 y)
      have hB3 := hBk.setCell (p := ⟨w1.heap.size + 1, k, none⟩) (by simp; omega) (.int .i64 y)
      clear hgk hfl
      have hx1 : (x : Int) < (ys.length : Int) := by omega
      go_wp2
      go_roundw
      case rel => exact ⟨k + 1, by omega, by go_num, hset, hB3, hR3⟩
      case measure => simp [intOf]; omega
    · obtain ⟨hc0, hc1, hf0, hf1⟩ := hRk.two
      have hkk : k = xs.length := by omega
      subst hkk
      have hP4 : Blk ((wr.setCell ⟨w.heap.size, 0, none⟩ (.int .i64 0)).setCell ⟨w.heap.size, 1, none⟩ (.int .i64 0)) (w1.heap.size + 1) 3 ((mulL xs ys).map (Value.int .i64)) := by
        have := (hPk.other (p := ⟨w.heap.size, 0, none⟩) (by simp; omega) (.int .i64 0)).other (p := ⟨w.heap.size, 1, none⟩) (by simp; omega) (.int .i64 0)
        have e : fillTo (mulL xs ys) xs.length = mulL xs ys := by
          have := fillTo_all (mulL xs ys)
          rwa [mulL_len] at this
        rwa [e] at this
      have hR4 : Blk ((wr.setCell ⟨w.heap.size, 0, none⟩ (.int .i64 0)).setCell ⟨w.heap.size, 1, none⟩ (.int .i64 0)) w.heap.size 29 [.int .i64 0, .int .i64 0] := (hRk.set 0 _).set 1 _
      have hB4 := (hBk.setCell (p := ⟨w.heap.size, 0, none⟩) (by simp) (.int .i64 0)).setCell (p := ⟨w.heap.size, 1, none⟩) (by simp) (.int .i64 0)
      clear hPk
      go_wp2
      generalize (wr.setCell ⟨w.heap.size, 0, none⟩ (.int .i64 0)).setCell ⟨w.heap.size, 1, none⟩ (.int .i64 0) = W at hP4 hR4 hB4 ⊢
      obtain ⟨h0, h1, _, _⟩ := hR4.two
      exact bodyPost_ret (v := .tuple #[.slice (some ⟨w1.heap.size + 1, 0, none⟩) xs.length xs.length, .agg #[.int .i64 0, .int .i64 0]]) (by simp [results, Try.results37, go_sem, h0, h1]) rfl ⟨_, rfl, Sl.of_blk hP4 (by rw [mulL_len]) (by rw [mulL_len]; omega), hB4⟩
end Go.Proofs.Ytgphcfmiamiojaa.Pm
