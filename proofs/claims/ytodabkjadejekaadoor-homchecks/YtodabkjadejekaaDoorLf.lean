/- What is wrong with a list as a set of a group of n things: the program's answer and the document's. -/
import Derived.Test.YtodabkjadejekaaDoorOpn
namespace Go.Proofs.YtodabkjadejekaaDoor
open Go Go.RowKit

def rbad (n : Nat) (ls : List Int) (i : Nat) : Bool := decide (ls[i]?.getD 0 < 0 ∨ (n : Int) ≤ ls[i]?.getD 0)
def fbad (ls : List Int) (i : Nat) : Bool := decide (0 < i ∧ ls[i]?.getD 0 ≤ ls[i - 1]?.getD 0)
/-- What is wrong with a list as a set. -/
def lfault (n : Nat) (ls : List Int) : Int × Int :=
  if n < ls.length then (2, 0)
  else if least ls.length (fun i => rbad n ls i || fbad ls i) = -1 then (0, 0)
  else (if rbad n ls (least ls.length (fun i => rbad n ls i || fbad ls i)).toNat then 3 else 5, least ls.length (fun i => rbad n ls i || fbad ls i))
/-- The set of a list. -/
def pset (ls : List Int) (a : Nat) : Bool := decide ((a : Int) ∈ ls)
theorem lfault_many {n : Nat} {ls : List Int} (h : n < ls.length) : lfault n ls = (2, 0) := if_pos h
theorem lfault_ok {n : Nat} {ls : List Int} (h : ls.length ≤ n) (hno : ∀ t, t < ls.length → (rbad n ls t || fbad ls t) = false) : lfault n ls = (0, 0) := by
  unfold lfault
  rw [if_neg (by omega), least_none hno, if_pos rfl]
theorem lfault_r {n k : Nat} {ls : List Int} (h : ls.length ≤ n) (hk : k < ls.length) (hno : ∀ t, t < k → (rbad n ls t || fbad ls t) = false) (hb : rbad n ls k = true) : lfault n ls = (3, (k : Int)) := by
  unfold lfault
  rw [if_neg (by omega), least_at hk (by simp [hb]) hno, if_neg (by omega), Int.toNat_natCast, if_pos hb]
theorem lfault_f {n k : Nat} {ls : List Int} (h : ls.length ≤ n) (hk : k < ls.length) (hno : ∀ t, t < k → (rbad n ls t || fbad ls t) = false) (hb : rbad n ls k = false) (hf : fbad ls k = true) : lfault n ls = (5, (k : Int)) := by
  unfold lfault
  rw [if_neg (by omega), least_at hk (by simp [hf]) hno, if_neg (by omega), Int.toNat_natCast, if_neg (by simp [hb])]
theorem lfault_zero {n : Nat} {ls : List Int} (h : (lfault n ls).1 = 0) : lfault n ls = (0, 0) ∧ ls.length ≤ n ∧ ∀ t, t < ls.length → (rbad n ls t || fbad ls t) = false := by
  unfold lfault at h ⊢
  by_cases h1 : n < ls.length
  · rw [if_pos h1] at h; cases h
  · rw [if_neg h1] at h ⊢
    by_cases h2 : least ls.length (fun i => rbad n ls i || fbad ls i) = -1
    · rw [if_pos h2]
      exact ⟨rfl, by omega, least_neg.1 h2⟩
    · rw [if_neg h2] at h
      exfalso
      revert h
      split <;> simp
/-- Lists that rise, and have the same numbers, are the same. -/
theorem rise_eq : ∀ {xs ys : List Nat}, xs.Pairwise (· < ·) → ys.Pairwise (· < ·) → (∀ a, a ∈ xs ↔ a ∈ ys) → xs = ys
  | [], ys, _, _, h => (List.eq_nil_iff_forall_not_mem.2 fun a ha => by have := (h a).2 ha; simp at this).symm
  | x :: xs, [], _, _, h => by have := (h x).1 (by simp); simp at this
  | x :: xs, y :: ys, hx, hy, h => by
    rw [List.pairwise_cons] at hx hy
    have h1 := (h x).1 (by simp)
    have h2 := (h y).2 (by simp)
    have e : x = y := by
      rcases List.mem_cons.1 h1 with h3 | h3
      · exact h3
      · rcases List.mem_cons.1 h2 with h4 | h4
        · exact h4.symm
        · have := hx.1 y h4
          have := hy.1 x h3
          omega
    subst e
    congr 1
    refine rise_eq hx.2 hy.2 fun a => ⟨fun ha => ?_, fun ha => ?_⟩
    · rcases List.mem_cons.1 ((h a).1 (List.mem_cons_of_mem _ ha)) with h3 | h3
      · subst h3; have := hx.1 a ha; omega
      · exact h3
    · rcases List.mem_cons.1 ((h a).2 (List.mem_cons_of_mem _ ha)) with h3 | h3
      · subst h3; have := hy.1 a ha; omega
      · exact h3
theorem lst_rise (n : Nat) (p : Nat → Bool) : (lst n p).Pairwise (· < ·) := (List.pairwise_lt_range).sublist (List.filter_sublist)
/-- A list with which nothing is wrong is the list of its set. -/
theorem set_lst {n : Nat} {ls : List Int} (h : (lfault n ls).1 = 0) : ls = li (lst n (pset ls)) := by
  obtain ⟨_, hl, hno⟩ := lfault_zero h
  have hno' : ∀ t, t < ls.length → rbad n ls t = false ∧ fbad ls t = false := fun t ht => by have := hno t ht; simpa using this
  have hr : ∀ t, (ht : t < ls.length) → 0 ≤ ls[t] ∧ ls[t] < n := fun t ht => by
    have := (hno' t ht).1
    unfold rbad at this
    rw [decide_eq_false_iff_not] at this
    simp [ht] at this; omega
  have hf : ∀ t, (ht : t + 1 < ls.length) → ls[t] < ls[t + 1] := fun t ht => by
    have := (hno' (t + 1) ht).2
    unfold fbad at this
    rw [decide_eq_false_iff_not] at this
    have h2 : t < ls.length := by omega
    simp [ht, h2] at this; omega
  have hmono : ∀ d t, (ht : t + d + 1 < ls.length) → ls[t] < ls[t + d + 1] := fun d => by
    induction d with
    | zero => exact fun t ht => hf t ht
    | succ d ih =>
      intro t ht
      have h1 := ih t (by omega)
      have h2 := hf (t + d + 1) (by omega)
      have : t + (d + 1) + 1 = t + d + 1 + 1 := by omega
      simp only [this]
      omega
  have hxs : ls = li (ls.map Int.toNat) := by
    unfold li
    rw [List.map_map]
    conv => lhs; rw [← List.map_id ls]
    apply List.map_congr_left
    intro z hz
    obtain ⟨t, ht, rfl⟩ := List.mem_iff_getElem.1 hz
    have := hr t ht
    show ls[t] = ((ls[t].toNat : Nat) : Int)
    omega
  rw [hxs]
  congr 1
  refine rise_eq ?_ (lst_rise _ _) fun a => ?_
  · rw [List.pairwise_iff_getElem]
    intro i j hi hj hij
    simp only [List.length_map] at hi hj
    simp only [List.getElem_map]
    obtain ⟨d, rfl⟩ : ∃ d, j = i + d + 1 := ⟨j - i - 1, by omega⟩
    have h1 := hmono d i hj
    have h2 := hr i hi
    omega
  · rw [mem_lst]
    unfold pset
    rw [decide_eq_true_eq, ← hxs, List.mem_map]
    constructor
    · rintro ⟨z, hz, rfl⟩
      obtain ⟨t, ht, rfl⟩ := List.mem_iff_getElem.1 hz
      have h1 := hr t ht
      refine ⟨by omega, ?_⟩
      rw [show ((ls[t].toNat : Nat) : Int) = ls[t] by omega]
      exact hz
    · rintro ⟨_, h2⟩
      exact ⟨(a : Int), h2, by simp⟩

/-- A number that goes with a fault: none where there is one. -/
def okN (c : Int) (x : Nat) : Nat := if c = 0 then x else 0

set_option maxRecDepth 100000 in
set_option maxHeartbeats 4000000 in
theorem setOf_any (n : Nat) (v : Value) (ls : List Int) (w : World) (hn : n ≤ 60) (hv : Sl w v ls) :
    Calls Tryd.prog 102 #[.int .i64 n, v] w fun x w' => x = .returned (.tuple #[.int .u64 (okN (lfault n ls).1 (bs (pset ls) n)), .agg #[.int .i64 (lfault n ls).1, .int .i64 (lfault n ls).2]]) ∧ Below w.heap.size w w' := by
  have hB0 : Below w.heap.size w (w.alloc (.cells #[.int .i64 0, .int .i64 0] 28)) := balloc w _
  have hR0 := Two.new w
  have hv0 := hv.below hB0
  obtain ⟨a, cap, pb, po, rfl, hrw0, hpw0, hq3, hq4⟩ := id hv
  have HRW := hide hrw0
  have HPB := hide hpw0
  have hr := hrw0.below hB0 hpw0
  have hp := Nat.lt_of_lt_of_le hpw0 hB0.size
  clear hrw0 hpw0
  obtain ⟨_, y0, y1, fy0, fy1, s0, s1⟩ := id hR0
  by_cases hmany : n < ls.length
  · have hR6 : Blk ((w.alloc (.cells #[.int .i64 0, .int .i64 0] 28)).setCell ⟨w.heap.size, 0, none⟩ (.int .i64 2)) w.heap.size 28 [.int .i64 2, .int .i64 0] := hR0.blk.set 0 _
    have hB6 : Below w.heap.size w ((w.alloc (.cells #[.int .i64 0, .int .i64 0] 28)).setCell ⟨w.heap.size, 0, none⟩ (.int .i64 2)) := hB0.setCell (p := ⟨w.heap.size, 0, none⟩) (by simp) _
    rw [lfault_many hmany]
    have hmi : (n : Int) < (ls.length : Int) := by omega
    go_enter Tryd.func102, Tryd.ntmps102
    go_wp2
    have hR7 := blk0 (w := w) (T := 28) (.int .i64 2) (.int .i64 0)
    obtain ⟨z0, z1, _, _⟩ := hR7.two
    exact bodyPost_ret (v := .tuple #[.int .u64 0, .agg #[.int .i64 2, .int .i64 0]]) (by simp [results, Tryd.results102, go_sem, z0, z1]) rfl ⟨rfl, balloc w _⟩
  · have hle : ls.length ≤ n := by omega
    have hmi : ¬ (n : Int) < (ls.length : Int) := by omega
    have HV := hide hv
    clear y0 y1 fy0 fy1 s0 s1 hv0 hv
    go_enter Tryd.func102, Tryd.ntmps102
    go_wp2
    go_loopw [15] (fun i wr => ∃ k : Nat, k ≤ ls.length ∧ i = .int .i64 k ∧ (∀ t, t < k → (rbad n ls t || fbad ls t) = false) ∧ Two wr w.heap.size ∧ Below w.heap.size w wr) (fun i _ => ls.length - (intOf i).toNat)
    case atStart => exact ⟨0, Nat.zero_le _, rfl, fun t ht => by omega, hR0, hB0⟩
    case round =>
      obtain ⟨k, hk, rfl, hno, hR, hB⟩ := hrel
      have HNO := hide hno
      clear hno
      obtain ⟨_, y0, y1, fy0, fy1, s0, s1⟩ := id hR
      have hrw : Reads wr a pb po ls := by
        exact HRW.out.below hB HPB.out
      by_cases hlt : k < ls.length
      · have hck := hrw.cell k hlt
        obtain rfl := hrw.at_ (by omega)
        obtain ⟨c, hc⟩ : ∃ c, ls[k]?.getD 0 = c := ⟨_, rfl⟩
        rw [hc] at hck
        have hki : (k : Int) < (ls.length : Int) := by omega
        by_cases hc0 : c < 0
        · have HLF := hide (lfault_r hle hlt HNO.out (by unfold rbad; rw [hc]; simp [hc0]))
          clear hc hrw hr
          obtain ⟨hR9, hB9⟩ := put2 hR.blk hB (Nat.le_refl _) 3 k
          go_wp2
          generalize (wr.setCell ⟨w.heap.size, 0, none⟩ (.int .i64 3)).setCell ⟨w.heap.size, 1, none⟩ (.int .i64 k) = W at hR9 hB9 ⊢
          obtain ⟨z0, z1, _, _⟩ := hR9.two
          exact bodyPost_ret (v := .tuple #[.int .u64 0, .agg #[.int .i64 3, .int .i64 k]]) (by simp [results, Tryd.results102, go_sem, z0, z1]) rfl ⟨by rw [HLF.out]; rfl, hB9⟩
        · by_cases hcn : (n : Int) ≤ c
          · have HLF := hide (lfault_r hle hlt HNO.out (by unfold rbad; rw [hc]; simp [hcn]))
            clear hc hrw hr
            obtain ⟨hR9, hB9⟩ := put2 hR.blk hB (Nat.le_refl _) 3 k
            go_wp2
            generalize (wr.setCell ⟨w.heap.size, 0, none⟩ (.int .i64 3)).setCell ⟨w.heap.size, 1, none⟩ (.int .i64 k) = W at hR9 hB9 ⊢
            obtain ⟨z0, z1, _, _⟩ := hR9.two
            exact bodyPost_ret (v := .tuple #[.int .u64 0, .agg #[.int .i64 3, .int .i64 k]]) (by simp [results, Tryd.results102, go_sem, z0, z1]) rfl ⟨by rw [HLF.out]; rfl, hB9⟩
          · have HRB := hide (show rbad n ls k = false by unfold rbad; rw [hc]; simp; omega)
            have hcn' : c < (n : Int) := by omega
            rcases Nat.eq_zero_or_pos k with rfl | hkp
            · have HFB := hide (show fbad ls 0 = false by simp [fbad])
              rw [Nat.add_zero] at hck
              clear hc hrw hr
              go_wp2
              go_roundw
              case rel => exact ⟨1, by omega, by go_num, fun t ht => by
                have : t = 0 := by omega
                subst this; rw [HRB.out, HFB.out]; rfl, hR, hB⟩
              case measure => simp [intOf]; omega
            · obtain ⟨m, rfl⟩ : ∃ m, k = m + 1 := ⟨k - 1, by omega⟩
              have hcm := hrw.cell m (by omega)
              obtain ⟨d, hd⟩ : ∃ d, ls[m]?.getD 0 = d := ⟨_, rfl⟩
              rw [hd] at hcm
              have hfb : fbad ls (m + 1) = decide (c ≤ d) := by
                unfold fbad
                rw [Nat.add_sub_cancel, hc, hd]
                simp
              have hmi2 : (m : Int) < (ls.length : Int) := by omega
              by_cases hcd : c ≤ d
              · have HLF := hide (lfault_f hle hlt HNO.out HRB.out (by rw [hfb]; simp [hcd]))
                clear hc hd hfb hrw hr
                obtain ⟨hR9, hB9⟩ := put2 hR.blk hB (Nat.le_refl _) 5 ((m : Int) + 1)
                go_wp2
                generalize (wr.setCell ⟨w.heap.size, 0, none⟩ (.int .i64 5)).setCell ⟨w.heap.size, 1, none⟩ (.int .i64 ((m : Int) + 1)) = W at hR9 hB9 ⊢
                obtain ⟨z0, z1, _, _⟩ := hR9.two
                exact bodyPost_ret (v := .tuple #[.int .u64 0, .agg #[.int .i64 5, .int .i64 ((m : Int) + 1)]]) (by simp [results, Tryd.results102, go_sem, z0, z1]) rfl ⟨by rw [HLF.out]; simp [okN], hB9⟩
              · have HFB := hide (show fbad ls (m + 1) = false by rw [hfb]; simp; omega)
                clear hc hd hfb hrw hr
                go_wp2
                go_roundw
                case rel => exact ⟨m + 1 + 1, by omega, by go_num, fun t ht => by
                  by_cases e : t = m + 1
                  · rw [e, HRB.out, HFB.out]; rfl
                  · exact HNO.out t (by omega), hR, hB⟩
                case measure => simp [intOf]; omega
      · have hkk : k = ls.length := by omega
        subst hkk
        have hlf := lfault_ok hle HNO.out
        have hlz : (lfault n ls).1 = 0 := by rw [hlf]
        have hset := set_lst hlz
        have hmem : ∀ x, x ∈ lst n (pset ls) → x < n := fun x hx => (mem_lst.1 hx).1
        have hll : (lst n (pset ls)).length ≤ 60 := Nat.le_trans (lst_len _ _) hn
        have hso := HV.out.below hB
        rw [hset] at hso
        have hof := of_ok n _ (lst n (pset ls)) wr hn hll (by rw [← hset] at hso ⊢; exact hso) hmem
        have hbs : bs (fun a => decide (a ∈ lst n (pset ls))) n = bs (pset ls) n := bs_ext fun a ha => by
          rw [Bool.eq_iff_iff, decide_eq_true_eq, mem_lst]; simp [ha]
        rw [hbs] at hof
        have HOF := hide hof
        have HLF := hide hlf
        clear hof hlf hlz hset hso hbs hmem hrw hr
        go_wp2_with fail
        refine HOF.out.mono ?_
        rintro e1 w1 ⟨rfl, rfl⟩
        go_wp2
        exact bodyPost_ret (v := .tuple #[.int .u64 (bs (pset ls) n), .agg #[.int .i64 0, .int .i64 0]]) (by simp [results, Tryd.results102, go_sem, y0, y1]) rfl ⟨by rw [HLF.out]; rfl, hB⟩
end Go.Proofs.YtodabkjadejekaaDoor
