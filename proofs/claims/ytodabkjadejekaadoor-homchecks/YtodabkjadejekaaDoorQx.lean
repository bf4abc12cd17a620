/- What package quot's Simple and Abel answer; the subgroup of commutators, and the quotient by it. Condition: the library's table of places lies as its text lays it. -/
import Derived.Test.YtodabkjadejekaaDoorQz
namespace Go.Proofs.YtodabkjadejekaaDoor
open Go Go.RowKit

theorem one_lst : ∀ (n a : Nat), a < n → lst n (fun y => decide (y = a)) = [a]
  | 0, a, h => by omega
  | n + 1, a, h => by
    unfold lst
    rw [List.range_succ, List.filter_append]
    by_cases e : a = n
    · subst e
      have : (List.range a).filter (fun y => decide (y = a)) = [] := List.filter_eq_nil_iff.2 fun y hy => by
        have := List.mem_range.1 hy
        simp; omega
      rw [this]
      simp
    · have h9 := one_lst n a (by omega)
      unfold lst at h9
      rw [h9]
      have : ¬ n = a := fun e9 => e e9.symm
      simp [this]
theorem one_fault {n a : Nat} (h : a < n) : lfault n [(a : Int)] = (0, 0) := by
  have := lst_fault n (fun y => decide (y = a))
  rw [one_lst n a h] at this
  exact this
theorem lst_le (n : Nat) (p : Nat → Bool) : (lst n p).length ≤ n := by unfold lst; exact Nat.le_trans (List.length_filter_le _ _) (by simp)
set_option maxRecDepth 100000 in
set_option maxHeartbeats 4000000 in
theorem simple_bad (N : Int) (v : Value) (zs : List Int) (w : World) (hv : Sl w v zs) (hc : (gfault N zs).1 ≠ 0) :
    Calls Tryd.prog 46 #[.agg #[.int .i64 N, v]] w fun x w' => x = .returned (.tuple #[.bool false, .agg #[.int .i64 (gfault N zs).1, .int .i64 (gfault N zs).2]]) ∧ Below w.heap.size w w' := by
  obtain ⟨w0, BG⟩ := Beg.new w N v
  have HCK := hide (opened_bad N v zs w0 (hv.below BG.bel) hc)
  obtain ⟨c0, c1, _, _⟩ := BG.box.two
  obtain ⟨c, i, hci⟩ : ∃ c i, gfault N zs = (c, i) := ⟨_, _, rfl⟩
  rw [hci] at HCK hc ⊢
  simp only at HCK hc ⊢
  clear hci
  have hcb : (c != 0) = true := by simpa using hc
  rw [BG.eq] at c0 c1
  go_enter Tryd.func46, Tryd.ntmps46
  go_wp2_with fail
  rw [← BG.eq]
  clear c0 c1
  refine HCK.out.mono ?_
  rintro x w1 ⟨rfl, hb1⟩
  obtain ⟨w2, hw2⟩ : ∃ w2, w2 = (w1.alloc (.cells #[.int .i64 0, .slice none 0 0, .int .i64 0, .slice none 0 0] 65)).alloc (.cells #[.int .i64 c, .int .i64 i] 28) := ⟨_, rfl⟩
  have hB1 : Below w0.heap.size w0 w2 := by rw [hw2]; exact bcat2 hb1 ((balloc w1 _).alloc (by simp) _)
  have hF1 : Blk w2 (w1.heap.size + 1) 28 [.int .i64 c, .int .i64 i] := by
    rw [hw2]
    have := blk0 (w := w1.alloc (.cells #[.int .i64 0, .slice none 0 0, .int .i64 0, .slice none 0 0] 65)) (T := 28) (.int .i64 c) (.int .i64 i)
    rwa [World.size_alloc] at this
  have hR1 := blk_below BG.res hB1
  have hBw := bcat BG.bel hB1 BG.bel.size
  obtain ⟨y0, y1, fy0, fy1⟩ := hR1.two
  obtain ⟨t0, t1, _, _⟩ := hF1.two
  obtain ⟨hR6, hB6⟩ := put2 hR1 hBw (by omega) c i
  have hB7 := bdrew hB6
  rw [hw2] at y0 y1 fy0 fy1 t0 t1
  go_wp2_with fail
  rw [← hw2] at y0 y1 fy0 fy1 t0 t1 ⊢
  clear hw2
  go_region
  all_goals (
    go_wp2
    obtain ⟨z0, z1, _, _⟩ := hR6.two
    exact bodyPost_ret (v := .tuple #[.bool false, .agg #[.int .i64 c, .int .i64 i]]) (by simp [results, Tryd.results46, go_sem, z0, z1]) rfl ⟨rfl, hB7⟩)
/-- Has each thing but the one all, by a number? -/
def smq (n e : Nat) (L : Nat → Nat) : Bool := decide (1 < n) && (List.range n).all fun a => decide (a = e) || !decide (L a < n)
set_option maxRecDepth 100000 in
set_option maxHeartbeats 8000000 in
theorem simple_good (n e : Nat) (v : Value) (zs : List Int) (P : Nat → Nat → Bool) (w : World) (hv : Sl w v zs) (hg : IsGrp n zs e) (hT : Tab w) (hp : ∀ a, a < n → ∀ y, y < n → (P a y = true ↔ Mkd n zs e (cloq n zs e (pset [(a : Int)]) n) y)) :
    Calls Tryd.prog 46 #[.agg #[.int .i64 n, v]] w fun x w' => x = .returned (.tuple #[.bool (smq n e fun a => (lst n (P a)).length), .agg #[.int .i64 0, .int .i64 0]]) ∧ Below w.heap.size w w' := by
  obtain ⟨va, vl, vc, rfl⟩ := hv.isSlice
  have hn := hg.tab.le
  obtain ⟨w0, BG⟩ := Beg.new w n (.slice va vl vc)
  have HCK := hide (opened_good n e (.slice va vl vc) zs w0 (hv.below BG.bel) hg)
  have HCL := hide (fun W u a (h : Below w.heap.size w W) (ha : a < n) (hu : Sl W u [(a : Int)]) => clo_good n e (.slice va vl vc) u zs [(a : Int)] (P a) W (hv.below h) hg hu (hT.below h) (one_fault ha) (hp a ha))
  obtain ⟨L, hL⟩ : ∃ L : Nat → Nat, L = fun a => (lst n (P a)).length := ⟨_, rfl⟩
  have HL := hide (fun a => show (lst n (P a)).length = L a by rw [hL])
  rw [← hL]
  obtain ⟨b, hb⟩ : ∃ b, b = smq n e L := ⟨_, rfl⟩
  rw [← hb]
  have HNO := hide (fun a (ha : a < n) (h1 : ¬ a = e) (h2 : L a < n) => show b = false by
    rw [hb]
    unfold smq
    rw [Bool.and_eq_false_iff]
    right
    rw [List.all_eq_false]
    exact ⟨a, List.mem_range.2 ha, by simp [h1, h2]⟩)
  have HYES := hide (fun (h : ∀ a, a < n → a = e ∨ ¬ L a < n) => show b = decide (1 < n) by
    rw [hb]
    unfold smq
    have : ((List.range n).all fun a => decide (a = e) || !decide (L a < n)) = true := List.all_eq_true.2 fun a ha => by
      rcases h a (List.mem_range.1 ha) with h | h <;> simp [h]
    rw [this, Bool.and_true])
  clear hb hL hp
  have hen := hg.elt
  obtain ⟨c0, c1, _, _⟩ := BG.box.two
  rw [BG.eq] at c0 c1
  go_enter Tryd.func46, Tryd.ntmps46
  go_wp2_with fail
  rw [← BG.eq]
  clear c0 c1
  refine HCK.out.mono ?_
  rintro x w1 ⟨iv9, rfl, hSI, hb1⟩
  obtain ⟨ia, il, ic, rfl⟩ := hSI.sl.isSlice
  obtain ⟨w2, hw2⟩ : ∃ w2, w2 = (w1.alloc (.cells #[.int .i64 n, (.slice va vl vc), .int .i64 e, (.slice ia il ic)] 65)).alloc (.cells #[.int .i64 0, .int .i64 0] 28) := ⟨_, rfl⟩
  have hb2 : Below w1.heap.size w1 w2 := by rw [hw2]; exact (balloc w1 _).alloc (by simp) _
  have hB1 : Below w0.heap.size w0 w2 := bcat2 hb1 hb2
  have hF1 : Blk w2 (w1.heap.size + 1) 28 [.int .i64 0, .int .i64 0] := by
    rw [hw2]
    have := blk0 (w := w1.alloc (.cells #[.int .i64 n, (.slice va vl vc), .int .i64 e, (.slice ia il ic)] 65)) (T := 28) (.int .i64 0) (.int .i64 0)
    rwa [World.size_alloc] at this
  have hH2 : Blk w2 w1.heap.size 65 [.int .i64 n, (.slice va vl vc), .int .i64 e, (.slice ia il ic)] := by
    rw [hw2]; exact (blk4 _ _ _ _).alloc _
  have hBw2 := bcat BG.bel hB1 BG.bel.size
  have hR2 := blk_below BG.res hB1
  have hX2 := blk_below BG.box hB1
  obtain ⟨t0, t1, _, _⟩ := hF1.two
  obtain ⟨g0, g1, _, _⟩ := hX2.two
  rw [hw2] at t0 t1 g0 g1
  go_wp2
  rw [← hw2]
  clear hw2 t0 t1 g0 g1
  have hRl := hR2.lt
  have HH := hide (fun W (h : Below w2.heap.size w2 W) => show W.cell? ⟨w1.heap.size, 2, none⟩ = some (.int .i64 e) from by
    obtain ⟨_, _, _, h2, _, _⟩ := Four.mk' hH2
    exact below_cell h h2)
  go_loopw [20] (fun i wr => ∃ a : Nat, a ≤ n ∧ i = .int .i64 a ∧ (∀ t, t < a → t = e ∨ ¬ L t < n) ∧ Below w2.heap.size w2 wr) (fun i _ => n - (intOf i).toNat)
  case atStart => exact ⟨0, Nat.zero_le _, rfl, fun t ht => by omega, Below.refl _ _⟩
  case round =>
    obtain ⟨a, ha, rfl, hall, hB⟩ := hrel
    have HALL := hide hall
    clear hall
    have hXr := blk_below hX2 hB
    have hRr := blk_below hR2 hB
    have hBr := bcat2 hBw2 hB
    by_cases hlt : a < n
    · have hai : (a : Int) < (n : Int) := by omega
      have hbn := balloc wr (.cells #[.int .i64 a] 3)
      have hun : Sl (wr.alloc (.cells #[.int .i64 a] 3)) (.slice (some ⟨wr.heap.size, 0, none⟩) 1 1) [(a : Int)] := Sl.of_blk (g := wr.heap.size) (zs := [(a : Int)]) (World.alloc_heap_new wr _) rfl (by simp)
      obtain ⟨g0, g1, _, _⟩ := hXr.two
      go_wp2_with fail
      clear g0 g1
      refine (HCL.out _ _ a (bcat2 hBr hbn) hlt hun).mono ?_
      rintro x w4 ⟨r, rfl, hr, hb4⟩
      have hrs := hr.sl
      obtain ⟨ra, rc, _, _, rfl, _, _, _, _⟩ := hrs
      rw [li_len, HL.out]
      have hb5 := bcat2 (bcat2 hbn hb4) (balloc w4 (.cells #[.int .i64 0, .int .i64 0] 28))
      have hF5 := blk0 (w := w4) (T := 28) (.int .i64 0) (.int .i64 0)
      have hX5 := blk_below hXr hb5
      have hR5 := blk_below hRr hb5
      have hB5 := bcat2 hB hb5
      have hBw5 := bcat2 hBr hb5
      have ch := HH.out _ hB5
      obtain ⟨g0, g1, _, _⟩ := hX5.two
      obtain ⟨t0, t1, _, _⟩ := hF5.two
      obtain ⟨y0, y1, fy0, fy1⟩ := hR5.two
      obtain ⟨s0, s1⟩ := hR5.self
      by_cases hae : a = e
      · have hi1 : ((a : Int) != (e : Int)) = false := by simp [hae]
        have hi2 : (a : Int) = (e : Int) := by omega
        have HN := hide (fun t (ht : t < a + 1) => show t = e ∨ ¬ L t < n by
          by_cases e9 : t = a
          · left; omega
          · exact HALL.out t (by omega))
        clear hae
        go_wp2
        go_roundw
        case rel => exact ⟨a + 1, by omega, by go_num, HN.out, hB5⟩
        case measure => simp [intOf]; omega
      · have hi1 : ((a : Int) != (e : Int)) = true := by simp; omega
        have hi2 : ¬ (a : Int) = (e : Int) := by omega
        by_cases hLt : L a < n
        · obtain rfl := HNO.out a hlt hae hLt
          have hli : (L a : Int) < (n : Int) := by omega
          clear hae
          go_wp2
          exact bodyPost_ret (v := .tuple #[.bool false, .agg #[.int .i64 0, .int .i64 0]]) (by simp [results, Tryd.results46, go_sem, y0, y1]) rfl ⟨rfl, hBw5⟩
        · have hli : ¬ (L a : Int) < (n : Int) := by omega
          have HN := hide (fun t (ht : t < a + 1) => show t = e ∨ ¬ L t < n by
            by_cases e9 : t = a
            · right; rw [e9]; exact hLt
            · exact HALL.out t (by omega))
          clear hae hLt
          go_wp2
          go_roundw
          case rel => exact ⟨a + 1, by omega, by go_num, HN.out, hB5⟩
          case measure => simp [intOf]; omega
    · have hai : ¬ (a : Int) < (n : Int) := by omega
      have HBE := hide (HYES.out (fun t ht => HALL.out t (by omega)))
      obtain ⟨g0, g1, _, _⟩ := hXr.two
      obtain ⟨y0, y1, fy0, fy1⟩ := hRr.two
      obtain ⟨s0, s1⟩ := hRr.self
      by_cases h1 : 1 < n
      · have h1i : (1 : Int) < (n : Int) := by omega
        go_wp2
        exact bodyPost_ret (v := .tuple #[.bool true, .agg #[.int .i64 0, .int .i64 0]]) (by simp [results, Tryd.results46, go_sem, y0, y1]) rfl ⟨by rw [HBE.out, decide_eq_true h1], hBr⟩
      · have h1i : ¬ (1 : Int) < (n : Int) := by omega
        go_wp2
        exact bodyPost_ret (v := .tuple #[.bool false, .agg #[.int .i64 0, .int .i64 0]]) (by simp [results, Tryd.results46, go_sem, y0, y1]) rfl ⟨by rw [HBE.out, decide_eq_false h1], hBr⟩
end Go.Proofs.YtodabkjadejekaaDoor

namespace Go.Proofs.YtodabkjadejekaaDoor
open Go Go.RowKit Go.Maps

theorem slF_blk {w : World} {g n B : Nat} {zs : List Int} (h : Blk w g 3 (zs.map (Value.int .i64))) (hn : n = zs.length) (hl : zs.length ≤ 1000000) (hB : B ≤ g) : SlF B w (.slice (some ⟨g, 0, none⟩) n n) zs := by
  subst hn
  exact ⟨some ⟨g, 0, none⟩, zs.length, g, 0, rfl, ⟨fun _ => rfl, fun j hj => by rw [Nat.zero_add]; exact h.int hj⟩, h.lt, Nat.le_refl _, by unfold maxLen; omega, hB⟩
theorem slF_row {w : World} {base B : Nat} {v : Value} {zs : List Int} (h : Row w base v zs) (hB : B ≤ base) (h0 : 0 < zs.length) : SlF B w v zs := by
  rcases h.2 with ⟨_, hz⟩ | ⟨g, cap, cur, rfl, hgb, hh, h1, h2, _⟩
  · omega
  · refine ⟨some ⟨g, 0, none⟩, cap, g, 0, rfl, ⟨fun _ => rfl, fun j hj => ?_⟩, (Array.getElem?_eq_some_iff.1 hh).1, h1, h2, by omega⟩
    have h3 := h.cells (g := g) rfl j (.int .i64 (zs[j]?.getD 0)) (by simp [hj])
    rw [show (⟨g, 0, none⟩ : Addr).add j = ⟨g, j, none⟩ by unfold Addr.add; split <;> simp_all] at h3
    rw [Nat.zero_add]; exact h3
theorem slF_keep {B : Nat} {w w' : World} {v : Value} {zs : List Int} (h : SlF B w v zs) (hs : w.heap.size ≤ w'.heap.size) (hk : ∀ g, B ≤ g → g < w.heap.size → w'.heap[g]? = w.heap[g]?) : Sl w' v zs := by
  obtain ⟨a, cap, pb, po, rfl, h1, h2, h3, h4, h5⟩ := h
  exact ⟨a, cap, pb, po, rfl, h1.of_eq (hk pb h5 h2), Nat.lt_of_lt_of_le h2 hs, h3, h4⟩
set_option maxRecDepth 100000 in
set_option maxHeartbeats 8000000 in
theorem quo_goodF (n e : Nat) (v u : Value) (zs l : List Int) (w : World) (hv : Sl w v zs) (hg : IsGrp n zs e) (hu : Sl w u l) (hT : Tab w) (hl : lfault n l = (0, 0)) (hsb : subT n zs e (pset l) = true) (hN : nrmq n zs e (pset l) = true) :
    Calls Tryd.prog 36 #[.agg #[.int .i64 n, v], u] w fun x w' => ∃ r1 r2 r3 s1 s2 s3, x = .returned (.tuple #[.agg #[.int .i64 (fsts n (rgtq n zs (lst n (pset l))) n).length, .slice r1 r2 r3], .slice s1 s2 s3, .agg #[.int .i64 0, .int .i64 0]]) ∧ SlF w.heap.size w' (.slice r1 r2 r3) (mkT (fsts n (rgtq n zs (lst n (pset l))) n).length (quoF n zs (rgtq n zs (lst n (pset l))))) ∧ SlF w.heap.size w' (.slice s1 s2 s3) (ontoL n (rgtq n zs (lst n (pset l)))) ∧ Below w.heap.size w w' := by
  obtain ⟨i0, hi, hz0, hz1, hz2⟩ := info_parts info3b
  have hn := hg.tab.le
  have PP := rgt_parts hg hsb
  obtain ⟨w0, BG⟩ := BegQ.new w n v
  have HN := hide (nrm_good n e v u zs l w0 (hv.below BG.bel) hg (hu.below BG.bel) (hT.below BG.bel) hl hsb)
  rw [hN] at HN
  have HRG := hide (fun W (h : Below w.heap.size w W) => lists_sl (Nat.lt_of_lt_of_le hT.lt h.size) (rgt_good n e v u zs l W (hv.below h) hg (hu.below h) (hT.below h) hl hsb))
  obtain ⟨f, hf⟩ : ∃ f, f = rgtq n zs (lst n (pset l)) := ⟨_, rfl⟩
  rw [← hf] at HRG PP ⊢
  clear hf
  obtain ⟨K, hK⟩ : ∃ K, K = (fsts n f n).length := ⟨_, rfl⟩
  have hK6 : K ≤ 60 := by rw [hK]; exact Nat.le_trans (fsts_len n f n) hn
  have HCL := hide (show (csl n f n).length = K by rw [csl_len, hK])
  have HNUM := hide (fun W v9 (h : SlL W v9 (csl n f n)) => numbers_ok v9 (csl n f n) W h (by rw [HCL.out]; exact hK6) (fun t _ => Nat.le_trans (csl_len_le t) hn) (fun t a ha => by
    obtain ⟨b, hb, rfl, _⟩ := (csl_at PP t a).1 ha
    omega) (fun s t a h1 h2 => by
    obtain ⟨b, hb, rfl, h3⟩ := (csl_at PP s a).1 h1
    obtain ⟨b', hb', he, h4⟩ := (csl_at PP t _).1 h2
    have : b = b' := by omega
    subst this
    omega))
  have HNL := hide (fun a (ha : a < n) => (prts_num_lt PP ha).1)
  rw [← hK] at HNL
  have HAT := hide (fun (D : DataW Unit) (h : MLs (csl n f n) (csl n f n).length 0 D) a (ha : a < n) => h.old (num n f a) (by rw [csl_len]; exact (prts_num_lt PP ha).1) a ((csl_at PP _ _).2 ⟨a, ha, rfl, rfl⟩))
  have HGR := hide (fun W lv mb c (D : DataW Unit) (h : Below w.heap.size w W) (hL : SlL W lv (csl n f n)) (hm : W.ownsMap Tryd.prog 3 (plainElem Tryd.prog 3) mb c D) (hM : MLs (csl n f n) (csl n f n).length 0 D) =>
    group_ok n K v lv zs (csl n f n) (fun i => (fsts n f n)[i]?.getD 0) (quoF n zs f) mb c D W hg.tab (hv.below h) hL HCL.out hK6 (fun i hi => by
      rw [hK] at hi
      obtain ⟨s, hs⟩ := csl_head PP hi
      exact ⟨s, hs, by rw [List.getElem?_eq_getElem hi]; exact fst_lt hi⟩) hm (fun i j hi hj => by
      rw [hK] at hi hj
      have h1 := fst_lt hi
      have h2 := fst_lt hj
      unfold quoF
      simp only [List.getElem?_eq_getElem hi, List.getElem?_eq_getElem hj, Option.getD_some]
      exact HAT.out D hM _ (tm_lt hg.tab h1 h2)) (fun i j hi hj => by
      rw [hK] at hi hj
      unfold quoF
      simp only [List.getElem?_eq_getElem hi, List.getElem?_eq_getElem hj, Option.getD_some]
      have := HNL.out _ (tm_lt hg.tab (fst_lt hi) (fst_lt hj))
      omega))
  rw [← hK]
  have HK := hide hK
  clear hK PP hN
  obtain ⟨c0, c1, _, _⟩ := BG.box.two
  rw [BG.eq] at c0 c1
  go_enter Tryd.func36, Tryd.ntmps36
  go_wp2_with fail
  rw [← BG.eq]
  clear c0 c1
  refine HN.out.mono ?_
  rintro x w1 ⟨rfl, hb1⟩
  have hb2 := bcat2 hb1 (balloc w1 (.cells #[.int .i64 0, .int .i64 0] 28))
  have hF2 := blk0 (w := w1) (T := 28) (.int .i64 0) (.int .i64 0)
  have hBw := bcat BG.bel hb2 BG.bel.size
  have hX2 := blk_below BG.box hb2
  have hG2 := blk_below BG.grp hb2
  have hR2 := blk_below BG.res hb2
  obtain ⟨t0, t1, _, _⟩ := hF2.two
  obtain ⟨c0, c1, _, _⟩ := hX2.two
  go_wp2_with fail
  generalize w1.alloc (.cells #[.int .i64 0, .int .i64 0] 28) = w2 at *
  clear t0 t1 c0 c1 hb1 hb2
  refine (HRG.out _ hBw).mono ?_
  rintro x w3 ⟨r1, r2, r3, rfl, hr, hb3⟩
  have hF3 := blk_below hF2 hb3
  have hX3 := blk_below hX2 hb3
  have hG3 := blk_below hG2 hb3
  have hR3 := blk_below hR2 hb3
  have hBw3 := bcat2 hBw hb3
  obtain ⟨t0, t1, ft0, ft1⟩ := hF3.two
  obtain ⟨s0, s1⟩ := hF3.self
  go_wp2_with fail
  clear t0 t1 ft0 ft1 s0 s1
  refine (HNUM.out _ _ hr).mono ?_
  rintro x w4 ⟨D, rfl, hmap, hML, hb4⟩
  have hX4 := blk_below hX3 hb4
  have hG4 := blk_below hG3 hb4
  have hR4 := blk_below hR3 hb4
  have hr4 := hr.below hb4
  have hBw4 := bcat2 hBw3 hb4
  obtain ⟨k0, k1, _, _⟩ := hX4.two
  clear hX2 hX3 hG2 hG3 hR2 hR3 hF2 hF3 hr hBw hBw3 HNUM HRG HN
  go_wp2_with (first
    | (at_make; refine wpList_make_full _ rfl _ _ 22 rfl w4.heap.size 3 i0 (.int .i64 0) 1 under22b hi hz0 hz1 _ _ _ _ n rfl rfl rfl rfl (by rw [hz2]; omega) (by unfold maxLen; omega) (by simp) ?_))
  intro w5 hown hgr
  have hM5 : Blk w5 w4.heap.size 3 ((ontoU n f 0).map (Value.int .i64)) := by
    have := Blk.of_owns hown
    rw [made_rep] at this
    rw [ontoU_zero, List.map_replicate]; exact this
  have hb5 : Below w4.heap.size w4 w5 := (Below.refl _ w4).grown hgr (Nat.le_refl _) (by simp)
  clear hown hgr k0 k1
  have hw34 := hb4.size
  have HMP := hide hmap
  clear hmap
  go_wp2
  go_loopw [46] (fun i wr => ∃ a : Nat, a ≤ n ∧ i = .int .i64 a ∧ Blk wr w4.heap.size 3 ((ontoU n f a).map (Value.int .i64)) ∧ Below w4.heap.size w4 wr) (fun i _ => n - (intOf i).toNat)
  case atStart => exact ⟨0, Nat.zero_le _, rfl, hM5, hb5⟩
  case round =>
    obtain ⟨a, ha, rfl, hMa, hBa⟩ := hrel
    clear hM5 hb5
    by_cases hlt : a < n
    · have hai : (a : Int) < (n : Int) := by omega
      have hlk := look_int (HMP.out.kept (below_grown hBa none) (by simp)) (show a < 60 by omega) (HAT.out D hML a hlt)
      have hMc := hMa.int (y := a) (by rw [ontoU_len]; exact hlt)
      have hMf := hMa.frozen a
      have hM6 := hMa.setInt a (num n f a : Int)
      rw [← ontoU_set] at hM6
      have hB6 := hBa.setCell (p := ⟨w4.heap.size, a, none⟩) (Nat.le_refl _) (.int .i64 (num n f a : Int))
      go_wp2
      go_roundw
      case rel => exact ⟨a + 1, by omega, by go_num, hM6, hB6⟩
      case measure => simp [intOf]; omega
    · have hai : ¬ (a : Int) < (n : Int) := by omega
      have han : a = n := by omega
      rw [han, ontoU_all] at hMa
      clear han
      have hXr := blk_below hX4 hBa
      have hGr := blk_below hG4 hBa
      have hRr := blk_below hR4 hBa
      have hBr := bcat2 hBw4 hBa
      obtain ⟨k0, k1, _, _⟩ := hXr.two
      go_wp2_with fail
      clear k0 k1
      refine (HGR.out wr _ _ _ D hBr (hr4.below hBa) (HMP.out.kept (below_grown hBa none) (by simp)) hML).mono ?_
      rintro x w6 ⟨r, rfl, hrow, hb6⟩
      obtain ⟨T, hTe⟩ : ∃ T, T = mkT K (quoF n zs f) := ⟨_, rfl⟩
      rw [← hTe] at hrow
      have HTE := hide hTe
      clear hTe
      obtain ⟨rx, rcap, rfl⟩ := own_slice hrow
      have hMl := hMa.lt
      have hRl := hRr.lt
      have hGl := hGr.lt
      have hG6 := blk_below hGr hb6
      have hR6 := blk_below hRr hb6
      have hM6 := blk_below hMa hb6
      have hB6 := bcat2 hBr hb6
      obtain ⟨g0, g1, fg0, fg1⟩ := hG6.two
      have hG7 := (hG6.set 0 (.int .i64 K)).set 1 (.slice rx T.length rcap)
      have hR7 := (hR6.other (p := ⟨w.heap.size + 1, 0, none⟩) (by simp) (.int .i64 K)).other (p := ⟨w.heap.size + 1, 1, none⟩) (by simp) (.slice rx T.length rcap)
      have hMne : w4.heap.size ≠ w.heap.size + 1 := by have := hG4.lt; omega
      have hM7 := (hM6.other (p := ⟨w.heap.size + 1, 0, none⟩) (by simpa using hMne) (.int .i64 K)).other (p := ⟨w.heap.size + 1, 1, none⟩) (by simpa using hMne) (.slice rx T.length rcap)
      have hB7 := (hB6.setCell (p := ⟨w.heap.size + 1, 0, none⟩) (by simp) (.int .i64 K)).setCell (p := ⟨w.heap.size + 1, 1, none⟩) (by simp) (.slice rx T.length rcap)
      have hrow7 := row_keep (W' := (w6.setCell ⟨w.heap.size + 1, 0, none⟩ (.int .i64 K)).setCell ⟨w.heap.size + 1, 1, none⟩ (.slice rx T.length rcap)) hrow (fun g h1 _ => (Below.heap_setCell _ _ _ g (by simp; omega)).trans (Below.heap_setCell _ _ _ g (by simp; omega)))
      obtain ⟨y0, y1, fy0, fy1⟩ := hR7.two
      obtain ⟨s0, s1⟩ := hR7.self
      obtain ⟨v0, v1, fv0, fv1⟩ := hR6.two
      obtain ⟨z0, z1, _, _⟩ := hG7.two
      have hse := slF_blk hM7 (ontoL_len n f).symm (by rw [ontoL_len]; omega) hBw4.size
      go_wp2
      exact bodyPost_ret (v := .tuple #[.agg #[.int .i64 K, .slice rx T.length rcap], .slice (some ⟨w4.heap.size, 0, none⟩) n n, .agg #[.int .i64 0, .int .i64 0]]) (by simp [results, Tryd.results36, go_sem, z0, z1, y0, y1]) rfl ⟨_, _, _, _, _, _, rfl, by rw [← HTE.out]; exact slF_row hrow7 hBr.size (by rw [HTE.out, mkT_len]; have := HNL.out e hg.elt; exact Nat.mul_pos (by omega) (by omega)), hse, hB7⟩
end Go.Proofs.YtodabkjadejekaaDoor

namespace Go.Proofs.YtodabkjadejekaaDoor
open Go Go.RowKit

theorem all_lst (n : Nat) : lst n (fun _ => true) = List.range n := by unfold lst; simp
theorem all_pset (n : Nat) : lst n (pset (li (List.range n))) = List.range n := by
  have := lst_pset n (fun _ => true)
  rwa [all_lst] at this
section
variable {n e : Nat} {zs : List Int} {p : Nat → Bool}
theorem der_sub (g : IsGrp n zs e) (hp : ∀ a, a < n → (p a = true ↔ Mkd n zs e (cmq n zs e (List.range n) (List.range n)) a)) : subT n zs e (pset (li (lst n p))) = true :=
  sg_test g (Fin.Gen.sg _) hp
theorem der_nrm (g : IsGrp n zs e) (hp : ∀ a, a < n → (p a = true ↔ Mkd n zs e (cmq n zs e (List.range n) (List.range n)) a)) : nrmq n zs e (pset (li (lst n p))) = true :=
  nm_test g (Fin.der_nm (grp_fg g) (grp_iv g)) (fun a ha => (hp a ha).trans (cms_iff a))
/-- The quotient by the commutators commutes. -/
theorem der_com (g : IsGrp n zs e) (hp : ∀ a, a < n → (p a = true ↔ Mkd n zs e (cmq n zs e (List.range n) (List.range n)) a)) :
    comB (fsts n (rgtq n zs (lst n (pset (li (lst n p))))) n).length (mkT (fsts n (rgtq n zs (lst n (pset (li (lst n p))))) n).length (quoF n zs (rgtq n zs (lst n (pset (li (lst n p))))))) = true := by
  have hs := der_sub g hp
  have hN := der_nrm g hp
  have PP := rgt_parts g hs
  rw [comB_iff]
  intro i j hi hj
  rw [tm_mk hi hj, tm_mk hj hi]
  have ha := fst_lt hi
  have hb := fst_lt hj
  have ea := prts_num_at PP hi
  have eb := prts_num_at PP hj
  generalize (fsts n (rgtq n zs (lst n (pset (li (lst n p))))) n)[i] = a at *
  generalize (fsts n (rgtq n zs (lst n (pset (li (lst n p))))) n)[j] = b at *
  rw [← ea, ← eb, quo_hom g hs hN ha hb, quo_hom g hs hN hb ha]
  have hab := tm_lt g.tab ha hb
  have hba := tm_lt g.tab hb ha
  have hc := List.mem_range.1 (Fin.cm_mem (grp_fg g) (grp_iv g) (List.mem_range.2 ha) (List.mem_range.2 hb))
  have hce := Fin.cm_eq (grp_fg g) (grp_iv g) (List.mem_range.2 ha) (List.mem_range.2 hb)
  have hcp : Fin.cm (tm n zs) (iv n zs e) a b ∈ lst n (pset (li (lst n p))) := by
    rw [lst_pset, mem_lst]
    refine ⟨hc, (hp _ hc).2 ((cms_iff _).2 (Fin.Gen.base (List.mem_range.2 hc) ⟨a, b, List.mem_range.2 ha, List.mem_range.2 hb, rfl⟩))⟩
  generalize Fin.cm (tm n zs) (iv n zs e) a b = c at *
  have h1 : rgtq n zs (lst n (pset (li (lst n p)))) e c = true := mem_rgt.2 ⟨c, hcp, g.right c hc⟩
  have h2 := rgt_both g hs hN hba g.elt hba hc (PP.refl _ hba) h1
  rw [g.right _ hba, hce] at h2
  exact ((prts_num_eq PP hba hab).2 h2).symm
end
set_option maxRecDepth 100000 in
set_option maxHeartbeats 4000000 in
theorem abel_bad (N : Int) (v : Value) (zs : List Int) (w : World) (hv : Sl w v zs) (hc : (gfault N zs).1 ≠ 0) :
    Calls Tryd.prog 47 #[.agg #[.int .i64 N, v]] w fun x w' => x = .returned (.tuple #[.agg #[.int .i64 0, .slice none 0 0], .slice none 0 0, .agg #[.int .i64 (gfault N zs).1, .int .i64 (gfault N zs).2]]) ∧ Below w.heap.size w w' := by
  obtain ⟨w0, BG⟩ := BegQ.new w N v
  have HCK := hide (opened_bad N v zs w0 (hv.below BG.bel) hc)
  obtain ⟨c0, c1, _, _⟩ := BG.box.two
  obtain ⟨c, i, hci⟩ : ∃ c i, gfault N zs = (c, i) := ⟨_, _, rfl⟩
  rw [hci] at HCK hc ⊢
  simp only at HCK hc ⊢
  clear hci
  have hcb : (c != 0) = true := by simpa using hc
  rw [BG.eq] at c0 c1
  go_enter Tryd.func47, Tryd.ntmps47
  go_wp2_with fail
  rw [← BG.eq]
  clear c0 c1
  refine HCK.out.mono ?_
  rintro x w1 ⟨rfl, hb1⟩
  obtain ⟨w2, hw2⟩ : ∃ w2, w2 = (w1.alloc (.cells #[.int .i64 0, .slice none 0 0, .int .i64 0, .slice none 0 0] 65)).alloc (.cells #[.int .i64 c, .int .i64 i] 28) := ⟨_, rfl⟩
  have hB1 : Below w0.heap.size w0 w2 := by rw [hw2]; exact bcat2 hb1 ((balloc w1 _).alloc (by simp) _)
  have hF1 : Blk w2 (w1.heap.size + 1) 28 [.int .i64 c, .int .i64 i] := by
    rw [hw2]
    have := blk0 (w := w1.alloc (.cells #[.int .i64 0, .slice none 0 0, .int .i64 0, .slice none 0 0] 65)) (T := 28) (.int .i64 c) (.int .i64 i)
    rwa [World.size_alloc] at this
  have hR1 := blk_below BG.res hB1
  have hBw := bcat BG.bel hB1 BG.bel.size
  obtain ⟨y0, y1, fy0, fy1⟩ := hR1.two
  obtain ⟨t0, t1, _, _⟩ := hF1.two
  have hG2 := blk_below BG.grp hB1
  obtain ⟨g0, g1, fg0, fg1⟩ := hG2.two
  obtain ⟨s0, s1⟩ := hG2.self
  obtain ⟨hR6, hB6⟩ := put2 hR1 hBw (by omega) c i
  have hG6 := (hG2.other (p := ⟨w.heap.size + 1 + 1, 0, none⟩) (by simp) (.int .i64 c)).other (p := ⟨w.heap.size + 1 + 1, 1, none⟩) (by simp) (.int .i64 i)
  obtain ⟨g2, g3, fg2, fg3⟩ := hG6.two
  obtain ⟨s2, s3⟩ := hG6.self
  have hB7 := bdrew hB6
  rw [hw2] at t0 t1
  go_wp2_with fail
  rw [← hw2] at t0 t1 ⊢
  clear hw2
  go_region
  all_goals (
    go_wp2
    obtain ⟨z0, z1, _, _⟩ := hR6.two
    exact bodyPost_ret (v := .tuple #[.agg #[.int .i64 0, .slice none 0 0], .slice none 0 0, .agg #[.int .i64 c, .int .i64 i]]) (by simp [results, Tryd.results47, go_sem, z0, z1, g2, g3]) rfl ⟨rfl, hB7⟩)

set_option maxRecDepth 100000 in
set_option maxHeartbeats 8000000 in
theorem abel_good (n e : Nat) (v : Value) (zs : List Int) (p : Nat → Bool) (w : World) (hv : Sl w v zs) (hg : IsGrp n zs e) (hT : Tab w) (hp : ∀ a, a < n → (p a = true ↔ Mkd n zs e (cmq n zs e (List.range n) (List.range n)) a)) :
    Calls Tryd.prog 47 #[.agg #[.int .i64 n, v]] w fun x w' => ∃ r1 r2 r3 s1 s2 s3, x = .returned (.tuple #[.agg #[.int .i64 (fsts n (rgtq n zs (lst n (pset (li (lst n p))))) n).length, .slice r1 r2 r3], .slice s1 s2 s3, .agg #[.int .i64 0, .int .i64 0]]) ∧ Sl w' (.slice r1 r2 r3) (mkT (fsts n (rgtq n zs (lst n (pset (li (lst n p))))) n).length (quoF n zs (rgtq n zs (lst n (pset (li (lst n p))))))) ∧ Sl w' (.slice s1 s2 s3) (ontoL n (rgtq n zs (lst n (pset (li (lst n p)))))) ∧ Below w.heap.size w w' := by
  obtain ⟨va, vl, vc, rfl⟩ := hv.isSlice
  have hn := hg.tab.le
  obtain ⟨w0, BG⟩ := BegQ.new w n (.slice va vl vc)
  have HCK := hide (opened_good n e (.slice va vl vc) zs w0 (hv.below BG.bel) hg)
  have hlf := lst_fault n (fun _ => true)
  rw [all_lst] at hlf
  have HCM := hide (fun W u (h : Below w.heap.size w W) (hu : Sl W u (li (List.range n))) => comm_good n e (.slice va vl vc) u u zs (li (List.range n)) (li (List.range n)) p W (hv.below h) hg hu (hT.below h) hlf hu hlf (by rw [all_pset]; exact hp))
  have HLS := hide (fun W (h : Below w.heap.size w W) => list_ok n (fun _ => true) W hn (hT.below h))
  rw [all_lst] at HLS
  have HQ := hide (fun W u (h : Below w.heap.size w W) (hu : Sl W u (li (lst n p))) => quo_goodF n e (.slice va vl vc) u zs (li (lst n p)) W (hv.below h) hg hu (hT.below h) (lst_fault n p) (der_sub hg hp) (der_nrm hg hp))
  obtain ⟨K, hK⟩ : ∃ K, K = (fsts n (rgtq n zs (lst n (pset (li (lst n p))))) n).length := ⟨_, rfl⟩
  rw [← hK] at HQ ⊢
  obtain ⟨T, hTT⟩ : ∃ T, T = mkT K (quoF n zs (rgtq n zs (lst n (pset (li (lst n p)))))) := ⟨_, rfl⟩
  rw [← hTT] at HQ ⊢
  obtain ⟨M, hMM⟩ : ∃ M, M = ontoL n (rgtq n zs (lst n (pset (li (lst n p))))) := ⟨_, rfl⟩
  rw [← hMM] at HQ ⊢
  clear hK hTT hMM hp hlf
  obtain ⟨c0, c1, _, _⟩ := BG.box.two
  rw [BG.eq] at c0 c1
  go_enter Tryd.func47, Tryd.ntmps47
  go_wp2_with fail
  rw [← BG.eq]
  clear c0 c1
  refine HCK.out.mono ?_
  rintro x w1 ⟨iv9, rfl, hSI, hb1⟩
  obtain ⟨ia, il, ic, rfl⟩ := hSI.sl.isSlice
  obtain ⟨w2, hw2⟩ : ∃ w2, w2 = (w1.alloc (.cells #[.int .i64 n, (.slice va vl vc), .int .i64 e, (.slice ia il ic)] 65)).alloc (.cells #[.int .i64 0, .int .i64 0] 28) := ⟨_, rfl⟩
  have hb2 : Below w1.heap.size w1 w2 := by rw [hw2]; exact (balloc w1 _).alloc (by simp) _
  have hB1 : Below w0.heap.size w0 w2 := bcat2 hb1 hb2
  have hF2 : Blk w2 (w1.heap.size + 1) 28 [.int .i64 0, .int .i64 0] := by
    rw [hw2]
    have := blk0 (w := w1.alloc (.cells #[.int .i64 n, (.slice va vl vc), .int .i64 e, (.slice ia il ic)] 65)) (T := 28) (.int .i64 0) (.int .i64 0)
    rwa [World.size_alloc] at this
  have hH2 : Blk w2 w1.heap.size 65 [.int .i64 n, (.slice va vl vc), .int .i64 e, (.slice ia il ic)] := by
    rw [hw2]; exact (blk4 _ _ _ _).alloc _
  have hBw2 := bcat BG.bel hB1 BG.bel.size
  have hR2 := blk_below BG.res hB1
  have hG2 := blk_below BG.grp hB1
  have hX2 := blk_below BG.box hB1
  obtain ⟨t0, t1, _, _⟩ := hF2.two
  obtain ⟨_, h0, h1, h2, h3, _⟩ := Four.mk' hH2
  rw [hw2] at t0 t1 h0 h1 h2 h3
  go_wp2_with fail
  rw [← hw2]
  clear hw2 t0 t1 h0 h1 h2 h3
  refine (all_ok n _ _ e _ hn).mono ?_
  rintro x w3 ⟨rfl, hb3⟩
  have hBw3 := bcat2 hBw2 hb3
  go_wp2_with fail
  refine (HLS.out _ hBw3).mono ?_
  rintro x w4 ⟨r, rfl, hr, hb4⟩
  have hrs := hr.sl
  obtain ⟨ra, rl, rc, rfl⟩ := hrs.isSlice
  have hb24 := bcat2 hb3 hb4
  have hBw4 := bcat2 hBw2 hb24
  have hX4 := blk_below hX2 hb24
  obtain ⟨g0, g1, _, _⟩ := hX4.two
  go_wp2_with fail
  clear g0 g1
  refine (HCM.out _ _ hBw4 hrs).mono ?_
  rintro x w5 ⟨d, rfl, hd, hb5⟩
  have hds := hd.sl
  obtain ⟨da, dl, dc, rfl⟩ := hds.isSlice
  have hb25 := bcat2 hb24 hb5
  have hBw5 := bcat2 hBw2 hb25
  have hX5 := blk_below hX2 hb25
  have hF5 := blk_below hF2 hb25
  obtain ⟨g0, g1, _, _⟩ := hX5.two
  obtain ⟨t0, t1, ft0, ft1⟩ := hF5.two
  obtain ⟨s0, s1⟩ := hF5.self
  go_wp2_with fail
  clear g0 g1 t0 t1 ft0 ft1 s0 s1
  refine (HQ.out _ _ hBw5 hds).mono ?_
  rintro x w6 ⟨r1, r2, r3, e1, e2, e3, rfl, hq, hm, hb6⟩
  have hb26 := bcat2 hb25 hb6
  have hG6 := blk_below hG2 hb26
  have hR6 := blk_below hR2 hb26
  have hB6 := bcat2 hBw2 hb26
  obtain ⟨g0, g1, fg0, fg1⟩ := hG6.two
  have hG7 := (hG6.set 0 (.int .i64 K)).set 1 (.slice r1 r2 r3)
  have hR7 := (hR6.other (p := ⟨w.heap.size + 1, 0, none⟩) (by simp) (.int .i64 K)).other (p := ⟨w.heap.size + 1, 1, none⟩) (by simp) (.slice r1 r2 r3)
  have hB7 := (hB6.setCell (p := ⟨w.heap.size + 1, 0, none⟩) (by simp) (.int .i64 K)).setCell (p := ⟨w.heap.size + 1, 1, none⟩) (by simp) (.slice r1 r2 r3)
  have hGl := hG2.lt
  have hw25 := hb25.size
  have hs7 : w6.heap.size ≤ ((w6.setCell ⟨w.heap.size + 1, 0, none⟩ (.int .i64 K)).setCell ⟨w.heap.size + 1, 1, none⟩ (.slice r1 r2 r3)).heap.size := by rw [size_set, size_set]; exact Nat.le_refl _
  have hk7 : ∀ g, w5.heap.size ≤ g → g < w6.heap.size → ((w6.setCell ⟨w.heap.size + 1, 0, none⟩ (.int .i64 K)).setCell ⟨w.heap.size + 1, 1, none⟩ (.slice r1 r2 r3)).heap[g]? = w6.heap[g]? := fun g h1 _ => (Below.heap_setCell _ _ _ g (by simp; omega)).trans (Below.heap_setCell _ _ _ g (by simp; omega))
  have hq7 := slF_keep hq hs7 hk7
  have hm7 := slF_keep hm hs7 hk7
  obtain ⟨y0, y1, fy0, fy1⟩ := hR7.two
  obtain ⟨s0, s1⟩ := hR7.self
  obtain ⟨v0, v1, fv0, fv1⟩ := hR6.two
  obtain ⟨z0, z1, _, _⟩ := hG7.two
  clear hs7 hk7 hw25 hGl
  go_wp2
  exact bodyPost_ret (v := .tuple #[.agg #[.int .i64 K, .slice r1 r2 r3], .slice e1 e2 e3, .agg #[.int .i64 0, .int .i64 0]]) (by simp [results, Tryd.results47, go_sem, z0, z1, y0, y1]) rfl ⟨_, _, _, _, _, _, rfl, hq7, hm7, hB7⟩
end Go.Proofs.YtodabkjadejekaaDoor
