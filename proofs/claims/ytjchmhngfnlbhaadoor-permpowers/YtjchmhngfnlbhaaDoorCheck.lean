/- What perm.Check answers: for every list of ints that can be read, the fault that the plain function 'fault' tells; nothing that lay has turned. -/
import Derived.Test.YtjchmhngfnlbhaaDoorMath
import Derived.Test.YtjchmhngfnlbhaaDoorKit
import Derived.Test.YtjchmhngfnlbhaaDoorProg
import Derived.WalkKit
namespace Go.Proofs.YtjchmhngfnlbhaaDoor
open Go Go.RowKit

theorem info4 : (Tryd.prog.info? 4).map (fun i => (i.zero, i.size, i.bytes)) = some (some (.bool false), 1, 1) := by kernel_rfl
theorem under66 : Tryd.prog.underlying 90 = some (.slice 4) := by kernel_rfl

/-- A slice value whose elements, as many as zs, are zs: they lie in block pb from po on. -/
structure Reads (w : World) (a : Option Addr) (pb po : Nat) (zs : List Int) : Prop where
  at_ : 0 < zs.length → a = some ⟨pb, po, none⟩
  cell : ∀ j, j < zs.length → w.cell? ⟨pb, po + j, none⟩ = some (.int .i64 (zs[j]?.getD 0))

theorem Reads.of_eq {w w' : World} {a : Option Addr} {pb po : Nat} {zs : List Int} (h : Reads w a pb po zs) (hb : w'.heap[pb]? = w.heap[pb]?) : Reads w' a pb po zs :=
  ⟨h.at_, fun j hj => (World.cell?_of_block (a := ⟨pb, po + j, none⟩) hb).trans (h.cell j hj)⟩
theorem Reads.below {B : Nat} {w w' : World} {a : Option Addr} {pb po : Nat} {zs : List Int} (h : Reads w a pb po zs) (hb : Below B w w') (hp : pb < B) : Reads w' a pb po zs := h.of_eq (hb.block pb hp)
theorem Reads.lt {w : World} {a : Option Addr} {pb po : Nat} {zs : List Int} (h : Reads w a pb po zs) (h0 : 0 < zs.length) : pb < w.heap.size :=
  World.block_lt_of_cell? w ⟨pb, po + 0, none⟩ (h.cell 0 h0)

set_option maxRecDepth 100000 in
set_option maxHeartbeats 1000000 in
theorem check_any (a : Option Addr) (cap pb po : Nat) (zs : List Int) (w : World) (hr : Reads w a pb po zs) (hp : pb < w.heap.size) (hl : zs.length ≤ maxLen) :
    Calls Tryd.prog 40 #[.slice a zs.length cap] w fun e w' => e = .returned (.agg #[.int .i64 (fault zs).1, .int .i64 (fault zs).2]) ∧ Below w.heap.size w w' := by
  unfold maxLen at hl
  obtain ⟨i0, hi, hz0, hz1, hz2⟩ := info_parts info4
  by_cases hbig : 1000 < zs.length
  · have hb1 : (1000 : Int) < (zs.length : Int) := by omega
    have hf : fault zs = (2, 0) := by unfold fault; rw [if_pos hbig]
    go_enter Tryd.func40, Tryd.ntmps40
    go_wp2
    exact bodyPost_ret (v := .agg #[.int .i64 2, .int .i64 0]) (by simp [results, Tryd.results40, go_sem]) rfl ⟨by rw [hf], (Below.refl _ _).alloc (Nat.le_refl _) _⟩
  · have hb1 : (zs.length : Int) ≤ 1000 := by omega
    have hf : fault zs = pf zs zs.length 0 := by unfold fault; rw [if_neg hbig]
    go_enter Tryd.func40, Tryd.ntmps40
    go_wp2_with (first
      | (at_make; refine wpList_make_full _ rfl _ _ 90 rfl (w.heap.size + 1) 4 i0 (.bool false) 1 under66 hi hz0 hz1 _ _ _ _ zs.length rfl rfl rfl rfl (by rw [hz2]; omega) (by unfold maxLen; omega) (by simp) ?_))
    intro w1 hown hg
    have hS : Blk w1 (w.heap.size + 1) 4 ((seenUpto zs 0).map Value.bool) := by
      have := Blk.of_owns hown
      rw [made_rep] at this
      rw [seenUpto_zero, List.map_replicate]; exact this
    have hR : Blk w1 w.heap.size 26 [.int .i64 0, .int .i64 0] := by
      refine (hg.block w.heap.size (by simp) (by simp)).trans ?_
      exact World.alloc_heap_new w _
    have hB : Below w.heap.size w w1 := ((Below.refl _ w).alloc (Nat.le_refl _) _).grown hg (by simp) (by simp)
    clear hown hg
    go_wp2
    go_loopw [15] (fun i wr => ∃ k : Nat, k ≤ zs.length ∧ i = .int .i64 k ∧ Blk wr (w.heap.size + 1) 4 ((seenUpto zs k).map Value.bool) ∧ Blk wr w.heap.size 26 [.int .i64 0, .int .i64 0] ∧ Below w.heap.size w wr ∧ pf zs (zs.length - k) k = pf zs zs.length 0)
      (fun i _ => zs.length - (intOf i).toNat)
    case atStart => exact ⟨0, Nat.zero_le _, rfl, hS, hR, hB, rfl⟩
    case round =>
      obtain ⟨k, hk, rfl, hS1, hR1, hB1, hpf⟩ := hrel
      have HP : Hid (pf zs (zs.length - k) k = pf zs zs.length 0) := hpf
      have HF : Hid (fault zs = pf zs zs.length 0) := hf
      clear hpf hf hS hR hB
      have hsl := seenUpto_len zs k
      have hR0 : wr.cell? ⟨w.heap.size, 0, none⟩ = some (.int .i64 0) := hR1.cell 0
      have hRa : wr.cell? ⟨w.heap.size, 1, none⟩ = some (.int .i64 0) := hR1.cell 1
      have hF0 := hR1.frozen 0
      have hF1 := hR1.frozen 1
      by_cases hlt : k < zs.length
      · obtain rfl := hr.at_ (by omega)
        have hx : wr.cell? ⟨pb, po + k, none⟩ = some (.int .i64 (zs[k]?.getD 0)) := (hB1.cell (p := ⟨pb, po + k, none⟩) hp).trans (hr.cell k hlt)
        generalize hxe : zs[k]?.getD 0 = x at hx
        have HX : Hid (zs[k]?.getD 0 = x) := hxe
        clear hxe
        have hn : zs.length - k = (zs.length - (k + 1)) + 1 := by omega
        have HN : Hid (zs.length - k = (zs.length - (k + 1)) + 1) := hn
        clear hn
        by_cases h1 : x < 0
        · have hfin : fault zs = (3, (k : Int)) := by
            rw [HF.out, ← HP.out, HN.out, pf_range (by rw [HX.out]; exact .inl h1)]
          have HFIN : Hid (fault zs = (3, (k : Int))) := hfin
          clear hfin
          go_wp2
          refine bodyPost_ret (v := .agg #[.int .i64 3, .int .i64 k]) (by simp [results, Tryd.results40, go_sem, hR0, hRa]) rfl ⟨by rw [HFIN.out], ?_⟩
          exact (hB1.setCell (p := ⟨w.heap.size, 0, none⟩) (Nat.le_refl _) _).setCell (p := ⟨w.heap.size, 1, none⟩) (Nat.le_refl _) _
        · by_cases h2 : (zs.length : Int) ≤ x
          · have hfin : fault zs = (3, (k : Int)) := by
              rw [HF.out, ← HP.out, HN.out, pf_range (by rw [HX.out]; exact .inr h2)]
            have HFIN : Hid (fault zs = (3, (k : Int))) := hfin
            clear hfin
            go_wp2
            refine bodyPost_ret (v := .agg #[.int .i64 3, .int .i64 k]) (by simp [results, Tryd.results40, go_sem, hR0, hRa]) rfl ⟨by rw [HFIN.out], ?_⟩
            exact (hB1.setCell (p := ⟨w.heap.size, 0, none⟩) (Nat.le_refl _) _).setCell (p := ⟨w.heap.size, 1, none⟩) (Nat.le_refl _) _
          · have hin : ¬ (zs[k]?.getD 0 < 0 ∨ (zs.length : Int) ≤ zs[k]?.getD 0) := by rw [HX.out]; omega
            have HIN := hide hin
            clear hin
            obtain ⟨y, rfl⟩ := Int.eq_ofNat_of_zero_le (show 0 ≤ x by omega)
            have hs := hS1.bool (y := y) (by rw [hsl]; omega)
            have hsf := hS1.frozen y
            have hsg : (seenUpto zs k)[y]?.getD false = decide ((y : Int) ∈ zs.take k) := by
              have := seenUpto_get (zs := zs) (i := k) (x := (y : Int)) (by omega) (by omega)
              rwa [Int.toNat_natCast] at this
            by_cases h3 : (y : Int) ∈ zs.take k
            · rw [hsg, decide_eq_true h3] at hs
              have hfin : fault zs = (10, (k : Int)) := by
                rw [HF.out, ← HP.out, HN.out, pf_twice (unhide HIN) (by rw [HX.out]; exact h3)]
              have HFIN : Hid (fault zs = (10, (k : Int))) := hfin
              clear hfin hsg h3
              go_wp2
              refine bodyPost_ret (v := .agg #[.int .i64 10, .int .i64 k]) (by simp [results, Tryd.results40, go_sem, hR0, hRa]) rfl ⟨by rw [HFIN.out], ?_⟩
              exact (hB1.setCell (p := ⟨w.heap.size, 0, none⟩) (Nat.le_refl _) _).setCell (p := ⟨w.heap.size, 1, none⟩) (Nat.le_refl _) _
            · rw [hsg, decide_eq_false h3] at hs
              have hon : pf zs (zs.length - (k + 1)) (k + 1) = pf zs zs.length 0 := by
                rw [← HP.out, HN.out, pf_on (unhide HIN) (by rw [HX.out]; exact h3)]
              have HON : Hid (pf zs (zs.length - (k + 1)) (k + 1) = pf zs zs.length 0) := hon
              have hS2 := hS1.setBool y true
              rw [show (seenUpto zs k).set y true = seenUpto zs (k + 1) by
                have := seenUpto_succ hlt (by rw [HX.out]; omega)
                rwa [HX.out, Int.toNat_natCast] at this] at hS2
              have hR2 := hR1.other (p := ⟨w.heap.size + 1, y, none⟩) (by simp) (.bool true)
              clear hon hsg h3
              go_wp2
              go_roundw
              case rel => exact ⟨k + 1, by omega, by go_num, hS2, hR2, hB1.setCell (p := ⟨w.heap.size + 1, y, none⟩) (by simp) _, HON.out⟩
              case measure => simp [intOf]; omega
      · have hfin : fault zs = (0, 0) := by
          rw [HF.out, ← HP.out, show zs.length - k = 0 by omega]; rfl
        have HFIN : Hid (fault zs = (0, 0)) := hfin
        clear hfin
        go_wp2
        refine bodyPost_ret (v := .agg #[.int .i64 0, .int .i64 0]) (by simp [results, Tryd.results40, go_sem, hR0, hRa]) rfl ⟨by rw [HFIN.out], ?_⟩
        exact (hB1.setCell (p := ⟨w.heap.size, 0, none⟩) (Nat.le_refl _) _).setCell (p := ⟨w.heap.size, 1, none⟩) (Nat.le_refl _) _
end Go.Proofs.YtjchmhngfnlbhaaDoor
