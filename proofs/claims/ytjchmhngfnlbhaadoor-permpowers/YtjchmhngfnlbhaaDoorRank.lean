/- What perm.Rank answers at a permutation of at most 100 points: its rank in decimal; conditions: what Decimal answers at that number, the library's table of powers of ten as the program lays it. -/
import Derived.Test.YtjchmhngfnlbhaaDoorDec
import Derived.Deep.RegionWith
import Derived.Deep.DeepMust
namespace Go.Proofs.YtjchmhngfnlbhaaDoor
open Go Go.RowKit Go.Sort

/-- The rank, place by place. -/
def rk (zs : List Int) : Nat → Nat
  | 0 => 0
  | k + 1 => rk zs k * (zs.length - k) + lb zs k
theorem lb_le (zs : List Int) (i : Nat) : lb zs i ≤ zs.length := Nat.le_trans (List.length_filter_le _ _) (by simp)
theorem Tab.mono {B B' : Nat} {w : World} (h : Tab B w) (hb : B ≤ B') : Tab B' w := by
  obtain ⟨h1, g, hg, hB⟩ := h
  exact ⟨h1, g, hg, by omega⟩

set_option maxRecDepth 100000 in
set_option maxHeartbeats 4000000 in
theorem rank_ok (a : Option Addr) (cap pb po : Nat) (zs : List Int) (w : World) (hr : Reads w a pb po zs) (hp : pb < w.heap.size) (hf : fault zs = (0, 0)) (h100 : zs.length ≤ 100) (hcap : zs.length ≤ cap) (hcm : cap ≤ maxLen)
    (htab : Tab w.heap.size w) (hdec : DecSpec (rk zs zs.length)) :
    Calls Tryd.prog 29 #[.slice a zs.length cap] w fun e w' => e = .returned (.tuple #[.string ⟨(Lib.decDigits (rk zs zs.length)).toArray⟩, .agg #[.int .i64 0, .int .i64 0]]) ∧ Below w.heap.size w w' := by
  have h100' : (zs.length : Int) ≤ 100 := by omega
  have hd100 : decide (100 < (zs.length : Int)) = false := by simp; omega
  go_enter Tryd.func29, Tryd.ntmps29
  go_wp2_with fail
  refine (check_any a cap pb po zs _ (hr.of_eq (Below.heap_alloc _ _ _ hp)) (by simp; omega) (by unfold maxLen; omega)).mono ?_
  rintro e w1 ⟨rfl, hb1⟩
  rw [hf]
  have HF := hide hf
  clear hf
  go_wp2_with fail
  refine (of_any 0 _ (by omega)).mono ?_
  rintro e w2 ⟨v, qs, rfl, ho2, hs2, hla2, hv2, hq2, hb2⟩
  obtain ⟨a2, g2, cap2, rfl, _, _, _, _⟩ := UReads.of_own ho2
  have hsw : w.heap.size + 1 ≤ w1.heap.size := by have := hb1.size; simpa using this
  have hs12 : w1.heap.size + 1 ≤ w2.heap.size := by have := hb2.size; simpa using this
  have hB2 : Below w.heap.size w w2 := (((Below.refl _ w).alloc (Nat.le_refl _) _).trans (hb1.mono (by simp))).trans (((Below.refl _ w1).alloc (Nat.le_refl _) _ |>.mono (show w.heap.size ≤ w1.heap.size by omega)).trans (hb2.mono (by simp; omega)))
  have hR2 : Blk w2 w.heap.size 26 [.int .i64 0, .int .i64 0] := by
    have h1 : Blk w1 w.heap.size 26 [.int .i64 0, .int .i64 0] := (hb1.block w.heap.size (by simp)).trans (World.alloc_heap_new w _)
    exact (h1.alloc _).of_eq (hb2.block _ (by simp; omega))
  have hge2 := owns_ge ho2
  have HX := hide (And.intro ho2 (And.intro hs2 (And.intro hla2 (And.intro hv2 hq2))))
  have HG2 := hide hge2
  have hrb : Blk (w2.alloc (.cells #[.slice a2 qs.length cap2] 75)) w2.heap.size 75 [.slice a2 qs.length cap2] := World.alloc_heap_new w2 _
  have hR3 := hR2.alloc (.cells #[.slice a2 qs.length cap2] 75)
  have hB3 := hB2.alloc (by omega) (.cells #[.slice a2 qs.length cap2] 75)
  clear ho2 hs2 hla2 hv2 hq2 hb2 hb1 hR2 hB2 hge2
  go_wp2_with fail
  go_loopw [20] (fun i wr => ∃ (k : Nat) (qs : List Nat) (a2 : Option Addr) (cap2 : Nat), k ≤ zs.length ∧ i = .int .i64 k ∧ wr.ownsRow w.heap.size 77 1 (.slice a2 qs.length cap2) qs.length (us qs) ∧ (∀ q, q ∈ qs → q < 1000000000) ∧ qs.getLast? ≠ some 0 ∧
      val qs = rk zs k ∧ qs.length ≤ 2 + 2 * k ∧ Blk wr w2.heap.size 75 [.slice a2 qs.length cap2] ∧ Blk wr w.heap.size 26 [.int .i64 0, .int .i64 0] ∧ Below w.heap.size w wr)
    (fun i _ => zs.length - (intOf i).toNat)
  case atStart =>
    obtain ⟨x1, x2, x3, x4, x5⟩ := HX.out
    exact ⟨0, qs, a2, cap2, Nat.zero_le _, rfl, owns_mono (x1.alloc _) (by simp; omega), x2, x3, x4, by omega, hrb, hR3, hB3⟩
  case round =>
    clear hrb hR3 hB3 HX HG2
    obtain ⟨k, qs, a2, cap2, hk, rfl, ho, hs, hla, hv, hq, hrb, hRr, hB⟩ := hrel
    have hcb := hrb.cell 0
    have hcf := hrb.frozen 0
    have hrr : Reads wr a pb po zs := hr.below hB hp
    have hlbl := lb_le zs k
    by_cases hlt : k < zs.length
    · obtain ⟨m, hm⟩ : ∃ m, m = zs.length - k := ⟨_, rfl⟩
      have hrk : rk zs (k + 1) = val qs * m + lb zs k := by rw [rk, hv, hm]
      have HRK := hide hrk
      have hm1 : m ≤ 100 := by omega
      have hw1 : IntKind.i64.wrap ((zs.length : Int) - (k : Int)) = (m : Int) := by rw [IntKind.wrap_i64]; omega
      have hw2 : IntKind.u64.wrap (m : Int) = (m : Int) := by simp [IntKind.wrap, IntKind.bits, IntKind.signed]; omega
      have HM := hide hm
      clear hm hrk hv
      go_wp2_with fail
      go_region_with (first
        | (go_at_call 60; go_must (refine (lessBehind_any a cap pb po k zs _ (by exact hrr.of_eq rfl) hlt (by omega) hcap hcm).mono ?_; rintro e w' ⟨rfl, rfl⟩))
        | (go_at_call 53; go_must (refine (timesPlus_any w.heap.size _ qs m (lb zs k) _ (by exact ho) hs (by omega) (by omega) (by omega)).mono ?_; rintro e w' ⟨v', qs', rfl, ho', hs', hla', hv', hq', hb'⟩; obtain ⟨a3, g3, cap3, rfl, _, _, _, _⟩ := UReads.of_own ho'; have hrb' : Blk w' w2.heap.size 75 [.slice a2 qs.length cap2] := hrb.of_eq (hb'.block _ hrb.lt); have hc' := hrb'.cell 0; have hf' := hrb'.frozen 0; have HX' := hide (And.intro ho' (And.intro hs' (And.intro hla' (And.intro hv' (And.intro hq' hb'))))); clear ho' hs' hla' hv' hq' hb')))
      all_goals go_wp2
      all_goals
        obtain ⟨x1, x2, x3, x4, x5, x6⟩ := HX'.out
        go_roundw
        case rel =>
          have hlt9 := hrb.lt
          have hge9 := owns_ge x1
          have hz9 : w.heap.size ≤ wr.heap.size := hB.size
          refine ⟨k + 1, qs', a3, cap3, by omega, by go_num, ?_, x2, x3, by rw [HRK.out]; exact x4, by omega, ?_, ?_, ?_⟩
          · exact owns_mono (x1.kept (gb_set w' w2.heap.size 0 _) (.inr (fun e => by have : wr.heap.size ≤ w2.heap.size := hge9 _ e; omega))) hz9
          · exact hrb'.set 0 _
          · exact (hRr.of_eq (x6.block _ hRr.lt)).other (by simp; omega) _
          · exact (hB.drew.trans (x6.mono hz9)).setCell (p := ⟨w2.heap.size, 0, none⟩) (by simp; omega) _
        case measure => simp [intOf]; omega
    · have hkk : k = zs.length := by omega
      subst hkk
      have htb : Tab wr.heap.size wr := (htab.below hB).mono hB.size
      have HV := hide hv
      clear hv
      go_wp2_with fail
      refine (hdec w.heap.size _ qs wr ho hs hla HV.out htb).mono ?_
      rintro e w5 ⟨rfl, hb5⟩
      have hR5 : Blk w5 w.heap.size 26 [.int .i64 0, .int .i64 0] := hRr.of_eq (hb5.block _ hRr.lt)
      have hc50 : w5.cell? ⟨w.heap.size, 0, none⟩ = some (.int .i64 0) := hR5.cell 0
      have hc51 : w5.cell? ⟨w.heap.size, 1, none⟩ = some (.int .i64 0) := hR5.cell 1
      have hf50 := hR5.frozen 0
      have hf51 := hR5.frozen 1
      have hB5 := hB.trans (hb5.mono hB.size)
      go_wp2
      refine bodyPost_ret (v := .tuple #[.string ⟨(Lib.decDigits (rk zs zs.length)).toArray⟩, .agg #[.int .i64 0, .int .i64 0]]) (by simp [results, Tryd.results29, go_sem, hc50, hc51]) rfl ⟨rfl, ?_⟩
      exact (hB5.setCell (p := ⟨w.heap.size, 0, none⟩) (Nat.le_refl _) _).setCell (p := ⟨w.heap.size, 1, none⟩) (Nat.le_refl _) _
end Go.Proofs.YtjchmhngfnlbhaaDoor
