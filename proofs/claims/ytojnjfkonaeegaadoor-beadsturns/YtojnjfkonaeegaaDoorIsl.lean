/- What the document's IsLyndon and the law's numberAs tell. -/
import Derived.Test.YtojnjfkonaeegaaDoorLss
namespace Go.Proofs.YtojnjfkonaeegaaDoor
open Go Go.RowKit

theorem trn_len (zs : List Int) (i : Nat) (h : i ≤ zs.length) : (trn zs i).length = zs.length := by
  unfold trn; simp; omega
/-- Less than all that it is turned to. -/
def Lyd (zs : List Int) : Prop := 0 < zs.length ∧ ∀ i, 0 < i → i < zs.length → Lss zs (trn zs i)

set_option maxRecDepth 100000 in
set_option maxHeartbeats 2000000 in
theorem isLyndon_ok (v : Value) (zs : List Int) (w : World) (hv : Sl w v zs) (hsm : zs.length ≤ 100000) (ly : Bool) (hly : ly = true ↔ Lyd zs) :
    Calls Tryd.prog 16 #[v] w fun e w' => e = .returned (.bool ly) ∧ Below w.heap.size w w' := by
  have HLY := hide hly
  clear hly
  obtain ⟨a, cap, pb, po, rfl, hr, hp, hc1, hm1⟩ := id hv
  have HV := hide hv
  clear hv
  unfold maxLen at hm1
  go_enter Tryd.func16, Tryd.ntmps16
  go_wp2
  go_loopw [3] (fun i wr => ∃ k : Nat, 1 ≤ k ∧ i = .int .i64 k ∧ Below w.heap.size w wr ∧ (∀ t, 0 < t → t < k → t < zs.length → Lss zs (trn zs t))) (fun i _ => zs.length + 1 - (intOf i).toNat)
  case atStart => exact ⟨1, by omega, rfl, Below.refl _ _, fun t h1 h2 => by omega⟩
  case round =>
    obtain ⟨k, hk, rfl, hB, hall⟩ := hrel
    have HA := hide hall
    clear hall
    by_cases hlt : k < zs.length
    · have hki : (k : Int) < (zs.length : Int) := by omega
      have hs1 := HV.out.below hB
      have HF := hide (from_ok _ zs k wr hs1 hlt hsm)
      go_wp2_with fail
      refine HF.out.mono ?_
      rintro e w2 ⟨r, rfl, hr2, hb2⟩
      obtain ⟨a2, c2, rfl⟩ := hr2.slice
      have hB2 := bcat hB hb2 hB.size
      have hs2 := HV.out.below hB2
      have hsr := hr2.sl hs2.pos
      have HL := hide (less_ok _ _ zs (trn zs k) w2 hs2 hsr (trn_len zs k (by omega)).symm)
      clear HF hr2 hb2 hs1
      go_wp2_with fail
      refine HL.out.mono ?_
      rintro e w3 ⟨⟨b, rfl, hb⟩, m, rfl⟩
      have hB3 := bdrewN hB2 m
      have HB := hide hb
      clear HL hb
      cases b with
      | true =>
        go_wp2
        go_roundw
        case rel => exact ⟨k + 1, by omega, by go_num, hB3, fun t h1 h2 h3 => by
          by_cases e : t = k
          · rw [e]; exact HB.out.1 (by trivial)
          · exact HA.out t h1 (by omega) h3⟩
        case measure => simp [intOf]; omega
      | false =>
        go_wp2
        go_ret
        refine ⟨?_, hB3⟩
        have hlf : ly = false := by
          cases ly with
          | false => rfl
          | true =>
            have h := (HLY.out.1 rfl).2 k (by omega) hlt
            have := HB.out.2 h
            cases this
        rw [hlf]; rfl
    · have hki : ¬ (k : Int) < (zs.length : Int) := by omega
      go_wp2
      go_ret
      refine ⟨?_, hB⟩
      have hle : ly = decide (0 < zs.length) := by
        rw [Bool.eq_iff_iff, decide_eq_true_eq, HLY.out]
        constructor
        · exact fun h => h.1
        · intro h; exact ⟨h, fun i h1 h2 => HA.out i h1 (by omega) h2⟩
      rw [hle]; rfl

set_option maxRecDepth 100000 in
set_option maxHeartbeats 8000000 in
theorem las_bad (k : Nat) (caps : Array Value) (c i : Int) (w : World) (hc : c ≠ 0) :
    Calls Tryd.prog 10 #[.int .i64 0, .agg #[.int .i64 c, .int .i64 i], .agg #[.int .i64 c, .int .i64 i], .func (.func k) #[] caps] w fun x w' => x = .returned (.bool true) ∧ Below w.heap.size w w' := by
  have hcb : (c != 0) = true := by simpa using hc
  have hF1 : Blk ((w.alloc (.cells #[.int .i64 c, .int .i64 i] 25)).alloc (.cells #[.int .i64 c, .int .i64 i] 25)) w.heap.size 25 [.int .i64 c, .int .i64 i] := (blk0 _ _).alloc _
  have hF2 := blk0 (w := w.alloc (.cells #[.int .i64 c, .int .i64 i] 25)) (T := 25) (.int .i64 c) (.int .i64 i)
  rw [World.size_alloc] at hF2
  have hb : Below w.heap.size w ((w.alloc (.cells #[.int .i64 c, .int .i64 i] 25)).alloc (.cells #[.int .i64 c, .int .i64 i] 25)) := (balloc w _).alloc (by simp) _
  obtain ⟨f0, f1, _, _⟩ := hF1.two
  obtain ⟨g0, g1, _, _⟩ := hF2.two
  go_enter Tryd.func10, Tryd.ntmps10
  go_wp2
  go_ret
  exact ⟨rfl, hb⟩
set_option maxRecDepth 100000 in
set_option maxHeartbeats 8000000 in
theorem las_good (k : Nat) (caps : Array Value) (x : Int) (w : World)
    (hcall : ∀ W, Sem.run Tryd.prog (callFunc k caps) W = .ok (.enter k caps) W)
    (hk : ∀ W, Below w.heap.size w W → Calls Tryd.prog k caps W fun e w' => e = .returned (.int .i64 x) ∧ Below W.heap.size W w') :
    Calls Tryd.prog 10 #[.int .i64 x, .agg #[.int .i64 0, .int .i64 0], .agg #[.int .i64 0, .int .i64 0], .func (.func k) #[] caps] w fun e w' => e = .returned (.bool true) ∧ Below w.heap.size w w' := by
  have hF1 : Blk ((w.alloc (.cells #[.int .i64 0, .int .i64 0] 25)).alloc (.cells #[.int .i64 0, .int .i64 0] 25)) w.heap.size 25 [.int .i64 0, .int .i64 0] := (blk0 _ _).alloc _
  have hF2 := blk0 (w := w.alloc (.cells #[.int .i64 0, .int .i64 0] 25)) (T := 25) (.int .i64 0) (.int .i64 0)
  rw [World.size_alloc] at hF2
  have hb : Below w.heap.size w ((w.alloc (.cells #[.int .i64 0, .int .i64 0] 25)).alloc (.cells #[.int .i64 0, .int .i64 0] 25)) := (balloc w _).alloc (by simp) _
  obtain ⟨f0, f1, _, _⟩ := hF1.two
  obtain ⟨g0, g1, _, _⟩ := hF2.two
  have HK := hide hk
  clear hk
  go_enter Tryd.func10, Tryd.ntmps10
  go_wp2_with fail
  generalize (w.alloc (.cells #[.int .i64 0, .int .i64 0] 25)).alloc (.cells #[.int .i64 0, .int .i64 0] 25) = w0 at *
  refine (HK.out w0 hb).mono ?_
  rintro e w1 ⟨rfl, hb1⟩
  go_wp2
  go_ret
  exact ⟨rfl, bcat2 hb hb1⟩

end Go.Proofs.YtojnjfkonaeegaaDoor
