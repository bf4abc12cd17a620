/- What madeBy of package table makes. -/
import Derived.Test.YtgphcfmiamiojaaOrders
namespace Go.Proofs.Ytgphcfmiamiojaa
open Go Go.RowKit

/-- A slice of ints that reads as zs, and lies in a block from base on. -/
def SlF (base : Nat) (w : World) (v : Value) (zs : List Int) : Prop := ∃ a cap pb po, v = .slice a zs.length cap ∧ Reads w a pb po zs ∧ pb < w.heap.size ∧ zs.length ≤ cap ∧ cap ≤ maxLen ∧ base ≤ pb
theorem SlF.sl {base : Nat} {w : World} {v : Value} {zs : List Int} (h : SlF base w v zs) : Sl w v zs := by
  obtain ⟨a, cap, pb, po, h1, h2, h3, h4, h5, _⟩ := h
  exact ⟨a, cap, pb, po, h1, h2, h3, h4, h5⟩
theorem SlF.keep {base : Nat} {w w' : World} {v : Value} {zs : List Int} (h : SlF base w v zs) (hk : ∀ b, base ≤ b → w'.heap[b]? = w.heap[b]?) (hs : w.heap.size ≤ w'.heap.size) : SlF base w' v zs := by
  obtain ⟨a, cap, pb, po, h1, h2, h3, h4, h5, h6⟩ := h
  exact ⟨a, cap, pb, po, h1, h2.of_eq (hk pb h6), by omega, h4, h5, h6⟩
theorem SlF.mono {base base' : Nat} {w : World} {v : Value} {zs : List Int} (h : SlF base w v zs) (hb : base' ≤ base) : SlF base' w v zs := by
  obtain ⟨a, cap, pb, po, h1, h2, h3, h4, h5, h6⟩ := h
  exact ⟨a, cap, pb, po, h1, h2, h3, h4, h5, by omega⟩
theorem SlF.of_blk {base : Nat} {w : World} {g n : Nat} {zs : List Int} (h : Blk w g 3 (zs.map (Value.int .i64))) (hn : n = zs.length) (hl : zs.length ≤ 1000000) (hb : base ≤ g) : SlF base w (.slice (some ⟨g, 0, none⟩) n n) zs := by
  subst hn
  refine ⟨some ⟨g, 0, none⟩, zs.length, g, 0, rfl, ⟨fun _ => rfl, fun j hj => ?_⟩, h.lt, Nat.le_refl _, by unfold maxLen; omega, hb⟩
  rw [Nat.zero_add]; exact h.int hj

/-- The table of n things whose products f tells. -/
def mkT (n : Nat) (f : Nat → Nat → Nat) : List Int := (List.range (n * n)).map fun i => (f (i / n) (i % n) : Int)
theorem mkT_len (n : Nat) (f : Nat → Nat → Nat) : (mkT n f).length = n * n := by simp [mkT]
theorem dm {n a b : Nat} (hb : b < n) : (a * n + b) / n = a ∧ (a * n + b) % n = b := by
  constructor
  · rw [Nat.mul_comm, Nat.mul_add_div (by omega), Nat.div_eq_of_lt hb, Nat.add_zero]
  · rw [Nat.mul_comm, Nat.mul_add_mod, Nat.mod_eq_of_lt hb]

set_option maxRecDepth 100000 in
set_option maxHeartbeats 4000000 in
theorem madeBy_ok (n k : Nat) (caps : Array Value) (f : Nat → Nat → Nat) (w : World) (hn : 1 ≤ n) (hn2 : n ≤ 60)
    (hcall : ∀ a b W, Sem.run Try.prog (callFunc k (#[.int .i64 a, .int .i64 b] ++ caps)) W = .ok (.enter k (#[.int .i64 a, .int .i64 b] ++ caps)) W)
    (hf : ∀ (W : World) (a b : Nat), Below w.heap.size w W → a < n → b < n → Calls Try.prog k (#[.int .i64 a, .int .i64 b] ++ caps) W fun e w' => e = .returned (.int .i64 (f a b)) ∧ Below W.heap.size W w') :
    Calls Try.prog 19 #[.int .i64 n, .func (.func k) #[] caps] w fun e w' => ∃ u, e = .returned (.agg #[.int .i64 n, u]) ∧ SlF w.heap.size w' u (mkT n f) ∧ Below w.heap.size w w' := by
  obtain ⟨i0, hi, hz0, hz1, hz2⟩ := info_parts info3b
  have HF := hide hf
  have hnn : n * n ≤ 60 * 60 := Nat.mul_le_mul hn2 hn2
  have hm : (n : Int) * (n : Int) = ((n * n : Nat) : Int) := by rw [Int.natCast_mul]
  obtain ⟨q, hq⟩ : ∃ q, n * n = q := ⟨_, rfl⟩
  rw [hq] at hm hnn
  have HQ := hide hq
  clear hf hq
  go_enter Try.func19, Try.ntmps19
  go_wp2_with (first
    | (at_make; refine wpList_make_full _ rfl _ _ 24 rfl (w.heap.size + 1) 3 i0 (.int .i64 0) 1 under22b hi hz0 hz1 _ _ _ _ q rfl rfl rfl rfl (by rw [hz2]; omega) (by unfold maxLen; omega) (by simp) ?_))
  intro w2 hown hg
  have hM : Blk w2 (w.heap.size + 1) 3 ((fillU q (fun i => (f (i / n) (i % n) : Int)) 0).map (Value.int .i64)) := by
    have := Blk.of_owns hown
    rw [made_rep] at this
    rw [fillU_zero, List.map_replicate]; exact this
  have hB2 : Below w.heap.size w w2 := (balloc w _).grown hg (by simp) (by simp)
  have hR2 : Blk w2 w.heap.size 27 [.int .i64 0, .slice none 0 0] := Blk.grown (blk0 _ _) hg (by simp)
  have hs2 := hM.lt
  clear hown hg
  go_wp2
  have hM3 := hM.alloc (.cells #[.int .i64 n, .slice (some ⟨w.heap.size + 1, 0, none⟩) q q] 27)
  have hG3 : Blk (w2.alloc (.cells #[.int .i64 n, .slice (some ⟨w.heap.size + 1, 0, none⟩) q q] 27)) w2.heap.size 27 [.int .i64 n, .slice (some ⟨w.heap.size + 1, 0, none⟩) q q] := blk0 _ _
  have hR3 := hR2.alloc (.cells #[.int .i64 n, .slice (some ⟨w.heap.size + 1, 0, none⟩) q q] 27)
  have hB3 := hB2.alloc hB2.size (.cells #[.int .i64 n, .slice (some ⟨w.heap.size + 1, 0, none⟩) q q] 27)
  generalize w2.alloc (.cells #[.int .i64 n, .slice (some ⟨w.heap.size + 1, 0, none⟩) q q] 27) = w3 at *
  go_loopw [15] (fun i wr => ∃ a : Nat, a ≤ n ∧ i = .int .i64 a ∧ Blk wr (w.heap.size + 1) 3 ((fillU q (fun i => (f (i / n) (i % n) : Int)) (a * n)).map (Value.int .i64)) ∧ Blk wr w2.heap.size 27 [.int .i64 n, .slice (some ⟨w.heap.size + 1, 0, none⟩) q q] ∧ Blk wr w.heap.size 27 [.int .i64 0, .slice none 0 0] ∧ Below w.heap.size w wr) (fun i _ => n - (intOf i).toNat)
  case atStart => exact ⟨0, Nat.zero_le _, rfl, by rw [Nat.zero_mul]; exact hM3, hG3, hR3, hB3⟩
  case round =>
    obtain ⟨a, hka, rfl, hMa, hGa, hRa, hBa⟩ := hrel
    by_cases hlta : a < n
    · go_wp2
      go_loopw [19] (fun i wr => ∃ b : Nat, b ≤ n ∧ i = .int .i64 b ∧ Blk wr (w.heap.size + 1) 3 ((fillU q (fun i => (f (i / n) (i % n) : Int)) (a * n + b)).map (Value.int .i64)) ∧ Blk wr w2.heap.size 27 [.int .i64 n, .slice (some ⟨w.heap.size + 1, 0, none⟩) q q] ∧ Blk wr w.heap.size 27 [.int .i64 0, .slice none 0 0] ∧ Below w.heap.size w wr) (fun i _ => n - (intOf i).toNat)
      case atStart => exact ⟨0, Nat.zero_le _, rfl, hMa, hGa, hRa, hBa⟩
      case round =>
        obtain ⟨b, hkb, rfl, hMb, hGb, hRb, hBb⟩ := hrel
        by_cases hltb : b < n
        · have hpl : a * n + b < q := by rw [← HQ.out]; exact place_lt hlta hltb
          obtain ⟨e1, e2⟩ := dm (a := a) hltb
          have hset := fillU_set (m := q) (f := fun i => (f (i / n) (i % n) : Int)) hpl
          simp only [e1, e2] at hset
          have hsr := hMb.lt
          have hsg := hGb.lt
          obtain ⟨p, hp⟩ : ∃ p, a * n = p := ⟨_, rfl⟩
          have hmp : (a : Int) * (n : Int) = (p : Int) := by rw [← hp, Int.natCast_mul]
          rw [hp] at hpl hset hMb
          have HPP := hide hp
          have HSET := hide hset
          have hpi : (p : Int) + (b : Int) < (q : Int) := by omega
          have hp0 : (0 : Int) ≤ (p : Int) + (b : Int) := by omega
          have hpn : ¬ (p : Int) + (b : Int) < 0 := by omega
          have hpt : ((p : Int) + (b : Int)).toNat = p + b := by omega
          have hwr : IntKind.i64.wrap ((p : Int) + (b : Int)) = (p : Int) + (b : Int) := by rw [IntKind.wrap_i64]; omega
          have hwm : IntKind.i64.wrap (p : Int) = (p : Int) := by rw [IntKind.wrap_i64]; omega
          clear hp hset e1 e2
          obtain ⟨g0, g1, _, _⟩ := hGb.two
          have hS : ∀ W, Below wr.heap.size wr W → (Below w.heap.size w W ∧ W.cell? ⟨w2.heap.size, 1, none⟩ = some (.slice (some ⟨w.heap.size + 1, 0, none⟩) q q)) := fun W h => ⟨bcat hBb h hBb.size, below_cell h g1⟩
          have hS3 : ∀ W u, Below wr.heap.size wr W → (Below w.heap.size w (W.setCell ⟨w.heap.size + 1, p + b, none⟩ u) ∧ (W.setCell ⟨w.heap.size + 1, p + b, none⟩ u).cell? ⟨w2.heap.size, 1, none⟩ = some (.slice (some ⟨w.heap.size + 1, 0, none⟩) q q)) := fun W u h => by
            refine ⟨(bcat hBb h hBb.size).setCell (p := ⟨w.heap.size + 1, p + b, none⟩) (by simp) _, ?_⟩
            rw [World.cell?_setCell_far _ _ _ _ (by simp; omega)]; exact below_cell h g1
          have hS0 := hS _ (bdrew (Below.refl _ wr))
          go_wp2_with fail
          go_region_held3 (fun W => Below w.heap.size w W ∧ W.cell? ⟨w2.heap.size, 1, none⟩ = some (.slice (some ⟨w.heap.size + 1, 0, none⟩) q q))
            (first | exact hS0 | assumption | exact hS _ hl2 | exact hS3 _ _ hl2)
            (first | (refine (HF.out _ a b (And.left ‹_›) hlta hltb).mono ?_; rintro e W1 ⟨rfl, hl1⟩; have hl2 := undrew hl1; have hM1 := blk_below hMb hl2; have hc1 := hM1.int (y := p + b) (by rw [fillU_len]; exact hpl); have hf1 := hM1.frozen (p + b)))
          have hM6 := hM1.setInt (p + b) (f a b : Int)
          rw [HSET.out] at hM6
          have hG6 := (blk_below hGb hl2).other (p := ⟨w.heap.size + 1, p + b, none⟩) (by simp; omega) (.int .i64 (f a b : Int))
          have hR6 := (blk_below hRb hl2).other (p := ⟨w.heap.size + 1, p + b, none⟩) (by simp) (.int .i64 (f a b : Int))
          have hB6 := (bcat hBb hl2 hBb.size).setCell (p := ⟨w.heap.size + 1, p + b, none⟩) (by simp) (.int .i64 (f a b : Int))
          clear hc1 hf1 hM1 hS hS3 hS0 hwr hwm hpt hpn hp0 g0 g1 hmp
          go_wp2
          go_roundw
          case rel => exact ⟨b + 1, by omega, by go_num, by rw [HPP.out, ← Nat.add_assoc]; exact hM6, hG6, hR6, hB6⟩
          case measure => simp [intOf]; omega
        · have hbn : b = n := by omega
          subst hbn
          go_wp2
          go_roundw
          case rel => exact ⟨a + 1, by omega, by go_num, by rw [Nat.add_mul, Nat.one_mul]; exact hMb, hGb, hRb, hBb⟩
          case measure => simp [intOf]; omega
    · have han : a = n := by omega
      subst han
      rw [HQ.out, fillU_all] at hMa
      obtain ⟨g0, g1, _, _⟩ := hGa.two
      obtain ⟨r0, r1, fr0, fr1⟩ := hRa.two
      have hsg := hGa.lt
      have hR8 : Blk ((wr.setCell ⟨w.heap.size, 0, none⟩ (.int .i64 a)).setCell ⟨w.heap.size, 1, none⟩ (.slice (some ⟨w.heap.size + 1, 0, none⟩) q q)) w.heap.size 27 [.int .i64 a, .slice (some ⟨w.heap.size + 1, 0, none⟩) q q] := (hRa.set 0 _).set 1 _
      have hM8 := (hMa.other (p := ⟨w.heap.size, 0, none⟩) (by simp) (.int .i64 a)).other (p := ⟨w.heap.size, 1, none⟩) (by simp) (.slice (some ⟨w.heap.size + 1, 0, none⟩) q q)
      have hB8 := (hBa.setCell (p := ⟨w.heap.size, 0, none⟩) (by simp) (.int .i64 a)).setCell (p := ⟨w.heap.size, 1, none⟩) (by simp) (.slice (some ⟨w.heap.size + 1, 0, none⟩) q q)
      have HLQ := hide (show q = (mkT a f).length by rw [mkT_len]; exact HQ.out.symm)
      have HMK := hide (show (List.range q).map (fun i => (f (i / a) (i % a) : Int)) = mkT a f by unfold mkT; rw [HQ.out])
      go_wp2
      generalize (wr.setCell ⟨w.heap.size, 0, none⟩ (.int .i64 a)).setCell ⟨w.heap.size, 1, none⟩ (.slice (some ⟨w.heap.size + 1, 0, none⟩) q q) = W at hR8 hM8 hB8 ⊢
      rw [HMK.out] at hM8
      obtain ⟨x0, x1, _, _⟩ := hR8.two
      exact bodyPost_ret (v := .agg #[.int .i64 a, .slice (some ⟨w.heap.size + 1, 0, none⟩) q q]) (by simp [results, Try.results19, go_sem, x0, x1]) rfl ⟨_, rfl, SlF.of_blk hM8 HLQ.out (by rw [← HLQ.out]; omega) (by omega), hB8⟩
end Go.Proofs.Ytgphcfmiamiojaa
