/- Package table's Product, at every two tables; products of groups as mathematics. The law ProdPairs: its closures, and a product of two groups as the direct product of its parts. -/
import Derived.Test.YtanbpjfdfnmjpaaDoorZ4
import Derived.Test.YtanbpjfdfnmjpaaDoorZ3
import Derived.Test.YtanbpjfdfnmjpaaDoorZ2
import Derived.Test.YtanbpjfdfnmjpaaDoorZ9
namespace Go.Proofs.YtanbpjfdfnmjpaaDoor
open Go Go.RowKit

/-- A list that is filled up to k. -/
def fillU (m : Nat) (f : Nat → Int) (k : Nat) : List Int := (List.range m).map fun i => if i < k then f i else 0
theorem fillU_len (m : Nat) (f : Nat → Int) (k : Nat) : (fillU m f k).length = m := by simp [fillU]
theorem fillU_zero (m : Nat) (f : Nat → Int) : fillU m f 0 = List.replicate m 0 := by
  apply List.ext_getElem
  · simp [fillU]
  · intro i h1 h2; simp [fillU]
theorem fillU_set {m : Nat} {f : Nat → Int} {k : Nat} (_hk : k < m) : (fillU m f k).set k (f k) = fillU m f (k + 1) := by
  apply List.ext_getElem
  · simp [fillU]
  · intro i h1 h2
    rw [List.getElem_set]
    split
    · rename_i e; subst e; simp [fillU]
    · rename_i e
      simp only [fillU, List.getElem_map, List.getElem_range]
      by_cases h : i < k
      · rw [if_pos h, if_pos (by omega)]
      · rw [if_neg h, if_neg (by omega)]
theorem fillU_all (m : Nat) (f : Nat → Int) : fillU m f m = (List.range m).map f := by
  apply List.ext_getElem
  · simp [fillU]
  · intro i h1 h2
    have : i < m := by simpa [fillU] using h1
    simp [fillU, this]

set_option maxRecDepth 100000 in
set_option maxHeartbeats 4000000 in
theorem madeBy_ok (n k : Nat) (caps : Array Value) (f : Nat → Nat → Nat) (w : World) (hn : 1 ≤ n) (hn2 : n ≤ 60)
    (hcall : ∀ a b W, Sem.run Tryd.prog (callFunc k (#[.int .i64 a, .int .i64 b] ++ caps)) W = .ok (.enter k (#[.int .i64 a, .int .i64 b] ++ caps)) W)
    (hf : ∀ (W : World) (a b : Nat), Below w.heap.size w W → a < n → b < n → Calls Tryd.prog k (#[.int .i64 a, .int .i64 b] ++ caps) W fun e w' => e = .returned (.int .i64 (f a b)) ∧ Below W.heap.size W w') :
    Calls Tryd.prog 45 #[.int .i64 n, .func (.func k) #[] caps] w fun e w' => ∃ u, e = .returned (.agg #[.int .i64 n, u]) ∧ SlF w.heap.size w' u (mkT n f) ∧ Below w.heap.size w w' := by
  obtain ⟨i0, hi, hz0, hz1, hz2⟩ := info_parts info3b
  have HF := hide hf
  have hnn : n * n ≤ 60 * 60 := Nat.mul_le_mul hn2 hn2
  have hm : (n : Int) * (n : Int) = ((n * n : Nat) : Int) := by rw [Int.natCast_mul]
  obtain ⟨q, hq⟩ : ∃ q, n * n = q := ⟨_, rfl⟩
  rw [hq] at hm hnn
  have HQ := hide hq
  clear hf hq
  go_enter Tryd.func45, Tryd.ntmps45
  go_wp2_with (first
    | (at_make; refine wpList_make_full _ rfl _ _ 22 rfl (w.heap.size + 1) 3 i0 (.int .i64 0) 1 under22b hi hz0 hz1 _ _ _ _ q rfl rfl rfl rfl (by rw [hz2]; omega) (by unfold maxLen; omega) (by simp) ?_))
  intro w2 hown hg
  have hM : Blk w2 (w.heap.size + 1) 3 ((fillU q (fun i => (f (i / n) (i % n) : Int)) 0).map (Value.int .i64)) := by
    have := Blk.of_owns hown
    rw [made_rep] at this
    rw [fillU_zero, List.map_replicate]; exact this
  have hB2 : Below w.heap.size w w2 := (balloc w _).grown hg (by simp) (by simp)
  have hR2 : Blk w2 w.heap.size 24 [.int .i64 0, .slice none 0 0] := Blk.grown (blk0 _ _) hg (by simp)
  have hs2 := hM.lt
  clear hown hg
  go_wp2
  have hM3 := hM.alloc (.cells #[.int .i64 n, .slice (some ⟨w.heap.size + 1, 0, none⟩) q q] 24)
  have hG3 : Blk (w2.alloc (.cells #[.int .i64 n, .slice (some ⟨w.heap.size + 1, 0, none⟩) q q] 24)) w2.heap.size 24 [.int .i64 n, .slice (some ⟨w.heap.size + 1, 0, none⟩) q q] := blk0 _ _
  have hR3 := hR2.alloc (.cells #[.int .i64 n, .slice (some ⟨w.heap.size + 1, 0, none⟩) q q] 24)
  have hB3 := hB2.alloc hB2.size (.cells #[.int .i64 n, .slice (some ⟨w.heap.size + 1, 0, none⟩) q q] 24)
  generalize w2.alloc (.cells #[.int .i64 n, .slice (some ⟨w.heap.size + 1, 0, none⟩) q q] 24) = w3 at *
  go_loopw [15] (fun i wr => ∃ a : Nat, a ≤ n ∧ i = .int .i64 a ∧ Blk wr (w.heap.size + 1) 3 ((fillU q (fun i => (f (i / n) (i % n) : Int)) (a * n)).map (Value.int .i64)) ∧ Blk wr w2.heap.size 24 [.int .i64 n, .slice (some ⟨w.heap.size + 1, 0, none⟩) q q] ∧ Blk wr w.heap.size 24 [.int .i64 0, .slice none 0 0] ∧ Below w.heap.size w wr) (fun i _ => n - (intOf i).toNat)
  case atStart => exact ⟨0, Nat.zero_le _, rfl, by rw [Nat.zero_mul]; exact hM3, hG3, hR3, hB3⟩
  case round =>
    obtain ⟨a, hka, rfl, hMa, hGa, hRa, hBa⟩ := hrel
    by_cases hlta : a < n
    · go_wp2
      go_loopw [19] (fun i wr => ∃ b : Nat, b ≤ n ∧ i = .int .i64 b ∧ Blk wr (w.heap.size + 1) 3 ((fillU q (fun i => (f (i / n) (i % n) : Int)) (a * n + b)).map (Value.int .i64)) ∧ Blk wr w2.heap.size 24 [.int .i64 n, .slice (some ⟨w.heap.size + 1, 0, none⟩) q q] ∧ Blk wr w.heap.size 24 [.int .i64 0, .slice none 0 0] ∧ Below w.heap.size w wr) (fun i _ => n - (intOf i).toNat)
      case atStart => exact ⟨0, Nat.zero_le _, rfl, hMa, hGa, hRa, hBa⟩
      case round =>
        obtain ⟨b, hkb, rfl, hMb, hGb, hRb, hBb⟩ := hrel
        by_cases hltb : b < n
        · have hpl : a * n + b < q := by rw [← HQ.out]; exact place_lt hlta hltb
          obtain ⟨e1, e2⟩ := dm' (a := a) hltb
          have hset := fillU_set (m := q) (f := fun i => (f (i / n) (i % n) : Int)) hpl
          simp only [e1, e2] at hset
          have hsr := hMb.lt
          have hsg := hGb.lt
          obtain ⟨p, hp⟩ : ∃ p, a * n = p := ⟨_, rfl⟩
          have hmp : (a : Int) * (n : Int) = (p : Int) := by rw [← hp, Int.natCast_mul]
          rw [hp] at hpl hset hMb
          have HPP := hide hp
          have HSET := hide hset
          have hpi : (p : Int) + (b : Int) < (q : Int) := by omega
          have hp0 : (0 : Int) ≤ (p : Int) + (b : Int) := by omega
          have hpn : ¬ (p : Int) + (b : Int) < 0 := by omega
          have hpt : ((p : Int) + (b : Int)).toNat = p + b := by omega
          have hwr : IntKind.i64.wrap ((p : Int) + (b : Int)) = (p : Int) + (b : Int) := by rw [IntKind.wrap_i64]; omega
          have hwm : IntKind.i64.wrap (p : Int) = (p : Int) := by rw [IntKind.wrap_i64]; omega
          clear hp hset e1 e2
          obtain ⟨g0, g1, _, _⟩ := hGb.two
          have hS : ∀ W, Below wr.heap.size wr W → (Below w.heap.size w W ∧ W.cell? ⟨w2.heap.size, 1, none⟩ = some (.slice (some ⟨w.heap.size + 1, 0, none⟩) q q)) := fun W h => ⟨bcat hBb h hBb.size, below_cell h g1⟩
          have hS3 : ∀ W u, Below wr.heap.size wr W → (Below w.heap.size w (W.setCell ⟨w.heap.size + 1, p + b, none⟩ u) ∧ (W.setCell ⟨w.heap.size + 1, p + b, none⟩ u).cell? ⟨w2.heap.size, 1, none⟩ = some (.slice (some ⟨w.heap.size + 1, 0, none⟩) q q)) := fun W u h => by
            refine ⟨(bcat hBb h hBb.size).setCell (p := ⟨w.heap.size + 1, p + b, none⟩) (by simp) _, ?_⟩
            rw [World.cell?_setCell_far _ _ _ _ (by simp; omega)]; exact below_cell h g1
          have hS0 := hS _ (bdrew (Below.refl _ wr))
          go_wp2_with fail
          go_region_held3 (fun W => Below w.heap.size w W ∧ W.cell? ⟨w2.heap.size, 1, none⟩ = some (.slice (some ⟨w.heap.size + 1, 0, none⟩) q q))
            (first | exact hS0 | assumption | exact hS _ hl2 | exact hS3 _ _ hl2)
            (first | (refine (HF.out _ a b (And.left ‹_›) hlta hltb).mono ?_; rintro e W1 ⟨rfl, hl1⟩; have hl2 := undrew hl1; have hM1 := blk_below hMb hl2; have hc1 := hM1.int (y := p + b) (by rw [fillU_len]; exact hpl); have hf1 := hM1.frozen (p + b)))
          have hM6 := hM1.setInt (p + b) (f a b : Int)
          rw [HSET.out] at hM6
          have hG6 := (blk_below hGb hl2).other (p := ⟨w.heap.size + 1, p + b, none⟩) (by simp; omega) (.int .i64 (f a b : Int))
          have hR6 := (blk_below hRb hl2).other (p := ⟨w.heap.size + 1, p + b, none⟩) (by simp) (.int .i64 (f a b : Int))
          have hB6 := (bcat hBb hl2 hBb.size).setCell (p := ⟨w.heap.size + 1, p + b, none⟩) (by simp) (.int .i64 (f a b : Int))
          clear hc1 hf1 hM1 hS hS3 hS0 hwr hwm hpt hpn hp0 g0 g1 hmp
          go_wp2
          go_roundw
          case rel => exact ⟨b + 1, by omega, by go_num, by rw [HPP.out, ← Nat.add_assoc]; exact hM6, hG6, hR6, hB6⟩
          case measure => simp [intOf]; omega
        · have hbn : b = n := by omega
          subst hbn
          go_wp2
          go_roundw
          case rel => exact ⟨a + 1, by omega, by go_num, by rw [Nat.add_mul, Nat.one_mul]; exact hMb, hGb, hRb, hBb⟩
          case measure => simp [intOf]; omega
    · have han : a = n := by omega
      subst han
      rw [HQ.out, fillU_all] at hMa
      obtain ⟨g0, g1, _, _⟩ := hGa.two
      obtain ⟨r0, r1, fr0, fr1⟩ := hRa.two
      have hsg := hGa.lt
      have hR8 : Blk ((wr.setCell ⟨w.heap.size, 0, none⟩ (.int .i64 a)).setCell ⟨w.heap.size, 1, none⟩ (.slice (some ⟨w.heap.size + 1, 0, none⟩) q q)) w.heap.size 24 [.int .i64 a, .slice (some ⟨w.heap.size + 1, 0, none⟩) q q] := (hRa.set 0 _).set 1 _
      have hM8 := (hMa.other (p := ⟨w.heap.size, 0, none⟩) (by simp) (.int .i64 a)).other (p := ⟨w.heap.size, 1, none⟩) (by simp) (.slice (some ⟨w.heap.size + 1, 0, none⟩) q q)
      have hB8 := (hBa.setCell (p := ⟨w.heap.size, 0, none⟩) (by simp) (.int .i64 a)).setCell (p := ⟨w.heap.size, 1, none⟩) (by simp) (.slice (some ⟨w.heap.size + 1, 0, none⟩) q q)
      have HLQ := hide (show q = (mkT a f).length by rw [mkT_len]; exact HQ.out.symm)
      have HMK := hide (show (List.range q).map (fun i => (f (i / a) (i % a) : Int)) = mkT a f by unfold mkT; rw [HQ.out])
      go_wp2
      generalize (wr.setCell ⟨w.heap.size, 0, none⟩ (.int .i64 a)).setCell ⟨w.heap.size, 1, none⟩ (.slice (some ⟨w.heap.size + 1, 0, none⟩) q q) = W at hR8 hM8 hB8 ⊢
      rw [HMK.out] at hM8
      obtain ⟨x0, x1, _, _⟩ := hR8.two
      exact bodyPost_ret (v := .agg #[.int .i64 a, .slice (some ⟨w.heap.size + 1, 0, none⟩) q q]) (by simp [results, Tryd.results45, go_sem, x0, x1]) rfl ⟨_, rfl, SlF.of_blk hM8 HLQ.out (by rw [← HLQ.out]; omega) (by omega), hB8⟩
/-- The product of two tables, as a function. -/
def prodF (n m : Nat) (zs ys : List Int) (a b : Nat) : Nat := tm n zs (a / m) (b / m) * m + tm m ys (a % m) (b % m)
theorem pair_lt {n m x y : Nat} (hx : x < n) (hy : y < m) : x * m + y < n * m := by
  have : (x + 1) * m ≤ n * m := Nat.mul_le_mul_right m hx
  rw [Nat.add_mul] at this; omega
theorem pair_parts {n m i : Nat} (hi : i < n * m) : i / m < n ∧ i % m < m ∧ i / m * m + i % m = i := by
  have hm : 0 < m := by
    rcases Nat.eq_zero_or_pos m with h | h
    · subst h; simp at hi
    · exact h
  refine ⟨Nat.div_lt_of_lt_mul (by rw [Nat.mul_comm]; exact hi), Nat.mod_lt _ hm, ?_⟩
  rw [Nat.mul_comm]; exact Nat.div_add_mod i m
theorem prod_grp {n m e d : Nat} {zs ys : List Int} (h : IsGrp n zs e) (k : IsGrp m ys d) (h60 : n * m ≤ 60) : IsGrp (n * m) (mkT (n * m) (prodF n m zs ys)) (e * m + d) := by
  have hn := h.tab.pos
  have hm := k.tab.pos
  have ep := dm' (a := e) k.elt
  refine grp_mk (Nat.mul_pos hn hm) h60 (fun a b ha hb => ?_) (pair_lt h.elt k.elt) (fun a ha => ?_) (fun a ha => ?_) (fun a b c ha hb hc => ?_) (fun a ha => ?_)
  · obtain ⟨a1, a2, _⟩ := pair_parts ha
    obtain ⟨b1, b2, _⟩ := pair_parts hb
    exact pair_lt (tm_lt h.tab a1 b1) (tm_lt k.tab a2 b2)
  · obtain ⟨a1, a2, a3⟩ := pair_parts ha
    unfold prodF
    rw [ep.1, ep.2, h.left _ a1, k.left _ a2, a3]
  · obtain ⟨a1, a2, a3⟩ := pair_parts ha
    unfold prodF
    rw [ep.1, ep.2, h.right _ a1, k.right _ a2, a3]
  · obtain ⟨a1, a2, _⟩ := pair_parts ha
    obtain ⟨b1, b2, _⟩ := pair_parts hb
    obtain ⟨c1, c2, _⟩ := pair_parts hc
    have q1 := dm' (a := tm n zs (a / m) (b / m)) (tm_lt k.tab a2 b2)
    have q2 := dm' (a := tm n zs (b / m) (c / m)) (tm_lt k.tab b2 c2)
    unfold prodF
    rw [q1.1, q1.2, q2.1, q2.2, h.ass _ _ _ a1 b1 c1, k.ass _ _ _ a2 b2 c2]
  · obtain ⟨a1, a2, _⟩ := pair_parts ha
    obtain ⟨x, hx, e1⟩ := h.inv _ a1
    obtain ⟨y, hy, e2⟩ := k.inv _ a2
    refine ⟨x * m + y, pair_lt hx hy, ?_⟩
    have q := dm' (a := x) hy
    unfold prodF
    rw [q.1, q.2, e1, e2]
theorem nmod {x : Int} {y m : Nat} (h : x = (y : Int)) : x.tmod (m : Int) = ((y % m : Nat) : Int) := by
  rw [h, Int.tmod_eq_emod_of_nonneg (by omega), Int.natCast_emod]
theorem putG {W w : World} {b : Nat} {x y : Value} (hR : Blk W b 24 [x, y]) (hB : Below w.heap.size w W) (hb : w.heap.size ≤ b) (N : Int) (u : Value) :
    Blk ((W.setCell ⟨b, 0, none⟩ (.int .i64 N)).setCell ⟨b, 1, none⟩ u) b 24 [.int .i64 N, u] ∧ Below w.heap.size w ((W.setCell ⟨b, 0, none⟩ (.int .i64 N)).setCell ⟨b, 1, none⟩ u) :=
  ⟨(hR.set 0 _).set 1 _, (hB.setCell (p := ⟨b, 0, none⟩) hb _).setCell (p := ⟨b, 1, none⟩) hb _⟩
theorem pair_inj {m x y u v : Nat} (hy : y < m) (hv : v < m) (h : x * m + y = u * m + v) : x = u ∧ y = v := by
  have h1 := dm' (a := x) hy
  have h2 := dm' (a := u) hv
  rw [h] at h1
  exact ⟨h1.1.symm.trans h2.1, h1.2.symm.trans h2.2⟩
theorem ndiv {x y : Nat} : (x : Int).tdiv (y : Int) = ((x / y : Nat) : Int) := by rw [Int.tdiv_eq_ediv_of_nonneg (by omega), Int.natCast_ediv]

set_option maxRecDepth 100000 in
set_option maxHeartbeats 4000000 in
theorem tpairs_ok (b1 b2 n m a b : Nat) (u v : Value) (zs ys : List Int) (w : World) (hn : IsTab n zs) (hm : IsTab m ys) (h60 : n * m ≤ 60) (hg : BoxG w b1 n u) (hh : BoxG w b2 m v) (hu : Sl w u zs) (hv : Sl w v ys) (ha : a < n * m) (hb : b < n * m) :
    Calls Tryd.prog 46 #[.int .i64 a, .int .i64 b, .pointer (some ⟨b1, 0, none⟩), .pointer (some ⟨b2, 0, none⟩)] w fun e w' => e = .returned (.int .i64 (prodF n m zs ys a b)) ∧ Below w.heap.size w w' := by
  obtain ⟨c0, c1, _, _⟩ := hg.two
  obtain ⟨d0, d1, _, _⟩ := hh.two
  obtain ⟨a1, a2, _⟩ := pair_parts ha
  obtain ⟨q1, q2, _⟩ := pair_parts hb
  have x1 := ndiv (x := a) (y := m)
  have x2 := ndiv (x := b) (y := m)
  have y1 := nmod (x := (a : Int)) (y := a) (m := m) rfl
  have y2 := nmod (x := (b : Int)) (y := b) (m := m) rfl
  have hmp := hm.pos
  have hm60 := hm.le
  have hn60 := hn.le
  have hm0 : ¬ ((m : Int) = 0) := by omega
  have hm1 : ¬ m = 0 := by omega
  have hm2 : ((m : Int) == 0) = false := by simp; omega
  unfold prodF
  have t1 := tm_lt hn a1 q1
  have t2 := tm_lt hm a2 q2
  have HN := hide hn
  have HM := hide hm
  have hpl := pair_lt t1 t2
  have hmul : (tm n zs (a / m) (b / m) : Int) * (m : Int) = ((tm n zs (a / m) (b / m) * m : Nat) : Int) := by rw [Int.natCast_mul]
  have HP1 := hide (fun W (h : Sl W u zs) => product_ok n u zs (a / m) (b / m) W hn h a1 q1)
  have HP2 := hide (fun W (h : Sl W v ys) => product_ok m v ys (a % m) (b % m) W hm h a2 q2)
  generalize tm n zs (a / m) (b / m) = r1 at *
  generalize tm m ys (a % m) (b % m) = r2 at *
  generalize r1 * m = r3 at *
  generalize a / m = e1 at *
  generalize b / m = e2 at *
  generalize a % m = e3 at *
  generalize b % m = e4 at *
  have hw1 : IntKind.i64.wrap (r3 : Int) = (r3 : Int) := by rw [IntKind.wrap_i64]; omega
  have hw2 : IntKind.i64.wrap ((r3 : Int) + (r2 : Int)) = (r3 : Int) + (r2 : Int) := by rw [IntKind.wrap_i64]; omega
  have v1 : IntKind.i64.wrap (e1 : Int) = (e1 : Int) := by rw [IntKind.wrap_i64]; omega
  have v2 : IntKind.i64.wrap (e2 : Int) = (e2 : Int) := by rw [IntKind.wrap_i64]; omega
  have hS : ∀ W, Below w.heap.size w W → (Below w.heap.size w W ∧ W.cell? ⟨b1, 0, none⟩ = some (.int .i64 n) ∧ W.cell? ⟨b1, 1, none⟩ = some u ∧ W.cell? ⟨b2, 0, none⟩ = some (.int .i64 m) ∧ W.cell? ⟨b2, 1, none⟩ = some v) := fun W h => ⟨h, below_cell h c0, below_cell h c1, below_cell h d0, below_cell h d1⟩
  have hS0 := hS _ (bdrew (Below.refl _ w))
  clear c0 c1 d0 d1 hn hm
  go_enter Tryd.func46, Tryd.ntmps46
  go_wp2_with fail
  go_region_held3 (fun W => Below w.heap.size w W ∧ W.cell? ⟨b1, 0, none⟩ = some (.int .i64 n) ∧ W.cell? ⟨b1, 1, none⟩ = some u ∧ W.cell? ⟨b2, 0, none⟩ = some (.int .i64 m) ∧ W.cell? ⟨b2, 1, none⟩ = some v)
    (first | exact hS0 | assumption | exact hS _ (bcat2 (And.left ‹_›) hl1))
    (first
      | (go_at_call_of 47 (Value.agg #[Value.int IntKind.i64 (n : Int), u]); refine (HP1.out _ (hu.below (And.left ‹_›))).mono ?_; rintro r W1 ⟨rfl, hl1⟩)
      | (go_at_call_of 47 (Value.agg #[Value.int IntKind.i64 (m : Int), v]); refine (HP2.out _ (hv.below (And.left ‹_›))).mono ?_; rintro r W2 ⟨rfl, hl1⟩))
  obtain ⟨hB3, _⟩ := ‹Below w.heap.size w W2 ∧ _›
  go_wp2
  go_ret
  exact ⟨retI (by omega), hB3⟩

/-- What lies where Product begins. -/
structure Beg2 (w w0 : World) (N M : Int) (u v : Value) : Prop where
  eq : w0 = (((w.alloc (.cells #[.int .i64 N, u] 24)).alloc (.cells #[.int .i64 M, v] 24)).alloc (.cells #[.int .i64 0, .slice none 0 0] 24)).alloc (.cells #[.int .i64 0, .int .i64 0] 28)
  bel : Below w.heap.size w w0
  box : BoxG w0 w.heap.size N u
  box2 : BoxG w0 (w.heap.size + 1) M v
  resG : Blk w0 (w.heap.size + 1 + 1) 24 [.int .i64 0, .slice none 0 0]
  resF : Blk w0 (w.heap.size + 1 + 1 + 1) 28 [.int .i64 0, .int .i64 0]
theorem blkNew (w : World) (x y : Value) (T : TypeId) (b : Nat) (hb : b = w.heap.size) : Blk (w.alloc (.cells #[x, y] T)) b T [x, y] := by subst hb; exact blk0 _ _
theorem Beg2.new (w : World) (N M : Int) (u v : Value) : ∃ w0, Beg2 w w0 N M u v :=
  ⟨_, rfl, (((balloc w _).alloc (by simp) _).alloc (by simp; omega) _).alloc (by simp; omega) _, ((blk0 _ _).alloc _).alloc _ |>.alloc _,
    ((blkNew _ _ _ _ _ (by simp)).alloc _).alloc _, (blkNew _ _ _ _ _ (by simp)).alloc _, blkNew _ _ _ _ _ (by simp)⟩

theorem call46 (a b : Int) (x y : Value) (W : World) : Sem.run Tryd.prog (callFunc 46 (#[.int .i64 a, .int .i64 b] ++ #[x, y])) W = .ok (.enter 46 (#[.int .i64 a, .int .i64 b] ++ #[x, y])) W := by kernel_rfl

set_option maxRecDepth 100000 in
set_option maxHeartbeats 4000000 in
theorem prod_okF {n m e d : Nat} {zs ys : List Int} (h : IsGrp n zs e) (k : IsGrp m ys d) (h60 : n * m ≤ 60) (u v : Value) (w : World) (hu : Sl w u zs) (hv : Sl w v ys) :
    Calls Tryd.prog 25 #[.agg #[.int .i64 n, u], .agg #[.int .i64 m, v]] w fun r w' => ∃ x, r = .returned (.tuple #[.agg #[.int .i64 (n * m : Nat), x], .agg #[.int .i64 0, .int .i64 0]]) ∧ SlF w.heap.size w' x (mkT (n * m) (prodF n m zs ys)) ∧ Below w.heap.size w w' := by
  obtain ⟨w0, BG⟩ := Beg2.new w n m u v
  have hu0 := hu.below BG.bel
  have hv0 := hv.below BG.bel
  obtain ⟨c0, c1, _, _⟩ := BG.box.two
  have HC1 := hide (check_any n u zs w0 hu0)
  have HC2 := hide (fun W (h : Sl W v ys) => check_any m v ys W h)
  rw [gfault_of_grp h] at HC1
  rw [gfault_of_grp k] at HC2
  have hn := h.tab
  have hm := k.tab
  have hmul : (n : Int) * (m : Int) = ((n * m : Nat) : Int) := by rw [Int.natCast_mul]
  have hpos : 1 ≤ n * m := Nat.mul_pos hn.pos hm.pos
  have HM : Hid (∀ W, Below w0.heap.size w0 W → Calls Tryd.prog 45 #[.int .i64 (n * m : Nat), .func (.func 46) #[] #[.pointer (some ⟨w.heap.size, 0, none⟩), .pointer (some ⟨w.heap.size + 1, 0, none⟩)]] W fun e w' => ∃ u, e = .returned (.agg #[.int .i64 (n * m : Nat), u]) ∧ SlF W.heap.size w' u (mkT (n * m) (prodF n m zs ys)) ∧ Below W.heap.size W w') := fun W hW =>
    madeBy_ok (n * m) 46 _ (prodF n m zs ys) W hpos h60 (fun a b W => call46 a b _ _ W)
      (fun W2 a b h2 ha hb => tpairs_ok w.heap.size (w.heap.size + 1) n m a b u v zs ys W2 hn hm h60 (blk_below BG.box (bcat2 hW h2)) (blk_below BG.box2 (bcat2 hW h2)) (hu0.below (bcat2 hW h2)) (hv0.below (bcat2 hW h2)) ha hb)
  generalize hT : mkT (n * m) (prodF n m zs ys) = T at *
  generalize n * m = q at *
  have hle1 := hn.le
  have hle2 := hm.le
  have hq9 : ¬ (60 : Int) < (q : Int) := by omega
  clear hT h k hn hm
  rw [BG.eq] at c0 c1
  go_enter Tryd.func25, Tryd.ntmps25
  go_wp2_with fail
  rw [← BG.eq]
  refine HC1.out.mono ?_
  rintro r w1 ⟨rfl, hb1⟩
  clear c0 c1
  have hB1 := bcat2 hb1 (balloc w1 (.cells #[.int .i64 0, .int .i64 0] 28))
  obtain ⟨l0, l1, _, _⟩ := (blk_below BG.box2 hB1).two
  go_wp2_with fail
  refine (HC2.out _ (hv0.below hB1)).mono ?_
  rintro r w2 ⟨rfl, hb2⟩
  have hB2 := bcat2 (bcat2 hB1 hb2) (balloc w2 (.cells #[.int .i64 0, .int .i64 0] 28))
  clear l0 l1
  obtain ⟨l0, l1, _, _⟩ := (blk_below BG.box2 hB2).two
  obtain ⟨k0, k1, _, _⟩ := (blk_below BG.box hB2).two
  have hsz : w.heap.size + 1 + 1 + 1 < (w2.alloc (.cells #[.int .i64 0, .int .i64 0] 28)).heap.size := (blk_below BG.resF hB2).lt
  go_wp2_with fail
  generalize w2.alloc (.cells #[.int .i64 0, .int .i64 0] 28) = w3 at *
  refine (HM.out _ hB2).mono ?_
  rintro r w4 ⟨x, rfl, hx, hb4⟩
  obtain ⟨a9, cap9, pb9, po9, rfl, hr9, hp9, hq9', hm9, hbase⟩ := id hx
  have hB4 := bcat2 hB2 hb4
  generalize T.length = tl at *
  have hA4 := balloc w4 (.cells #[.int .i64 q, .slice a9 tl cap9] 24)
  have hB5 := bcat2 hB4 hA4
  have hG5 := blk_below BG.resG hB5
  have hF5 := blk_below BG.resF hB5
  have hX5 : Blk (w4.alloc (.cells #[.int .i64 q, .slice a9 tl cap9] 24)) w4.heap.size 24 [.int .i64 q, .slice a9 tl cap9] := blk0 _ _
  have hBw := bcat BG.bel hB5 BG.bel.size
  have hx5 : SlF w3.heap.size (w4.alloc (.cells #[.int .i64 q, .slice a9 tl cap9] 24)) (.slice a9 tl cap9) T := by
    obtain ⟨a, cp, pb, po, e1, e2, e3, e4, e5, e6⟩ := hx
    exact ⟨a, cp, pb, po, e1, e2.below hA4 e3, by simp; omega, e4, e5, e6⟩
  clear l0 l1 k0 k1
  obtain ⟨x0, x1, _, _⟩ := hX5.two
  obtain ⟨y0, y1, fy0, fy1⟩ := hG5.two
  obtain ⟨hG6, hB6⟩ := putG hG5 hBw (by omega) q (.slice a9 tl cap9)
  have hF6 := (hF5.other (p := ⟨w.heap.size + 1 + 1, 0, none⟩) (by simp) (.int .i64 q)).other (p := ⟨w.heap.size + 1 + 1, 1, none⟩) (by simp) (.slice a9 tl cap9)
  have hx6 := hx5.keep (w' := ((w4.alloc (.cells #[.int .i64 q, .slice a9 tl cap9] 24)).setCell ⟨w.heap.size + 1 + 1, 0, none⟩ (.int .i64 q)).setCell ⟨w.heap.size + 1 + 1, 1, none⟩ (.slice a9 tl cap9)) (fun b hb _ => by
    rw [Below.heap_setCell _ _ _ _ (by simp; omega), Below.heap_setCell _ _ _ _ (by simp; omega)]) (by rw [size_set, size_set]; exact Nat.le_refl _)
  obtain ⟨_, q0, q1, fq0, fq1, s0, s1⟩ := Two.mk' hF6
  obtain ⟨_, p0, p1, fp0, fp1, t0, t1⟩ := Two.mk' hF5
  clear hsz
  go_wp2
  generalize ((w4.alloc (.cells #[.int .i64 q, .slice a9 tl cap9] 24)).setCell ⟨w.heap.size + 1 + 1, 0, none⟩ (.int .i64 q)).setCell ⟨w.heap.size + 1 + 1, 1, none⟩ (.slice a9 tl cap9) = W at *
  obtain ⟨z0, z1, _, _⟩ := hG6.two
  exact bodyPost_ret (v := .tuple #[.agg #[.int .i64 q, .slice a9 tl cap9], .agg #[.int .i64 0, .int .i64 0]]) (by simp [results, Tryd.results25, go_sem, z0, z1, q0, q1]) rfl ⟨_, rfl, hx6.mono (Nat.le_trans BG.bel.size hB2.size), hB6⟩

/-- A block of a table that holds none: to store none again turns nothing. -/
theorem selfG {W : World} {b : Nat} (h : Blk W b 24 [.int .i64 0, .slice none 0 0]) : W.setCell ⟨b, 0, none⟩ (.int .i64 0) = W ∧ W.setCell ⟨b, 1, none⟩ (.slice none 0 0) = W :=
  ⟨setCell_self h (by simp), setCell_self h (by simp)⟩

set_option maxRecDepth 100000 in
set_option maxHeartbeats 4000000 in
theorem prod_bad1 (N M : Int) (zs : List Int) (u v : Value) (w : World) (hu : Sl w u zs) (hf : (gfault N zs).1 ≠ 0) :
    Calls Tryd.prog 25 #[.agg #[.int .i64 N, u], .agg #[.int .i64 M, v]] w fun r w' => r = .returned (.tuple #[.agg #[.int .i64 0, .slice none 0 0], .agg #[.int .i64 (gfault N zs).1, .int .i64 (gfault N zs).2]]) ∧ Below w.heap.size w w' := by
  obtain ⟨w0, BG⟩ := Beg2.new w N M u v
  have hu0 := hu.below BG.bel
  obtain ⟨c0, c1, _, _⟩ := BG.box.two
  have hck := check_any N u zs w0 hu0
  obtain ⟨c, i, hci⟩ : ∃ c i, gfault N zs = (c, i) := ⟨_, _, rfl⟩
  rw [hci] at hck hf ⊢
  have HC1 := hide hck
  have hc : ¬ c = 0 := hf
  have hcb : (c != 0) = true := by simpa using hc
  clear hck hci hf
  rw [BG.eq] at c0 c1
  go_enter Tryd.func25, Tryd.ntmps25
  go_wp2_with fail
  rw [← BG.eq]
  refine HC1.out.mono ?_
  rintro r w1 ⟨rfl, hb1⟩
  clear c0 c1
  have hB1 := bcat2 hb1 (balloc w1 (.cells #[.int .i64 c, .int .i64 i] 28))
  have hF1 : Blk (w1.alloc (.cells #[.int .i64 c, .int .i64 i] 28)) w1.heap.size 28 [.int .i64 c, .int .i64 i] := blk0 _ _
  have hG1 := blk_below BG.resG hB1
  have hR1 := blk_below BG.resF hB1
  have hBw := bcat BG.bel hB1 BG.bel.size
  obtain ⟨f0, f1, _, _⟩ := hF1.two
  obtain ⟨x0, x1, fx0, fx1⟩ := hG1.two
  obtain ⟨s0, s1⟩ := selfG hG1
  obtain ⟨y0, y1, fy0, fy1⟩ := hR1.two
  obtain ⟨hR6, hB6⟩ := put2 hR1 hBw (by omega) c i
  have hG6 := (hG1.other (p := ⟨w.heap.size + 1 + 1 + 1, 0, none⟩) (by simp) (.int .i64 c)).other (p := ⟨w.heap.size + 1 + 1 + 1, 1, none⟩) (by simp) (.int .i64 i)
  obtain ⟨t0, t1⟩ := selfG hG6
  go_wp2_with fail
  generalize w1.alloc (.cells #[.int .i64 c, .int .i64 i] 28) = w2 at *
  go_region
  go_wp2
  have hB7 := bdrew hB6
  have hR7 : Blk ((w2.setCell ⟨w.heap.size + 1 + 1 + 1, 0, none⟩ (.int .i64 c)).setCell ⟨w.heap.size + 1 + 1 + 1, 1, none⟩ (.int .i64 i)).drew (w.heap.size + 1 + 1 + 1) 28 [.int .i64 c, .int .i64 i] := hR6
  have hG7 : Blk ((w2.setCell ⟨w.heap.size + 1 + 1 + 1, 0, none⟩ (.int .i64 c)).setCell ⟨w.heap.size + 1 + 1 + 1, 1, none⟩ (.int .i64 i)).drew (w.heap.size + 1 + 1) 24 [.int .i64 0, .slice none 0 0] := hG6
  generalize ((w2.setCell ⟨w.heap.size + 1 + 1 + 1, 0, none⟩ (.int .i64 c)).setCell ⟨w.heap.size + 1 + 1 + 1, 1, none⟩ (.int .i64 i)).drew = W at hR7 hB7 hG7 ⊢
  obtain ⟨z0, z1, _, _⟩ := hR7.two
  obtain ⟨z2, z3, _, _⟩ := hG7.two
  exact bodyPost_ret (v := .tuple #[.agg #[.int .i64 0, .slice none 0 0], .agg #[.int .i64 c, .int .i64 i]]) (by simp [results, Tryd.results25, go_sem, z0, z1, z2, z3]) rfl ⟨rfl, hB7⟩

set_option maxRecDepth 100000 in
set_option maxHeartbeats 4000000 in
theorem prod_bad2 {n e : Nat} {zs : List Int} (h : IsGrp n zs e) (M : Int) (ys : List Int) (u v : Value) (w : World) (hu : Sl w u zs) (hv : Sl w v ys) (hf : (gfault M ys).1 ≠ 0) :
    Calls Tryd.prog 25 #[.agg #[.int .i64 n, u], .agg #[.int .i64 M, v]] w fun r w' => r = .returned (.tuple #[.agg #[.int .i64 0, .slice none 0 0], .agg #[.int .i64 (gfault M ys).1, .int .i64 (gfault M ys).2]]) ∧ Below w.heap.size w w' := by
  obtain ⟨w0, BG⟩ := Beg2.new w n M u v
  have hu0 := hu.below BG.bel
  have hv0 := hv.below BG.bel
  obtain ⟨c0, c1, _, _⟩ := BG.box.two
  have HC1 := hide (check_any n u zs w0 hu0)
  rw [gfault_of_grp h] at HC1
  have HC2 := hide (fun W (h : Sl W v ys) => check_any M v ys W h)
  obtain ⟨c, i, hci⟩ : ∃ c i, gfault M ys = (c, i) := ⟨_, _, rfl⟩
  rw [hci] at HC2 hf ⊢
  have hc : ¬ c = 0 := hf
  have hcb : (c != 0) = true := by simpa using hc
  clear hci hf h
  rw [BG.eq] at c0 c1
  go_enter Tryd.func25, Tryd.ntmps25
  go_wp2_with fail
  rw [← BG.eq]
  refine HC1.out.mono ?_
  rintro r w8 ⟨rfl, hb8⟩
  clear c0 c1
  have hB8 := bcat2 hb8 (balloc w8 (.cells #[.int .i64 0, .int .i64 0] 28))
  obtain ⟨l0, l1, _, _⟩ := (blk_below BG.box2 hB8).two
  go_wp2_with fail
  refine (HC2.out _ (hv0.below hB8)).mono ?_
  rintro r w1 ⟨rfl, hb1⟩
  clear l0 l1
  have hB1 := bcat2 (bcat2 hB8 hb1) (balloc w1 (.cells #[.int .i64 c, .int .i64 i] 28))
  have hF1 : Blk (w1.alloc (.cells #[.int .i64 c, .int .i64 i] 28)) w1.heap.size 28 [.int .i64 c, .int .i64 i] := blk0 _ _
  have hG1 := blk_below BG.resG hB1
  have hR1 := blk_below BG.resF hB1
  have hBw := bcat BG.bel hB1 BG.bel.size
  obtain ⟨f0, f1, _, _⟩ := hF1.two
  obtain ⟨x0, x1, fx0, fx1⟩ := hG1.two
  obtain ⟨s0, s1⟩ := selfG hG1
  obtain ⟨y0, y1, fy0, fy1⟩ := hR1.two
  obtain ⟨hR6, hB6⟩ := put2 hR1 hBw (by omega) c i
  have hG6 := (hG1.other (p := ⟨w.heap.size + 1 + 1 + 1, 0, none⟩) (by simp) (.int .i64 c)).other (p := ⟨w.heap.size + 1 + 1 + 1, 1, none⟩) (by simp) (.int .i64 i)
  obtain ⟨t0, t1⟩ := selfG hG6
  go_wp2_with fail
  generalize w1.alloc (.cells #[.int .i64 c, .int .i64 i] 28) = w2 at *
  go_region
  go_wp2
  have hB7 := bdrew hB6
  have hR7 : Blk ((w2.setCell ⟨w.heap.size + 1 + 1 + 1, 0, none⟩ (.int .i64 c)).setCell ⟨w.heap.size + 1 + 1 + 1, 1, none⟩ (.int .i64 i)).drew (w.heap.size + 1 + 1 + 1) 28 [.int .i64 c, .int .i64 i] := hR6
  have hG7 : Blk ((w2.setCell ⟨w.heap.size + 1 + 1 + 1, 0, none⟩ (.int .i64 c)).setCell ⟨w.heap.size + 1 + 1 + 1, 1, none⟩ (.int .i64 i)).drew (w.heap.size + 1 + 1) 24 [.int .i64 0, .slice none 0 0] := hG6
  generalize ((w2.setCell ⟨w.heap.size + 1 + 1 + 1, 0, none⟩ (.int .i64 c)).setCell ⟨w.heap.size + 1 + 1 + 1, 1, none⟩ (.int .i64 i)).drew = W at hR7 hB7 hG7 ⊢
  obtain ⟨z0, z1, _, _⟩ := hR7.two
  obtain ⟨z2, z3, _, _⟩ := hG7.two
  exact bodyPost_ret (v := .tuple #[.agg #[.int .i64 0, .slice none 0 0], .agg #[.int .i64 c, .int .i64 i]]) (by simp [results, Tryd.results25, go_sem, z0, z1, z2, z3]) rfl ⟨rfl, hB7⟩

set_option maxRecDepth 100000 in
set_option maxHeartbeats 4000000 in
theorem prod_bad3 {n m e d : Nat} {zs ys : List Int} (h : IsGrp n zs e) (k : IsGrp m ys d) (h60 : 60 < n * m) (u v : Value) (w : World) (hu : Sl w u zs) (hv : Sl w v ys) :
    Calls Tryd.prog 25 #[.agg #[.int .i64 n, u], .agg #[.int .i64 m, v]] w fun r w' => r = .returned (.tuple #[.agg #[.int .i64 0, .slice none 0 0], .agg #[.int .i64 9, .int .i64 0]]) ∧ Below w.heap.size w w' := by
  obtain ⟨w0, BG⟩ := Beg2.new w n m u v
  have hu0 := hu.below BG.bel
  have hv0 := hv.below BG.bel
  obtain ⟨c0, c1, _, _⟩ := BG.box.two
  have HC1 := hide (check_any n u zs w0 hu0)
  have HC2 := hide (fun W (h : Sl W v ys) => check_any m v ys W h)
  rw [gfault_of_grp h] at HC1
  rw [gfault_of_grp k] at HC2
  have hle1 := h.tab.le
  have hle2 := k.tab.le
  have hnm : n * m ≤ 60 * 60 := Nat.mul_le_mul hle1 hle2
  have hmul : (n : Int) * (m : Int) = ((n * m : Nat) : Int) := by rw [Int.natCast_mul]
  generalize n * m = q at *
  have hq9 : (60 : Int) < (q : Int) := by omega
  clear h k
  rw [BG.eq] at c0 c1
  go_enter Tryd.func25, Tryd.ntmps25
  go_wp2_with fail
  rw [← BG.eq]
  refine HC1.out.mono ?_
  rintro r w8 ⟨rfl, hb8⟩
  clear c0 c1
  have hB8 := bcat2 hb8 (balloc w8 (.cells #[.int .i64 0, .int .i64 0] 28))
  obtain ⟨l0, l1, _, _⟩ := (blk_below BG.box2 hB8).two
  go_wp2_with fail
  refine (HC2.out _ (hv0.below hB8)).mono ?_
  rintro r w1 ⟨rfl, hb1⟩
  clear l0 l1
  have hB1 := bcat2 (bcat2 hB8 hb1) (balloc w1 (.cells #[.int .i64 0, .int .i64 0] 28))
  obtain ⟨l0, l1, _, _⟩ := (blk_below BG.box2 hB1).two
  obtain ⟨k0, k1, _, _⟩ := (blk_below BG.box hB1).two
  have hG1 := blk_below BG.resG hB1
  have hR1 := blk_below BG.resF hB1
  have hBw := bcat BG.bel hB1 BG.bel.size
  obtain ⟨x0, x1, fx0, fx1⟩ := hG1.two
  obtain ⟨s0, s1⟩ := selfG hG1
  obtain ⟨y0, y1, fy0, fy1⟩ := hR1.two
  obtain ⟨hR6, hB6⟩ := put2 hR1 hBw (by omega) 9 0
  have hG6 := (hG1.other (p := ⟨w.heap.size + 1 + 1 + 1, 0, none⟩) (by simp) (.int .i64 9)).other (p := ⟨w.heap.size + 1 + 1 + 1, 1, none⟩) (by simp) (.int .i64 0)
  go_wp2
  generalize ((w1.alloc (.cells #[.int .i64 0, .int .i64 0] 28)).setCell ⟨w.heap.size + 1 + 1 + 1, 0, none⟩ (.int .i64 9)).setCell ⟨w.heap.size + 1 + 1 + 1, 1, none⟩ (.int .i64 0) = W at *
  obtain ⟨z0, z1, _, _⟩ := hR6.two
  obtain ⟨z2, z3, _, _⟩ := hG6.two
  exact bodyPost_ret (v := .tuple #[.agg #[.int .i64 0, .slice none 0 0], .agg #[.int .i64 9, .int .i64 0]]) (by simp [results, Tryd.results25, go_sem, z0, z1, z2, z3]) rfl ⟨rfl, hB6⟩

/-- Where there is no product, a fault is told. -/
theorem prod_any (N M : Int) (zs ys : List Int) (u v : Value) :
    (∃ n m e d : Nat, N = n ∧ M = m ∧ IsGrp n zs e ∧ IsGrp m ys d ∧ n * m ≤ 60) ∨
      ∃ c i : Int, c ≠ 0 ∧ ∀ W, Sl W u zs → Sl W v ys → Calls Tryd.prog 25 #[.agg #[.int .i64 N, u], .agg #[.int .i64 M, v]] W fun r w' => r = .returned (.tuple #[.agg #[.int .i64 0, .slice none 0 0], .agg #[.int .i64 c, .int .i64 i]]) ∧ Below W.heap.size W w' := by
  by_cases h1 : (gfault N zs).1 = 0
  · obtain ⟨n, e, rfl, hg, _⟩ := gfault_grp h1
    by_cases h2 : (gfault M ys).1 = 0
    · obtain ⟨m, d, rfl, hh, _⟩ := gfault_grp h2
      by_cases h3 : n * m ≤ 60
      · exact .inl ⟨n, m, e, d, rfl, rfl, hg, hh, h3⟩
      · exact .inr ⟨9, 0, by simp, fun W a b => prod_bad3 hg hh (by omega) u v W a b⟩
    · exact .inr ⟨_, _, h2, fun W a b => prod_bad2 hg M ys u v W a b h2⟩
  · exact .inr ⟨_, _, h1, fun W a _ => prod_bad1 N M zs u v W a h1⟩
theorem prod_ok {n m e d : Nat} {zs ys : List Int} (h : IsGrp n zs e) (k : IsGrp m ys d) (h60 : n * m ≤ 60) (u v : Value) (w : World) (hu : Sl w u zs) (hv : Sl w v ys) :
    Calls Tryd.prog 25 #[.agg #[.int .i64 n, u], .agg #[.int .i64 m, v]] w fun r w' => ∃ x, r = .returned (.tuple #[.agg #[.int .i64 (n * m : Nat), x], .agg #[.int .i64 0, .int .i64 0]]) ∧ Sl w' x (mkT (n * m) (prodF n m zs ys)) ∧ Below w.heap.size w w' := by
  refine (prod_okF h k h60 u v w hu hv).mono ?_
  rintro r w' ⟨x, rfl, hx, hb⟩
  exact ⟨x, rfl, hx.sl, hb⟩
end Go.Proofs.YtanbpjfdfnmjpaaDoor

namespace Go.Proofs.YtanbpjfdfnmjpaaDoor
open Go Go.RowKit

set_option maxRecDepth 100000 in
theorem pp1_ok (hb db m d a : Nat) (y : Value) (w : World) (hm : 1 ≤ m) (hm6 : m ≤ 60) (hg : BoxG w hb m y) (hd : Boxed w db 3 (.int .i64 d)) :
    Calls Tryd.prog 28 #[.int .i64 a, .pointer (some ⟨hb, 0, none⟩), .pointer (some ⟨db, 0, none⟩)] w fun x w' => x = .returned (.bool (decide (a % m = d))) ∧ Below w.heap.size w w' := by
  obtain ⟨c0, c1, _, _⟩ := hg.two
  have c2 := hd.cell
  have y1 := nmod (x := (a : Int)) (y := a) (m := m) rfl
  have hm0 : ¬ ((m : Int) = 0) := by omega
  have hm1 : ¬ m = 0 := by omega
  have hm2 : ((m : Int) == 0) = false := by simp; omega
  have h5 := Nat.mod_lt a (show m > 0 by omega)
  generalize a % m = r at *
  have hw : IntKind.i64.wrap (r : Int) = (r : Int) := by rw [IntKind.wrap_i64]; omega
  go_enter Tryd.func28, Tryd.ntmps28
  go_wp2_with fail
  go_quiet (fail)
  go_wp2
  go_ret
  exact ⟨retB (by rw [Bool.eq_iff_iff]; simp <;> omega), bdrewN (Below.refl _ _) nq⟩
set_option maxRecDepth 100000 in
theorem pp2_ok (hb eb m e a : Nat) (y : Value) (w : World) (hm : 1 ≤ m) (hm6 : m ≤ 60) (hg : BoxG w hb m y) (hd : Boxed w eb 3 (.int .i64 e)) (ha : a ≤ 3600) :
    Calls Tryd.prog 29 #[.int .i64 a, .pointer (some ⟨hb, 0, none⟩), .pointer (some ⟨eb, 0, none⟩)] w fun x w' => x = .returned (.bool (decide (a / m = e))) ∧ Below w.heap.size w w' := by
  obtain ⟨c0, c1, _, _⟩ := hg.two
  have c2 := hd.cell
  have y1 := ndiv (x := a) (y := m)
  have hm0 : ¬ ((m : Int) = 0) := by omega
  have hm1 : ¬ m = 0 := by omega
  have hm2 : ((m : Int) == 0) = false := by simp; omega
  have h5 : a / m ≤ a := Nat.div_le_self _ _
  generalize a / m = r at *
  have hw : IntKind.i64.wrap (r : Int) = (r : Int) := by rw [IntKind.wrap_i64]; omega
  go_enter Tryd.func29, Tryd.ntmps29
  go_wp2_with fail
  go_quiet (fail)
  go_wp2
  go_ret
  exact ⟨retB (by rw [Bool.eq_iff_iff]; simp <;> omega), bdrewN (Below.refl _ _) nq⟩
theorem call28 (a : Int) (x y : Value) (W : World) : Sem.run Tryd.prog (callFunc 28 (#[.int .i64 a] ++ #[x, y])) W = .ok (.enter 28 (#[.int .i64 a] ++ #[x, y])) W := by kernel_rfl
theorem call29 (a : Int) (x y : Value) (W : World) : Sem.run Tryd.prog (callFunc 29 (#[.int .i64 a] ++ #[x, y])) W = .ok (.enter 29 (#[.int .i64 a] ++ #[x, y])) W := by kernel_rfl

/-- The two parts of a product. -/
def pA (m d : Nat) (x : Nat) : Bool := decide (x % m = d)
def pB (m e : Nat) (x : Nat) : Bool := decide (x / m = e)
variable {n m e d : Nat} {zs ys : List Int}
theorem prod_tm {a b : Nat} (ha : a < n * m) (hb : b < n * m) : tm (n * m) (mkT (n * m) (prodF n m zs ys)) a b = tm n zs (a / m) (b / m) * m + tm m ys (a % m) (b % m) := by
  rw [tm_mk ha hb]
  rfl
theorem prod_div (h : IsGrp m ys d) {a b : Nat} (ha : a < n * m) (hb : b < n * m) : (tm (n * m) (mkT (n * m) (prodF n m zs ys)) a b) / m = tm n zs (a / m) (b / m) ∧ (tm (n * m) (mkT (n * m) (prodF n m zs ys)) a b) % m = tm m ys (a % m) (b % m) := by
  obtain ⟨a1, a2, _⟩ := pair_parts ha
  obtain ⟨b1, b2, _⟩ := pair_parts hb
  rw [prod_tm ha hb]
  exact dm' (tm_lt h.tab a2 b2)
theorem pA_sub (g : IsGrp n zs e) (h : IsGrp m ys d) (h60 : n * m ≤ 60) : subT (n * m) (mkT (n * m) (prodF n m zs ys)) (e * m + d) (pA m d) = true := by
  have G := prod_grp g h h60
  refine subT_iff.2 ⟨?_, fun a b ha hb h1 h2 => ?_⟩
  · unfold pA
    exact decide_eq_true (dm' h.elt).2
  · have ha' := List.mem_range.1 ha
    have hb' := List.mem_range.1 hb
    have h1' : a % m = d := of_decide_eq_true h1
    have h2' : b % m = d := of_decide_eq_true h2
    unfold pA
    refine decide_eq_true ?_
    rw [(prod_div h ha' hb').2, h1', h2']
    exact h.left d h.elt
theorem pB_sub (g : IsGrp n zs e) (h : IsGrp m ys d) (h60 : n * m ≤ 60) : subT (n * m) (mkT (n * m) (prodF n m zs ys)) (e * m + d) (pB m e) = true := by
  have G := prod_grp g h h60
  refine subT_iff.2 ⟨?_, fun a b ha hb h1 h2 => ?_⟩
  · unfold pB
    exact decide_eq_true (dm' h.elt).1
  · have ha' := List.mem_range.1 ha
    have hb' := List.mem_range.1 hb
    have h1' : a / m = e := of_decide_eq_true h1
    have h2' : b / m = e := of_decide_eq_true h2
    unfold pB
    refine decide_eq_true ?_
    rw [(prod_div h ha' hb').1, h1', h2']
    exact g.left e g.elt
theorem pair_tog (g : IsGrp n zs e) (h : IsGrp m ys d) (h60 : n * m ≤ 60) : TogP (n * m) (mkT (n * m) (prodF n m zs ys)) (e * m + d) (pA m d) (pB m e) := by
  have G := prod_grp g h h60
  refine ⟨fun a ha h1 h2 => ?_, fun a ha => ?_, fun a b ha hb h1 h2 => ?_⟩
  · have h1' : a % m = d := of_decide_eq_true h1
    have h2' : a / m = e := of_decide_eq_true h2
    rw [← h1', ← h2']
    exact (pair_parts ha).2.2.symm
  · obtain ⟨a1, a2, a3⟩ := pair_parts ha
    have hx := pair_lt a1 h.elt
    have hy := pair_lt g.elt a2
    have key : tm (n * m) (mkT (n * m) (prodF n m zs ys)) (a / m * m + d) (e * m + a % m) = a := by
      rw [prod_tm hx hy, (dm' h.elt).1, (dm' h.elt).2, (dm' a2).1, (dm' a2).2, g.right _ a1, h.left _ a2]
      exact a3
    rw [← key]
    refine (Fin.Gen.sg _).mul _ _ (List.mem_range.2 hx) (List.mem_range.2 hy) (Fin.Gen.base (List.mem_range.2 hx) ?_) (Fin.Gen.base (List.mem_range.2 hy) ?_)
    · simp [pA, (dm' h.elt).2]
    · simp [pB, (dm' a2).1]
  · have h1' : a % m = d := of_decide_eq_true h1
    have h2' : b / m = e := of_decide_eq_true h2
    obtain ⟨a1, a2, _⟩ := pair_parts ha
    obtain ⟨b1, b2, _⟩ := pair_parts hb
    rw [prod_tm ha hb, prod_tm hb ha, h1', h2', g.right _ a1, g.left _ a1, h.left _ b2, h.right _ b2]
/-- The same of tests that are the same at all things. -/
theorem tog_congr {q r q' r' : Nat → Bool} (T : TogP n zs e q r) (hq : ∀ a, a < n → q' a = q a) (hr : ∀ a, a < n → r' a = r a) : TogP n zs e q' r' :=
  ⟨fun a ha h1 h2 => T.meet a ha (by rw [← hq a ha]; exact h1) (by rw [← hr a ha]; exact h2),
    fun a ha => Fin.Gen.mono (fun x hx h => by show (q' x || r' x) = true; rw [hq x (List.mem_range.1 hx), hr x (List.mem_range.1 hx)]; exact h) (T.all a ha),
    fun a b ha hb h1 h2 => T.com a b ha hb (by rw [← hq a ha]; exact h1) (by rw [← hr b hb]; exact h2)⟩
end Go.Proofs.YtanbpjfdfnmjpaaDoor
