/- What nat's Plus answers: the sum. -/
import Derived.Test.YtojnjfkonaeegaaDoorQPar
namespace Go.Proofs.YtojnjfkonaeegaaDoorQ
open Go Go.RowKit

theorem own_of_blk {W : World} {B g n : Nat} {l : List Nat} (h : Blk W g 89 (us l)) (hb : B ≤ g) (hn : n = l.length) (hm : l.length ≤ 2000000) : W.ownsRow B 89 1 (.slice (some ⟨g, 0, none⟩) n n) l.length (us l) := by
  subst hn
  exact ⟨by simp [us], .inr ⟨g, l.length, (us l).toArray, rfl, hb, h, Nat.le_refl _, by unfold maxLen; omega, by simp [us], by rw [Nat.mul_one]; exact List.take_of_length_le (by simp [us])⟩⟩
theorem UReads.bel {w W : World} {a : Option Addr} {g B : Nat} {l : List Nat} (h : UReads w a g l) (hg : 0 < l.length → g < B) (hb : Below B w W) : UReads W a g l :=
  ⟨h.at_, fun j hj => (World.cell?_of_block (a := ⟨g, j, none⟩) (hb.block g (hg (by omega)))).trans (h.cell j hj)⟩
theorem bcat2 {a b c : World} (h : Below a.heap.size a b) (k : Below b.heap.size b c) : Below a.heap.size a c := h.trans (k.mono h.size)
theorem us_app (a b : List Nat) : us (a ++ b) = us a ++ us b := by simp [us]
theorem us_len (a : List Nat) : (us a).length = a.length := by simp [us]
/-- The next part is written. -/
theorem row_set (l : List Nat) (n k x : Nat) (hk : k < n) (hl : l.length = k) : (us (l ++ List.replicate (n - k) 0)).set k (.int .u64 (x : Int)) = us ((l ++ [x]) ++ List.replicate (n - (k + 1)) 0) := by
  obtain ⟨d, hd⟩ : ∃ d, n - k = d + 1 := ⟨n - k - 1, by omega⟩
  rw [hd, show n - (k + 1) = d by omega, List.replicate_succ]
  simp only [us, List.map_append, List.map_cons, List.map_nil]
  rw [List.set_append_right _ _ (by simp; omega)]
  simp [hl]

set_option maxRecDepth 100000 in
set_option maxHeartbeats 1000000 in
theorem plus_ok (va vb : Value) (n m p q : Nat) (w : World) (ha : UN w 0 va n p) (hb : UN w 0 vb m q) (hp : p ≤ 1000000) (hq : q ≤ 1000000) :
    Calls Tryd.prog 68 #[.agg #[va], .agg #[vb]] w fun e w' => ∃ v, e = .returned (.agg #[v]) ∧ UN w' w.heap.size v (n + m) (max p q + 1) ∧ Below w.heap.size w w' := by
  obtain ⟨i0, hi, hz0, hz1, hz2⟩ := info_parts info89
  obtain ⟨ps, ho1, hs1, hl1, rfl, hle1⟩ := ha
  obtain ⟨qs, ho2, hs2, hl2, rfl, hle2⟩ := hb
  obtain ⟨a, g, cap, rfl, hr, hcap, hcm, hg⟩ := UReads.of_own ho1
  obtain ⟨b, h, cap2, rfl, hr2, hcap2, hcm2, hg2⟩ := UReads.of_own ho2
  obtain ⟨K, hK⟩ : ∃ K, max ps.length qs.length = K := ⟨_, rfl⟩
  have hNl : ps.length ≤ K ∧ qs.length ≤ K ∧ K ≤ max p q ∧ K ≤ 1000000 := by omega
  obtain ⟨k1, k2, k3, k4⟩ := hNl
  have hmx : max (ps.length : Int) (qs.length : Int) = (K : Int) := by omega
  clear hK ho1 ho2
  have HM := hide hcm
  have HM2 := hide hcm2
  clear hcm hcm2
  go_enter Tryd.func68, Tryd.ntmps68
  go_wp2_with (first
    | (at_make; refine wpList_make_full _ rfl _ _ 58 rfl (w.heap.size + 3) 89 i0 (.int .u64 0) 1 under79 hi hz0 hz1 _ _ _ _ (K + 1) rfl rfl rfl rfl (by rw [hz2]; omega) (by unfold maxLen; omega) (by simp) ?_))
  intro w1 hown1 hg1
  have hb0 : Blk w1 w.heap.size 60 [.slice a ps.length cap] := by
    refine (hg1.block w.heap.size (by simp; omega) (by simp)).trans ?_
    rw [Below.heap_alloc _ _ _ (by simp only [World.size_alloc]; omega), Below.heap_alloc _ _ _ (by simp)]; exact World.alloc_heap_new w _
  have hb1 : Blk w1 (w.heap.size + 1) 60 [.slice b qs.length cap2] := by
    refine (hg1.block (w.heap.size + 1) (by simp only [World.size_alloc]; omega) (by simp)).trans ?_
    rw [Below.heap_alloc _ _ _ (by simp)]
    have := World.alloc_heap_new (w.alloc (.cells #[.slice a ps.length cap] 60)) (.cells #[.slice b qs.length cap2] 60)
    rw [World.size_alloc] at this; exact this
  have hb2 : Blk w1 (w.heap.size + 2) 60 [.slice none 0 0] := by
    refine (hg1.block (w.heap.size + 2) (by simp) (by simp)).trans ?_
    have := World.alloc_heap_new ((w.alloc (.cells #[.slice a ps.length cap] 60)).alloc (.cells #[.slice b qs.length cap2] 60)) (.cells #[.slice none 0 0] 60)
    rw [World.size_alloc, World.size_alloc] at this; exact this
  have hB1 : Below w.heap.size w w1 := ((((Below.refl _ w).alloc (Nat.le_refl _) _).alloc (by simp) _).alloc (by simp; omega) _).grown hg1 (by simp; omega) (by simp)
  have hP1 : Blk w1 (w.heap.size + 3) 89 (us ((pls (pt ps) (pt qs) 0).1 ++ List.replicate (K + 1 - 0) 0)) := by
    have := Blk.of_owns (by simpa using hown1)
    rw [made_rep] at this
    unfold us; rw [List.map_append, List.map_replicate]; exact this
  clear hown1 hg1
  go_wp2
  go_loopw [6, 20] (fun c i wr => ∃ k : Nat, k ≤ K + 1 ∧ i = .int .i64 k ∧ c = .int .u64 ((pls (pt ps) (pt qs) k).2 : Nat) ∧ Blk wr (w.heap.size + 3) 89 (us ((pls (pt ps) (pt qs) k).1 ++ List.replicate (K + 1 - k) 0)) ∧
      Blk wr w.heap.size 60 [.slice a ps.length cap] ∧ Blk wr (w.heap.size + 1) 60 [.slice b qs.length cap2] ∧ Blk wr (w.heap.size + 2) 60 [.slice none 0 0] ∧ Below w.heap.size w wr)
    (fun _ i _ => K + 1 - (intOf i).toNat)
  case atStart => exact ⟨0, by omega, rfl, rfl, hP1, hb0, hb1, hb2, hB1⟩
  case round =>
    obtain ⟨k, hk, rfl, rfl, hPk, hbk0, hbk1, hbk2, hBk⟩ := hrel
    clear hP1 hb0 hb1 hb2 hB1
    have hcl := pls_carry (pt_small hs1) (pt_small hs2) k
    have hll := pls_len (pt ps) (pt qs) k
    by_cases hlt : k < K + 1
    · have hki : (k : Int) < (K : Int) + 1 := by omega
      have hs : pls (pt ps) (pt qs) (k + 1) = ((pls (pt ps) (pt qs) k).1 ++ [(pt ps k + pt qs k + (pls (pt ps) (pt qs) k).2) % 1000000000], (pt ps k + pt qs k + (pls (pt ps) (pt qs) k).2) / 1000000000) := rfl
      have hx := pt_small hs1 k
      have hy := pt_small hs2 k
      have HP1 := hide (fun W (h : Below w.heap.size w W) => part_any a cap g k ps W (hr.bel hg h) (fun h0 => Nat.lt_of_lt_of_le (hg h0) h.size) (by omega))
      have HP2 := hide (fun W (h : Below w.heap.size w W) => part_any b cap2 _ k qs W (hr2.bel hg2 h) (fun h0 => Nat.lt_of_lt_of_le (hg2 h0) h.size) (by omega))
      have c0 := hbk0.cell 0
      have c1 := hbk1.cell 0
      have hS : ∀ W, Below wr.heap.size wr W → (Below wr.heap.size wr W ∧ Below w.heap.size w W ∧ W.cell? ⟨w.heap.size, 0, none⟩ = some (.slice a ps.length cap) ∧ W.cell? ⟨w.heap.size + 1, 0, none⟩ = some (.slice b qs.length cap2)) := fun W h =>
        ⟨h, hBk.trans (h.mono hBk.size), (World.cell?_of_block (a := ⟨w.heap.size, 0, none⟩) (h.block _ hbk0.lt)).trans c0, (World.cell?_of_block (a := ⟨w.heap.size + 1, 0, none⟩) (h.block _ hbk1.lt)).trans c1⟩
      have hS0 := hS _ ⟨rfl, rfl, rfl, Nat.le_refl _, fun _ _ => rfl⟩
      have hS1 := hS wr.drew ⟨rfl, rfl, rfl, Nat.le_refl _, fun _ _ => rfl⟩
      obtain ⟨x, hxe⟩ : ∃ x, pt ps k = x := ⟨_, rfl⟩
      obtain ⟨y, hye⟩ : ∃ y, pt qs k = y := ⟨_, rfl⟩
      rw [hxe] at HP1 hx hs
      rw [hye] at HP2 hy hs
      generalize pls (pt ps) (pt qs) k = pk at *
      obtain ⟨l, c⟩ := pk
      simp only at hcl hll hs hPk
      have HH := hide (And.intro hs (And.intro hPk (And.intro hbk0 (And.intro hbk1 (And.intro hbk2 (And.intro hBk hll))))))
      clear hs hPk hbk0 hbk1 hbk2 hBk hll c0 c1 hxe hye
      have hw1 : IntKind.u64.wrap ((x : Int) + (y : Int)) = (x : Int) + (y : Int) := by rw [IntKind.wrap_u64]; omega
      obtain ⟨s, hsx⟩ : ∃ s : Nat, x + y + c = s := ⟨_, rfl⟩
      have hw2 : IntKind.u64.wrap ((x : Int) + (y : Int) + (c : Int)) = (s : Int) := by rw [IntKind.wrap_u64]; omega
      have hst : (s : Int).tmod 1000000000 = ((s % 1000000000 : Nat) : Int) := by rw [Int.tmod_eq_emod_of_nonneg (by omega)]; rfl
      have hsd : (s : Int).tdiv 1000000000 = ((s / 1000000000 : Nat) : Int) := by rw [Int.tdiv_eq_ediv_of_nonneg (by omega)]; rfl
      rw [hsx] at HH
      have hsl : s < 2000000000 := by omega
      obtain ⟨r, hre⟩ : ∃ r, s % 1000000000 = r := ⟨_, rfl⟩
      obtain ⟨d, hde⟩ : ∃ d, s / 1000000000 = d := ⟨_, rfl⟩
      have hrl : r < 1000000000 := by omega
      have hdl : d < 3 := by omega
      rw [hre] at hst HH
      rw [hde] at hsd HH
      have hwr : IntKind.u64.wrap (r : Int) = (r : Int) := by rw [IntKind.wrap_u64]; omega
      have hwd : IntKind.u64.wrap (d : Int) = (d : Int) := by rw [IntKind.wrap_u64]; omega
      clear hsx hre hde
      go_wp2_with fail
      go_region_held3 (fun W => Below wr.heap.size wr W ∧ Below w.heap.size w W ∧ W.cell? ⟨w.heap.size, 0, none⟩ = some (.slice a ps.length cap) ∧ W.cell? ⟨w.heap.size + 1, 0, none⟩ = some (.slice b qs.length cap2))
        (first | exact hS0 | exact hS1 | assumption | exact hS _ (bcat2 (And.left ‹_›) hl1))
        (first
          | (go_at_call_of 86 (Value.agg #[.slice a ps.length cap]); refine (HP1.out _ (And.left (And.right ‹_›))).mono ?_; rintro e1 W1 ⟨rfl, hl1⟩)
          | (go_at_call_of 86 (Value.agg #[.slice b qs.length cap2]); refine (HP2.out _ (And.left (And.right ‹_›))).mono ?_; rintro e2 W2 ⟨rfl, hl1⟩))
      obtain ⟨hW1, hW2, _, _⟩ := ‹Below wr.heap.size wr W2 ∧ _›
      obtain ⟨hs, hPk, hbk0, hbk1, hbk2, hBk, hll⟩ := HH.out
      have hP2 := hPk.of_eq (hW1.block _ hPk.lt)
      have hc2 : W2.cell? ⟨w.heap.size + 3, k, none⟩ = some (.int .u64 0) := by
        rw [hP2.cell k, us_app, List.getElem?_append_right (by rw [us_len]; omega), us_len, hll, Nat.sub_self]
        obtain ⟨d, hd⟩ : ∃ d, K + 1 - k = d + 1 := ⟨K - k, by omega⟩
        rw [hd, List.replicate_succ]; rfl
      have hf2 := hP2.frozen k
      have hP3 := hP2.set k (.int .u64 (r : Int))
      rw [row_set _ _ _ _ hlt hll] at hP3
      have b0 := (hbk0.of_eq (hW1.block _ hbk0.lt)).other (p := ⟨w.heap.size + 3, k, none⟩) (by simp) (.int .u64 (r : Int))
      have b1 := (hbk1.of_eq (hW1.block _ hbk1.lt)).other (p := ⟨w.heap.size + 3, k, none⟩) (by simp) (.int .u64 (r : Int))
      have b2 := (hbk2.of_eq (hW1.block _ hbk2.lt)).other (p := ⟨w.heap.size + 3, k, none⟩) (by simp) (.int .u64 (r : Int))
      have b3 := hW2.setCell (p := ⟨w.heap.size + 3, k, none⟩) (by simp) (.int .u64 (r : Int))
      have HG := hide (And.intro hs (And.intro hP3 (And.intro b0 (And.intro b1 (And.intro b2 b3)))))
      clear hs hP3 b0 b1 b2 b3 hPk hbk0 hbk1 hbk2 hBk hP2 hS hS0 hS1 HH
      go_wp2
      go_roundw
      case rel => exact ⟨k + 1, by omega, by go_num, by rw [HG.out.1], by rw [HG.out.1]; exact HG.out.2.1, HG.out.2.2⟩
      case measure => simp [intOf]; omega
    · have hke : k = K + 1 := by omega
      subst hke
      have hval := pls_all hs1 hs2 (n := K + 1) (by omega) (by omega)
      have hsm := pls_small (pt ps) (pt qs) (K + 1)
      rw [Nat.sub_self, List.replicate_zero, List.append_nil] at hPk
      generalize pls (pt ps) (pt qs) (K + 1) = pk at *
      obtain ⟨l, c⟩ := pk
      simp only at hcl hll hval hsm hPk
      have hur : UReads wr (some ⟨w.heap.size + 3, 0, none⟩) (w.heap.size + 3) l := ⟨fun _ => rfl, fun j hj => by
        rw [hPk.cell j]; unfold us; rw [List.getElem?_map, List.getElem?_eq_getElem hj]; rfl⟩
      have hres : ∀ W, W.heap[w.heap.size + 3]? = wr.heap[w.heap.size + 3]? → UN W w.heap.size (.slice (some ⟨w.heap.size + 3, 0, none⟩) (trm l).length (K + 1)) (val ps + val qs) (max p q + 1) := by
        intro W hW
        obtain ⟨t1, _, t3⟩ := trm_facts l
        have tl := trm_len l
        refine ⟨trm l, ?_, trm_small hsm, t3, by rw [t1]; exact hval, by omega⟩
        have h0 := own_of_blk (B := w.heap.size) (n := K + 1) (hPk.of_eq hW) (by omega) hll.symm (by omega)
        rw [hll] at h0
        have h1 := owns_take (k := (trm l).length) h0 (by omega)
        have e : (us l).take (trm l).length = us (trm l) := by
          unfold us
          rw [← List.map_take]
          congr 1
          exact (trm_take l).symm
        rwa [e] at h1
      have HR := hide hres
      have HL := hide hll
      clear hval hsm hres hll hPk
      have hbx2 := hbk2.frozen 0
      have hbx1 := hbk2.cell 0
      have hkn : ¬ (K : Int) + 1 < (K : Int) + 1 := by omega
      go_wp2_with fail
      refine (trimmed_any (w.heap.size + 3) (K + 1) (K + 1) l _ HL.out.symm hur (by rw [HL.out]; omega) (by unfold maxLen; omega)).mono ?_
      rintro e w2 ⟨rfl, rfl⟩
      have hN := hbk2.set 0 (.slice (some ⟨w.heap.size + 3, 0, none⟩) (trm l).length (K + 1))
      have hBn : Below w.heap.size w (w2.setCell ⟨w.heap.size + 2, 0, none⟩ (.slice (some ⟨w.heap.size + 3, 0, none⟩) (trm l).length (K + 1))) := hBk.setCell (by simp) _
      have hU := HR.out (w2.setCell ⟨w.heap.size + 2, 0, none⟩ (.slice (some ⟨w.heap.size + 3, 0, none⟩) (trm l).length (K + 1))) (Below.heap_setCell _ _ _ _ (by simp))
      go_wp2
      have hc1 := hN.cell 0
      exact bodyPost_ret (v := .agg #[.slice (some ⟨w.heap.size + 3, 0, none⟩) (trm l).length (K + 1)]) (by simp [results, Tryd.results68, go_sem, hc1]) rfl ⟨_, rfl, hU, hBn⟩

end Go.Proofs.YtojnjfkonaeegaaDoorQ
