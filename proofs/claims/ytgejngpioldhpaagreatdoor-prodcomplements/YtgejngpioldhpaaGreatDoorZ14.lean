/- Package prod: what Complements answers: at what is wrong; where the subgroup is not normal; where there are too many things; and at a normal subgroup. Condition: the library's table of places lies as its text lays it. Package prod: what Complements answers at a normal subgroup of a group of at most 24 things. Condition: the library's table of places lies as its text lays it. What the document's C answers. The document's IsNormal, and what is wrong with a normal subgroup. What the document's Gcd answers. The law ProdComplements at what is wrong: its walk. Condition: the library's table of places lies as its text lays it. -/
import Derived.Test.YtgejngpioldhpaaGreatDoorZ11
import Derived.Test.YtgejngpioldhpaaGreatDoorZ3
import Derived.Test.YtgejngpioldhpaaGreatDoorZ8
import Derived.Test.YtgejngpioldhpaaGreatDoorZ13
namespace Go.Proofs.YtgejngpioldhpaaGreatDoor
open Go Go.RowKit

set_option maxRecDepth 100000 in
set_option maxHeartbeats 4000000 in
theorem cmp_bad (N c i : Int) (b : Bool) (v l : Value) (w : World)
    (HN : Hid (∀ W, Below w.heap.size w W → Calls Tryz.prog 24 #[.agg #[.int .i64 N, v], l] W fun x W' => x = .returned (.tuple #[.bool b, .agg #[.int .i64 c, .int .i64 i]]) ∧ Below W.heap.size W W')) (hc : c ≠ 0) :
    Calls Tryz.prog 5 #[.agg #[.int .i64 N, v], l] w fun x w' => x = .returned (.tuple #[.slice none 0 0, .agg #[.int .i64 c, .int .i64 i]]) ∧ Below w.heap.size w w' := by
  obtain ⟨w0, BG⟩ := Beg.new w N v
  obtain ⟨c0, c1, _, _⟩ := BG.box.two
  have hcb : (c != 0) = true := by simpa using hc
  rw [BG.eq] at c0 c1
  go_enter Tryz.func5, Tryz.ntmps5
  go_wp2_with fail
  rw [← BG.eq]
  refine (HN.out _ BG.bel).mono ?_
  rintro x w1 ⟨rfl, hb1⟩
  clear c0 c1
  obtain ⟨w2, hw2⟩ : ∃ w2, w2 = w1.alloc (.cells #[.int .i64 c, .int .i64 i] 27) := ⟨_, rfl⟩
  have hB1 : Below w0.heap.size w0 w2 := by rw [hw2]; exact bcat2 hb1 (balloc w1 _)
  have hF1 : Blk w2 w1.heap.size 27 [.int .i64 c, .int .i64 i] := by rw [hw2]; exact blk0 (w := w1) (T := 27) (.int .i64 c) (.int .i64 i)
  have hR1 := blk_below BG.res hB1
  have hBw := bcat BG.bel hB1 BG.bel.size
  obtain ⟨y0, y1, fy0, fy1⟩ := hR1.two
  obtain ⟨t0, t1, _, _⟩ := hF1.two
  obtain ⟨hR6, hB6⟩ := put2 hR1 hBw (by omega) c i
  obtain ⟨z0, z1, _, _⟩ := hR6.two
  rw [hw2] at t0 t1
  go_wp2_with fail
  rw [← hw2]
  rw [← hw2] at t0 t1
  clear hw2
  go_region
  all_goals (
    go_wp2
    exact bodyPost_ret (v := .tuple #[.slice none 0 0, .agg #[.int .i64 c, .int .i64 i]]) (by simp [results, Tryz.results5, go_sem, z0, z1]) rfl ⟨rfl, bdrew hB6⟩)

set_option maxRecDepth 100000 in
set_option maxHeartbeats 4000000 in
theorem cmp_not (N : Int) (v l : Value) (w : World)
    (HN : Hid (∀ W, Below w.heap.size w W → Calls Tryz.prog 24 #[.agg #[.int .i64 N, v], l] W fun x W' => x = .returned (.tuple #[.bool false, .agg #[.int .i64 0, .int .i64 0]]) ∧ Below W.heap.size W W')) :
    Calls Tryz.prog 5 #[.agg #[.int .i64 N, v], l] w fun x w' => x = .returned (.tuple #[.slice none 0 0, .agg #[.int .i64 4, .int .i64 0]]) ∧ Below w.heap.size w w' := by
  obtain ⟨w0, BG⟩ := Beg.new w N v
  obtain ⟨c0, c1, _, _⟩ := BG.box.two
  rw [BG.eq] at c0 c1
  go_enter Tryz.func5, Tryz.ntmps5
  go_wp2_with fail
  rw [← BG.eq]
  refine (HN.out _ BG.bel).mono ?_
  rintro x w1 ⟨rfl, hb1⟩
  clear c0 c1
  obtain ⟨w2, hw2⟩ : ∃ w2, w2 = w1.alloc (.cells #[.int .i64 0, .int .i64 0] 27) := ⟨_, rfl⟩
  have hB1 : Below w0.heap.size w0 w2 := by rw [hw2]; exact bcat2 hb1 (balloc w1 _)
  have hF1 : Blk w2 w1.heap.size 27 [.int .i64 0, .int .i64 0] := by rw [hw2]; exact blk0 (w := w1) (T := 27) (.int .i64 0) (.int .i64 0)
  have hR1 := blk_below BG.res hB1
  have hBw := bcat BG.bel hB1 BG.bel.size
  obtain ⟨y0, y1, fy0, fy1⟩ := hR1.two
  obtain ⟨t0, t1, _, _⟩ := hF1.two
  obtain ⟨hR6, hB6⟩ := put2 hR1 hBw (by omega) 4 0
  obtain ⟨z0, z1, _, _⟩ := hR6.two
  rw [hw2] at t0 t1 y0 y1 fy0 fy1
  go_wp2
  rw [← hw2]
  exact bodyPost_ret (v := .tuple #[.slice none 0 0, .agg #[.int .i64 4, .int .i64 0]]) (by simp [results, Tryz.results5, go_sem, z0, z1]) rfl ⟨rfl, hB6⟩

set_option maxRecDepth 100000 in
set_option maxHeartbeats 4000000 in
theorem cmp_many (N c i : Int) (v l : Value) (w : World)
    (HN : Hid (∀ W, Below w.heap.size w W → Calls Tryz.prog 24 #[.agg #[.int .i64 N, v], l] W fun x W' => x = .returned (.tuple #[.bool true, .agg #[.int .i64 0, .int .i64 0]]) ∧ Below W.heap.size W W'))
    (HO : Hid (∀ W, Below w.heap.size w W → Calls Tryz.prog 25 #[.agg #[.int .i64 N, v]] W fun x W' => x = .returned (.tuple #[.agg #[.int .i64 0, .slice none 0 0, .int .i64 0, .slice none 0 0], .slice none 0 0, .agg #[.int .i64 c, .int .i64 i]]) ∧ Below W.heap.size W W')) (hc : c ≠ 0) :
    Calls Tryz.prog 5 #[.agg #[.int .i64 N, v], l] w fun x w' => x = .returned (.tuple #[.slice none 0 0, .agg #[.int .i64 c, .int .i64 i]]) ∧ Below w.heap.size w w' := by
  obtain ⟨w0, BG⟩ := Beg.new w N v
  obtain ⟨c0, c1, _, _⟩ := BG.box.two
  have hcb : (c != 0) = true := by simpa using hc
  rw [BG.eq] at c0 c1
  go_enter Tryz.func5, Tryz.ntmps5
  go_wp2_with fail
  rw [← BG.eq]
  refine (HN.out _ BG.bel).mono ?_
  rintro x w1 ⟨rfl, hb1⟩
  clear c0 c1
  obtain ⟨w2, hw2⟩ : ∃ w2, w2 = w1.alloc (.cells #[.int .i64 0, .int .i64 0] 27) := ⟨_, rfl⟩
  have hb12 : Below w1.heap.size w1 w2 := by rw [hw2]; exact balloc w1 _
  have hB1 : Below w0.heap.size w0 w2 := bcat2 hb1 hb12
  have hF2 : Blk w2 w1.heap.size 27 [.int .i64 0, .int .i64 0] := by rw [hw2]; exact blk0 (w := w1) (T := 27) (.int .i64 0) (.int .i64 0)
  have hs2 : w2.heap.size = w1.heap.size + 1 := by rw [hw2]; simp
  obtain ⟨t0, t1, _, _⟩ := hF2.two
  obtain ⟨k0, k1, _, _⟩ := (blk_below BG.box hB1).two
  have hBw2 := bcat BG.bel hB1 BG.bel.size
  rw [hw2] at t0 t1 k0 k1
  go_wp2_with fail
  rw [← hw2]
  refine (HO.out _ hBw2).mono ?_
  rintro x w3 ⟨rfl, hb3⟩
  clear t0 t1 k0 k1 hw2
  obtain ⟨w4, hw4⟩ : ∃ w4, w4 = w3.alloc (.cells #[.int .i64 0, .slice none 0 0, .int .i64 0, .slice none 0 0] 51) := ⟨_, rfl⟩
  have hb34 : Below w3.heap.size w3 w4 := by rw [hw4]; exact balloc w3 _
  have hF4 := blk_below hF2 (bcat2 hb3 hb34)
  have hb14 := bcat2 hb12 (bcat2 hb3 hb34)
  obtain ⟨f0, f1, ff0, ff1⟩ := hF4.two
  obtain ⟨hF5, hb15⟩ := put2 hF4 hb14 (Nat.le_refl _) c i
  have hB05 := bcat2 hb1 hb15
  have hR5 := blk_below BG.res hB05
  have hBw5 := bcat BG.bel hB05 BG.bel.size
  obtain ⟨e0, e1, _, _⟩ := hF5.two
  rw [hw4] at f0 f1 ff0 ff1 e0 e1
  go_wp2_with fail
  rw [← hw4]
  rw [← hw4] at e0 e1
  clear f0 f1 ff0 ff1 hw4
  generalize (w4.setCell ⟨w1.heap.size, 0, none⟩ (.int .i64 c)).setCell ⟨w1.heap.size, 1, none⟩ (.int .i64 i) = w5 at *
  obtain ⟨y0, y1, fy0, fy1⟩ := hR5.two
  obtain ⟨hR6, hB6⟩ := put2 hR5 hBw5 (by omega) c i
  obtain ⟨z0, z1, _, _⟩ := hR6.two
  go_region
  all_goals (
    go_wp2
    exact bodyPost_ret (v := .tuple #[.slice none 0 0, .agg #[.int .i64 c, .int .i64 i]]) (by simp [results, Tryz.results5, go_sem, z0, z1]) rfl ⟨rfl, bdrew hB6⟩)
end Go.Proofs.YtgejngpioldhpaaGreatDoor

namespace Go.Proofs.YtgejngpioldhpaaGreatDoor
open Go Go.RowKit

set_option maxRecDepth 100000 in
set_option maxHeartbeats 8000000 in
theorem cmp_good (n e : Nat) (v l : Value) (zs ls : List Int) (w : World) (hv : Sl w v zs) (hl : Sl w l ls) (hg : IsGrp n zs e) (hT : Tab w) (h24 : n ≤ 24) (hlf : lfault n ls = (0, 0))
    (HN : Hid (∀ W, Below w.heap.size w W → Calls Tryz.prog 24 #[.agg #[.int .i64 n, v], l] W fun x W' => x = .returned (.tuple #[.bool true, .agg #[.int .i64 0, .int .i64 0]]) ∧ Below W.heap.size W W')) :
    Calls Tryz.prog 5 #[.agg #[.int .i64 n, v], l] w fun x w' => ∃ (r : Value) (P : List (Nat → Bool)) (ms : List (List Int)), x = .returned (.tuple #[r, .agg #[.int .i64 0, .int .i64 0]]) ∧ (∃ k, P.length ≤ k ∧ SInv n zs e P k 0) ∧ ms.Perm (P.map fun p => li (lst n p)) ∧ srt ms ∧ SlL w' r (ms.filter (cplB n zs e (pset ls))) ∧ Below w.heap.size w w' := by
  have hn := hg.tab.le
  obtain ⟨va, vl, vc, rfl⟩ := hv.isSlice
  obtain ⟨la, ll, lc, rfl⟩ := hl.isSlice
  obtain ⟨w0, BG⟩ := Beg.new w n (.slice va vl vc)
  obtain ⟨c0, c1, _, _⟩ := BG.box.two
  rw [BG.eq] at c0 c1
  go_enter Tryz.func5, Tryz.ntmps5
  go_wp2_with fail
  rw [← BG.eq]
  refine (HN.out _ BG.bel).mono ?_
  rintro x w1 ⟨rfl, hb1⟩
  clear c0 c1
  obtain ⟨w2, hw2⟩ : ∃ w2, w2 = w1.alloc (.cells #[.int .i64 0, .int .i64 0] 27) := ⟨_, rfl⟩
  have hb12 : Below w1.heap.size w1 w2 := by rw [hw2]; exact balloc w1 _
  have hB1 : Below w0.heap.size w0 w2 := bcat2 hb1 hb12
  have hF2 : Blk w2 w1.heap.size 27 [.int .i64 0, .int .i64 0] := by rw [hw2]; exact blk0 (w := w1) (T := 27) (.int .i64 0) (.int .i64 0)
  have hs2 : w2.heap.size = w1.heap.size + 1 := by rw [hw2]; simp
  obtain ⟨t0, t1, _, _⟩ := hF2.two
  obtain ⟨k0, k1, _, _⟩ := (blk_below BG.box hB1).two
  have hBw2 := bcat BG.bel hB1 BG.bel.size
  have HO := hide (opens_good n e (.slice va vl vc) zs w2 (hv.below hBw2) hg (hT.below hBw2) h24)
  rw [hw2] at t0 t1 k0 k1
  go_wp2_with fail
  rw [← hw2]
  refine HO.out.mono ?_
  rintro x w3 ⟨u9, g, r2, r3, B, P, ms, us, rfl, hSI, hpm, hsr, hB0, hB3, hul, hrow, hls, hGA, ⟨gb, hgb, hGU⟩, hb3⟩
  obtain ⟨ia, il, ic, rfl⟩ := hGA.sl.isSlice
  have hgw : g < w3.heap.size := by
    rcases hrow.2 with ⟨h1, _⟩ | ⟨g', cap, cur, h1, _, hh9, _⟩
    · cases h1
    · injection h1 with h1
      injection h1 with h1
      injection h1 with h1
      subst h1
      exact (Array.getElem?_eq_some_iff.1 hh9).1
  have hgB : B ≤ g := owns_ge hrow g rfl
  have hms := hls.1
  have HSI := hide hSI
  have HPM := hide hpm
  have HSR := hide hsr
  clear t0 t1 k0 k1 hw2 HO hSI hpm hsr
  obtain ⟨w4, hw4⟩ : ∃ w4, w4 = w3.alloc (.cells #[.int .i64 n, .slice va vl vc, .int .i64 e, .slice ia il ic] 51) := ⟨_, rfl⟩
  have hs4 : w4.heap.size = w3.heap.size + 1 := by rw [hw4]; simp
  have hb34 : Below w3.heap.size w3 w4 := by rw [hw4]; exact balloc w3 _
  have hH4 : Blk w4 w3.heap.size 51 [.int .i64 n, .slice va vl vc, .int .i64 e, .slice ia il ic] := by rw [hw4]; exact blk4 _ _ _ _
  have hF4 := blk_below hF2 (bcat2 hb3 hb34)
  have hb14 := bcat2 hb12 (bcat2 hb3 hb34)
  have hs3 := hb3.size
  obtain ⟨f0, f1, ff0, ff1⟩ := hF4.two
  obtain ⟨fs0, fs1⟩ := hF4.self
  have hB04 := bcat2 hb1 hb14
  have hR4 := blk_below BG.res hB04
  have hBw4 := bcat BG.bel hB04 BG.bel.size
  have HOF := hide (of_set n (.slice la ll lc) ls w4 hn (hl.below hBw4) hlf)
  have HRW := hide hrow
  have HLS := hide hls
  have HMS0 := hide hms
  clear hrow hls hms
  rw [hw4] at f0 f1 ff0 ff1 fs0 fs1
  go_wp2_with fail
  rw [← hw4]
  have hrow := HRW.out
  have hls := HLS.out
  have hms := HMS0.out
  clear HRW HLS HMS0
  refine HOF.out.mono ?_
  rintro x w6 ⟨rfl, hb6⟩
  clear f0 f1 ff0 ff1 fs0 fs1 hw4 HOF
  obtain ⟨w7, hw7⟩ : ∃ w7, w7 = w6.alloc (.cells #[.int .u64 (bs (pset ls) n : Nat)] 55) := ⟨_, rfl⟩
  have hb67 : Below w6.heap.size w6 w7 := by rw [hw7]; exact balloc w6 _
  have hS7 : Boxed w7 w6.heap.size 55 (.int .u64 (bs (pset ls) n : Nat)) := by rw [hw7]; exact Boxed.new w6 55 _
  have hb37 : Below w3.heap.size w3 w7 := bcat2 hb34 (bcat2 hb6 hb67)
  have hb47 : Below w4.heap.size w4 w7 := bcat2 hb6 hb67
  have hH7 := blk_below hH4 hb47
  have hR7 := blk_below hR4 hb47
  have hBw7 := bcat2 hBw4 hb47
  have hrow7 := own_keep2 hrow (fun b _ h2 => hb37.block b h2)
  have hls7 := hls.keep (W' := w7) (r' := .slice (some ⟨g, 0, none⟩) r2 r3) hb37.size (fun b _ h2 _ => hb37.block b h2) (.inl rfl)
  have hGU7 := hGU.below hb37
  have hs6 := hb6.size
  have hs37 := hb37.size
  have hev := vals_ev hls7
  subst hul
  have hrow9 : w7.ownsRow B 22 1 (.slice (some ⟨g, 0, none⟩) us.length r3) us.length (ev (vA us) (vL us) (vC us) (List.range us.length)) := by rw [hev]; exact hrow7
  have hwB : w.heap.size ≤ B := Nat.le_trans hBw2.size hB0
  have hp : ∀ (W : World) (s : Nat), Kp w7 W B g → s ∈ List.range us.length → Calls Tryz.prog 28 (#[.slice (vA us s) (vL us s) (vC us s)] ++ #[.pointer (some ⟨w3.heap.size, 0, none⟩), .pointer (some ⟨w6.heap.size, 0, none⟩)]) W fun x W' => x = .returned (.bool (!cplB n zs e (pset ls) (ms[s]?.getD []))) ∧ Below W.heap.size W W' := fun W s hK hs => by
    have hs' := List.mem_range.1 hs
    have hBW : Below w.heap.size w W := hBw7.trans (hK.bel.mono hwB)
    have hmem : ms[s]?.getD [] ∈ ms := by rw [List.getElem?_eq_getElem (by omega)]; exact List.getElem_mem _
    obtain ⟨p, _, hp2⟩ := List.mem_map.1 (HPM.out.mem_iff.1 hmem)
    have hlf9 : lfault n (ms[s]?.getD []) = (0, 0) := by rw [← hp2]; exact lst_fault n p
    have hsl := vals_sl hls7 (g := g) rfl hK.blk hK.bel.size hs'
    rw [set_lst (show (lfault n (ms[s]?.getD [])).1 = 0 by rw [hlf9])] at hsl
    have hGW : GA W n (.slice va vl vc) e (.slice ia il ic) zs := ⟨hg, hv.below hBW, (hGU7.keep (fun k h1 h2 => hK.blk k h2 (by omega)) hK.bel.size).sl⟩
    exact cpl1_ok n e w3.heap.size w6.heap.size va vl vc ia il ic _ _ _ zs (pset ls) (pset (ms[s]?.getD [])) _ W hGW (hT.below hBW) (hH7.of_eq (hK.blk _ hH7.lt (by omega))) ((hK.blk _ hS7.lt (by omega)).trans hS7) hsl (mdq_iff n zs e _)
  have hB7 : B ≤ w7.heap.size := Nat.le_trans hB3 hs37
  have HDL := deleteL_ok 28 B g #[.pointer (some ⟨w3.heap.size, 0, none⟩), .pointer (some ⟨w6.heap.size, 0, none⟩)] r3 (vA us) (vL us) (vC us) (List.range us.length) (fun s => !cplB n zs e (pset ls) (ms[s]?.getD [])) w7 (by have := hT.lt; omega) hB7 (by rw [List.length_range]; exact hrow9) (fun x W => call28 x _ _ W) hp
  rw [List.length_range] at HDL
  have HD := hide HDL
  have HL7 := hide hls7
  have HMS := hide hms
  clear HDL hp hev hrow9 hrow7 hrow hls hGA hGU hGU7 hls7 hms hH7 hH4 hS7 hF2 hF4 hR4
  obtain ⟨y0, y1, fy0, fy1⟩ := hR7.two
  rw [hw7] at y0 y1 fy0 fy1
  go_wp2_with fail
  rw [← hw7]
  refine HD.out.mono ?_
  rintro x w8 ⟨r, rfl, hE, hK⟩
  clear y0 y1 fy0 fy1 hw7 HD
  have hfl : ((List.range us.length).filter fun s => !!cplB n zs e (pset ls) (ms[s]?.getD [])).map (fun s => ms[s]?.getD []) = ms.filter (cplB n zs e (pset ls)) := by
    rw [← range_filter, ← HMS.out]
    simp only [Bool.not_not]
  have hSL := hE.slL (f := fun s => ms[s]?.getD []) (fun s hs => vals_sl HL7.out (g := g) rfl hK.blk hK.bel.size (List.mem_range.1 (List.mem_filter.1 hs).1))
  rw [hfl] at hSL
  obtain ⟨ra, rl, rc, rfl⟩ := hSL.isSlice
  have hrb : w.heap.size + 1 < B := by
    have h1 := BG.bel.size
    have h2 : w0.heap.size = w.heap.size + 1 + 1 := by rw [BG.eq]; simp
    have h3 := hB1.size
    omega
  have hR8 := hR7.of_eq (hK.bel.block _ hrb)
  have hBw8 : Below w.heap.size w w8 := hBw7.trans (hK.bel.mono hwB)
  obtain ⟨y0, y1, fy0, fy1⟩ := hR8.two
  obtain ⟨s0, s1⟩ := hR8.self
  have HSL := hide hSL
  have HB8 := hide hBw8
  clear hSL hE hfl hBw8 hR8 hR7
  go_wp2
  exact bodyPost_ret (v := .tuple #[.slice ra rl rc, .agg #[.int .i64 0, .int .i64 0]]) (by simp [results, Tryz.results5, go_sem, y0, y1]) rfl ⟨_, P, ms, rfl, HSI.out, HPM.out, HSR.out, HSL.out, HB8.out⟩
end Go.Proofs.YtgejngpioldhpaaGreatDoor

namespace Go.Proofs.YtgejngpioldhpaaGreatDoor
open Go Go.RowKit
set_option maxRecDepth 100000 in
set_option maxHeartbeats 4000000 in
theorem rcj_ok (n e a b : Nat) (v : Value) (zs : List Int) (w : World) (g : IsGrp n zs e) (hv : Sl w v zs) (ha : a < n) (hb : b < n) :
    Calls Tryz.prog 58 #[.agg #[.int .i64 n, v], .int .i64 a, .int .i64 b] w fun x w' => x = .returned (.int .i64 (Fin.cj (tm n zs) (iv n zs e) a b)) ∧ Below w.heap.size w w' := by
  have hB0 : Below w.heap.size w (w.alloc (.cells #[.int .i64 n, v] 24)) := balloc w _
  have hX0 : BoxG (w.alloc (.cells #[.int .i64 n, v] 24)) w.heap.size n v := blk0 _ _
  obtain ⟨w0, hw0⟩ : ∃ w0, w0 = w.alloc (.cells #[.int .i64 n, v] 24) := ⟨_, rfl⟩
  rw [← hw0] at hB0 hX0
  have hv0 := hv.below hB0
  obtain ⟨c0, c1, _, _⟩ := hX0.two
  obtain ⟨hib, _, _, _⟩ := iv_spec g hb
  have hab := tm_lt g.tab ha hb
  show Calls Tryz.prog 58 _ w fun x w' => x = .returned (.int .i64 (tm n zs (iv n zs e b) (tm n zs a b))) ∧ Below w.heap.size w w'
  have HI := hide (fun W x (h : Below w0.heap.size w0 W) (hx : x < n) => Iiv_ok n x e v zs W g (hv0.below h) hx)
  have HM := hide (fun W x y (h : Below w0.heap.size w0 W) (hx : x < n) (hy : y < n) => M_ok n v zs x y W g.tab (hv0.below h) hx hy)
  have hS : ∀ W, Below w0.heap.size w0 W → (Below w0.heap.size w0 W ∧ W.cell? ⟨w.heap.size, 0, none⟩ = some (.int .i64 n) ∧ W.cell? ⟨w.heap.size, 1, none⟩ = some v) := fun W h => ⟨h, below_cell h c0, below_cell h c1⟩
  have hS0 := hS _ (bdrew (Below.refl _ w0))
  clear c0 c1
  go_enter Tryz.func58, Tryz.ntmps58
  go_wp2_with fail
  rw [← hw0]
  clear hw0
  go_region_held3 (fun W => Below w0.heap.size w0 W ∧ W.cell? ⟨w.heap.size, 0, none⟩ = some (.int .i64 n) ∧ W.cell? ⟨w.heap.size, 1, none⟩ = some v)
    (first | exact hS0 | assumption | exact hS _ (bcat2 (And.left ‹_›) hl1))
    (first
      | (go_at_call 48; refine (HI.out _ _ (And.left ‹_›) (by assumption)).mono ?_; rintro e1 U1 ⟨rfl, hl1⟩)
      | (go_at_call 42; refine (HM.out _ _ _ (And.left ‹_›) (by assumption) (by assumption)).mono ?_; rintro e1 U1 ⟨rfl, hl1⟩))
  all_goals (
    have hB9 := And.left ‹Below w0.heap.size w0 U1 ∧ _›
    clear hS hS0
    go_wp2
    go_ret
    exact ⟨rfl, bcat2 hB0 hB9⟩)
end Go.Proofs.YtgejngpioldhpaaGreatDoor

namespace Go.Proofs.YtgejngpioldhpaaGreatDoor
open Go Go.RowKit

theorem rcj_lt {n e x a : Nat} {zs : List Int} (g : IsGrp n zs e) (hx : x < n) (ha : a < n) : Fin.cj (tm n zs) (iv n zs e) x a < n := List.mem_range.1 (Fin.cj_mem (grp_fg g) (grp_iv g) (List.mem_range.2 hx) (List.mem_range.2 ha))
end Go.Proofs.YtgejngpioldhpaaGreatDoor

namespace Go.Proofs.YtgejngpioldhpaaGreatDoor
open Go Go.RowKit

def isn (n : Nat) (zs : List Int) (e : Nat) (xs : List Nat) : Bool := (List.range n).all fun a => xs.all fun x => decide (Fin.cj (tm n zs) (iv n zs e) x a ∈ xs)
theorem isn_iff {n e : Nat} {zs : List Int} {xs : List Nat} : isn n zs e xs = true ↔ ∀ a, a < n → ∀ x, x ∈ xs → Fin.cj (tm n zs) (iv n zs e) x a ∈ xs := by
  unfold isn
  simp only [List.all_eq_true, List.mem_range, decide_eq_true_eq]

set_option maxRecDepth 100000 in
set_option maxHeartbeats 8000000 in
theorem isnorm_ok (n e : Nat) (v u : Value) (zs : List Int) (xs : List Nat) (w : World) (hv : Sl w v zs) (hg : IsGrp n zs e) (hu : Sl w u (li xs)) (hx : ∀ x, x ∈ xs → x < n) (hxl : xs.length ≤ 100000) :
    Calls Tryz.prog 32 #[.agg #[.int .i64 n, v], u] w fun x w' => x = .returned (.bool (isn n zs e xs)) ∧ Below w.heap.size w w' := by
  have HSUB := hide (isn_iff (n := n) (zs := zs) (e := e) (xs := xs))
  have hn := hg.tab.le
  have hB0 : Below w.heap.size w (w.alloc (.cells #[.int .i64 n, v] 24)) := balloc w _
  have hX0 : BoxG (w.alloc (.cells #[.int .i64 n, v] 24)) w.heap.size n v := blk0 _ _
  obtain ⟨ua, ucap, pb, po, rfl, hur, hup, huq, hum⟩ := id hu
  have HUR := hide hur
  have HX := hide hx
  have HHS := hide (fun a W (h : Below w.heap.size w W) => has_sl _ xs a W (hu.below h))
  clear hur hx hum
  rw [li_len] at *
  have HUL := hide (li_len xs)
  go_enter Tryz.func32, Tryz.ntmps32
  go_wp2
  generalize w.alloc (.cells #[.int .i64 n, v] 24) = w2 at *
  go_loopw [5] (fun i wr => ∃ k : Nat, k ≤ n ∧ i = .int .i64 k ∧ (∀ t, t < k → ∀ y, y ∈ xs → Fin.cj (tm n zs) (iv n zs e) y t ∈ xs) ∧ Below w2.heap.size w2 wr) (fun i _ => n - (intOf i).toNat)
  case atStart => exact ⟨0, Nat.zero_le _, rfl, fun t ht => by omega, Below.refl _ _⟩
  case round =>
    obtain ⟨k, hk, rfl, hno, hB⟩ := hrel
    have HNO := hide hno
    clear hno
    have hXr := blk_below hX0 hB
    obtain ⟨g0, g1, _, _⟩ := hXr.two
    by_cases hlt : k < n
    · have hki : (k : Int) < (n : Int) := by omega
      go_wp2
      clear g0 g1
      generalize hwo : wr = wrO at *
      go_loopw [6] (fun i wr' => ∃ j : Nat, j ≤ xs.length ∧ i = .int .i64 j ∧ (∀ t, (ht : t < xs.length) → t < j → Fin.cj (tm n zs) (iv n zs e) xs[t] k ∈ xs) ∧ Below wrO.heap.size wrO wr') (fun i _ => xs.length - (intOf i).toNat)
      case atStart => exact ⟨0, Nat.zero_le _, rfl, fun t _ ht => by omega, Below.refl _ _⟩
      case round =>
        obtain ⟨j, hj, rfl, hnj, hBj⟩ := hrel
        have HNJ := hide hnj
        clear hnj
        have hBw := bcat2 hB0 (bcat2 hB hBj)
        by_cases hltj : j < xs.length
        · have hcj := (HUR.out.below hBw hup).cell j (by rw [HUL.out]; exact hltj)
          rw [li_get hltj] at hcj
          obtain rfl := HUR.out.at_ (by rw [HUL.out]; omega)
          obtain ⟨y, hye⟩ : ∃ y, xs[j] = y := ⟨_, rfl⟩
          have hym : y ∈ xs := by rw [← hye]; exact List.getElem_mem hltj
          have hyn : y < n := HX.out _ hym
          rw [hye] at hcj
          have HYE := hide hye
          clear hye
          have hji : (j : Int) < (xs.length : Int) := by omega
          obtain ⟨g0, g1, _, _⟩ := (blk_below hXr hBj).two
          have hvr := hv.below hBw
          have HMM := hide (fun W (h : Below wr.heap.size wr W) => rcj_ok n e y k v zs W hg (hvr.below h) hyn hlt)
          have HH := hide (fun W (h : Below wr.heap.size wr W) => HHS.out (Fin.cj (tm n zs) (iv n zs e) y k) W (bcat2 hBw h))
          have hS : ∀ W, Below wr.heap.size wr W → (Below wr.heap.size wr W ∧ W.cell? ⟨w.heap.size, 0, none⟩ = some (.int .i64 n) ∧ W.cell? ⟨w.heap.size, 1, none⟩ = some v ∧ W.cell? ⟨pb, po + j, none⟩ = some (.int .i64 y)) := fun W h => ⟨h, below_cell h g0, below_cell h g1, below_cell h hcj⟩
          have hS0 := hS _ (bdrew (Below.refl _ wr))
          clear g0 g1 hcj
          by_cases htin : Fin.cj (tm n zs) (iv n zs e) y k ∈ xs
          · rw [decide_eq_true htin] at HH
            have HTQ := hide htin
            obtain ⟨t, ht⟩ : ∃ t, Fin.cj (tm n zs) (iv n zs e) y k = t := ⟨_, rfl⟩
            rw [ht] at HMM HH
            clear ht htin
            go_wp2_with fail
            go_region_held3 (fun W => Below wr.heap.size wr W ∧ W.cell? ⟨w.heap.size, 0, none⟩ = some (.int .i64 n) ∧ W.cell? ⟨w.heap.size, 1, none⟩ = some v ∧ W.cell? ⟨pb, po + j, none⟩ = some (.int .i64 y))
              (first | exact hS0 | assumption | exact hS _ (bcat2 (And.left ‹_›) hl1))
              (first
                | (go_at_call 58; refine (HMM.out _ (And.left ‹_›)).mono ?_; rintro e1 U1 ⟨rfl, hl1⟩)
                | (go_at_call 40; refine (HH.out _ (And.left ‹_›)).mono ?_; rintro e2 U2 ⟨rfl, hl1⟩))
            all_goals (
              have hB9 := And.left ‹Below wr.heap.size wr U2 ∧ _›
              clear hS hS0 HH HMM hl1
              go_wp2
              go_roundw
              case rel => exact ⟨j + 1, by omega, by go_num, fun t9 h1 h2 => by
                by_cases e9 : t9 = j
                · subst e9; rw [HYE.out]; exact HTQ.out
                · exact HNJ.out t9 h1 (by omega), bcat2 hBj hB9⟩
              case measure => simp [intOf]; omega)
          · rw [decide_eq_false htin] at HH
            have HD := hide (show isn n zs e xs = false by
              rw [← Bool.not_eq_true]
              exact fun h => htin (HSUB.out.1 h k hlt y hym))
            clear htin
            generalize Fin.cj (tm n zs) (iv n zs e) y k = t at *
            go_wp2_with fail
            go_region_held3 (fun W => Below wr.heap.size wr W ∧ W.cell? ⟨w.heap.size, 0, none⟩ = some (.int .i64 n) ∧ W.cell? ⟨w.heap.size, 1, none⟩ = some v ∧ W.cell? ⟨pb, po + j, none⟩ = some (.int .i64 y))
              (first | exact hS0 | assumption | exact hS _ (bcat2 (And.left ‹_›) hl1))
              (first
                | (go_at_call 58; refine (HMM.out _ (And.left ‹_›)).mono ?_; rintro e1 U1 ⟨rfl, hl1⟩)
                | (go_at_call 40; refine (HH.out _ (And.left ‹_›)).mono ?_; rintro e2 U2 ⟨rfl, hl1⟩))
            all_goals (
              have hB9 := And.left ‹Below wr.heap.size wr U2 ∧ _›
              go_wp2
              go_ret
              exact ⟨by rw [HD.out]; rfl, bcat2 hBw hB9⟩)
        · go_wp2
          go_roundw
          case rel => exact ⟨k + 1, by omega, by go_num, fun t h2 y hy => by
            by_cases e9 : t = k
            · subst e9
              obtain ⟨t9, h9, rfl⟩ := List.mem_iff_getElem.1 hy
              exact HNJ.out t9 h9 (by omega)
            · exact HNO.out t (by omega) y hy, bcat2 hB hBj⟩
          case measure => simp [intOf]; omega
    · have HD := hide (show isn n zs e xs = true from HSUB.out.2 (fun a ha => HNO.out a (by omega)))
      go_wp2
      go_ret
      exact ⟨by rw [HD.out]; rfl, bcat2 hB0 hB⟩
end Go.Proofs.YtgejngpioldhpaaGreatDoor

namespace Go.Proofs.YtgejngpioldhpaaGreatDoor
open Go Go.RowKit

theorem isn_eq {n e : Nat} {zs : List Int} {q : Nat → Bool} (g : IsGrp n zs e) : isn n zs e (lst n q) = nrmq n zs e q := by
  rw [Bool.eq_iff_iff, isn_iff, nrm_iff g]
  unfold Fin.Nm
  simp only [mem_lst, List.mem_range]
  exact ⟨fun h x a hx ha hq => (h a ha x ⟨hx, hq⟩).2, fun h a ha x hx => ⟨rcj_lt g hx.1 ha, h x a hx.1 ha hx.2⟩⟩
/-- What is wrong with a normal subgroup. -/
def qfault (N : Int) (zs l : List Int) : Int × Int := if (ufault N zs l).1 ≠ 0 then ufault N zs l else if nrmq N.toNat zs (one N.toNat zs).toNat (pset l) then (0, 0) else (4, 0)
theorem qfault_bad {N : Int} {zs l : List Int} (h : (ufault N zs l).1 ≠ 0) : qfault N zs l = ufault N zs l := by unfold qfault; rw [if_pos h]
theorem qfault_u {n e : Nat} {zs l : List Int} (g : IsGrp n zs e) (h : ufault n zs l = (0, 0)) : qfault n zs l = if nrmq n zs e (pset l) then (0, 0) else (4, 0) := by
  unfold qfault
  rw [h, if_neg (by simp), Int.toNat_natCast, g.one, Int.toNat_natCast]
set_option maxRecDepth 100000 in
set_option maxHeartbeats 4000000 in
theorem nfault_ok (N : Int) (v u : Value) (zs l : List Int) (w : World) (hv : Sl w v zs) (hu : Sl w u l) :
    Calls Tryz.prog 8 #[.agg #[.int .i64 N, v], u] w fun x w' => x = .returned (.agg #[.int .i64 (qfault N zs l).1, .int .i64 (qfault N zs l).2]) ∧ Below w.heap.size w w' := by
  obtain ⟨u1, u2, u3, rfl⟩ := hu.isSlice
  obtain ⟨w0, BG⟩ := Beg.new w N v
  have HU := hide (rsub_any N v (.slice u1 u2 u3) zs l w0 (hv.below BG.bel) (hu.below BG.bel))
  have HZ0 := hide (show w.heap.size + 2 ≤ w0.heap.size by rw [BG.eq]; simp)
  obtain ⟨c0, c1, _, _⟩ := BG.box.two
  rw [BG.eq] at c0 c1
  by_cases hc : (ufault N zs l).1 = 0
  · obtain ⟨n, e, rfl, hg, hl0, hsb, hu0⟩ := ufault_zero hc
    have hli := set_lst (show (lfault n l).1 = 0 by rw [hl0])
    have hxm : ∀ x, x ∈ lst n (pset l) → x < n := fun x hx => (mem_lst.1 hx).1
    have hxl : (lst n (pset l)).length ≤ 100000 := by
      have : (lst n (pset l)).length ≤ n := by unfold lst; exact Nat.le_trans (List.length_filter_le _ _) (by simp)
      have := hg.tab.le
      omega
    have HI := hide (fun W (h : Below w.heap.size w W) => isnorm_ok n e v (.slice u1 u2 u3) zs (lst n (pset l)) W (hv.below h) hg (by rw [← hli]; exact hu.below h) hxm hxl)
    rw [isn_eq hg] at HI
    rw [qfault_u hg hu0]
    rw [hu0] at HU
    simp only at HU
    clear hc hli hu0
    obtain ⟨b, hb⟩ : ∃ b, b = nrmq n zs e (pset l) := ⟨_, rfl⟩
    rw [← hb] at HI ⊢
    obtain ⟨c9, i9, h9⟩ : ∃ c9 i9 : Int, (if b = true then ((0 : Int), (0 : Int)) else (4, 0)) = (c9, i9) := ⟨_, _, rfl⟩
    rw [h9]
    simp only
    have H9 := hide h9
    clear h9 hb
    go_enter Tryz.func8, Tryz.ntmps8
    go_wp2_with fail
    rw [← BG.eq]
    clear c0 c1
    refine HU.out.mono ?_
    rintro x w1 ⟨rfl, hb1⟩
    have hb2 := bcat2 hb1 (balloc w1 (.cells #[.int .i64 0, .int .i64 0] 27))
    have hF2 := blk0 (w := w1) (T := 27) (.int .i64 0) (.int .i64 0)
    have hX2 := blk_below BG.box hb2
    have hR2 := blk_below BG.res hb2
    have hBw := bcat BG.bel hb2 BG.bel.size
    obtain ⟨t0, t1, _, _⟩ := hF2.two
    obtain ⟨k0, k1, _, _⟩ := hX2.two
    have hsz := Nat.le_trans HZ0.out hb1.size
    go_wp2_with fail
    clear k0 k1 t0 t1
    refine (HI.out _ hBw).mono ?_
    rintro x w3 ⟨rfl, hb3⟩
    have hF3 := blk_below hF2 hb3
    have hR3 := blk_below hR2 hb3
    have hBw3 := bcat2 hBw hb3
    cases b with
    | true =>
      obtain ⟨rfl, rfl⟩ : c9 = 0 ∧ i9 = 0 := by
        have := H9.out
        simp at this
        omega
      obtain ⟨t0, t1, _, _⟩ := hF3.two
      obtain ⟨y0, y1, fy0, fy1⟩ := hR3.two
      obtain ⟨s0, s1⟩ := hR3.self
      go_wp2
      exact bodyPost_ret (v := .agg #[.int .i64 0, .int .i64 0]) (by simp [results, Tryz.results8, go_sem, y0, y1]) rfl ⟨rfl, hBw3⟩
    | false =>
      obtain ⟨rfl, rfl⟩ : c9 = 4 ∧ i9 = 0 := by
        have := H9.out
        simp at this
        omega
      go_wp2_with fail
      refine (f_any 4 0 _).mono ?_
      rintro x w4 ⟨rfl, hb4⟩
      have hF4 := blk_below hF3 hb4
      have hR4 := blk_below hR3 hb4
      have hBw4 := bcat2 hBw3 hb4
      have hF5 := (hF4.set 0 (.int .i64 4)).set 1 (.int .i64 0)
      have hR5 := (hR4.other (p := ⟨w1.heap.size, 0, none⟩) (by simp; omega) (.int .i64 4)).other (p := ⟨w1.heap.size, 1, none⟩) (by simp; omega) (.int .i64 0)
      have hBw5 := (hBw4.setCell (p := ⟨w1.heap.size, 0, none⟩) (by simp; omega) (.int .i64 4)).setCell (p := ⟨w1.heap.size, 1, none⟩) (by simp; omega) (.int .i64 0)
      obtain ⟨t0, t1, ft0, ft1⟩ := hF4.two
      obtain ⟨a0, a1, _, _⟩ := hF5.two
      obtain ⟨y0, y1, fy0, fy1⟩ := hR5.two
      obtain ⟨hR6, hB6⟩ := put2 hR5 hBw5 (by omega) 4 0
      go_wp2
      obtain ⟨z0, z1, _, _⟩ := hR6.two
      exact bodyPost_ret (v := .agg #[.int .i64 4, .int .i64 0]) (by simp [results, Tryz.results8, go_sem, z0, z1]) rfl ⟨rfl, hB6⟩
  · rw [qfault_bad hc]
    obtain ⟨c, i, hci⟩ : ∃ c i, ufault N zs l = (c, i) := ⟨_, _, rfl⟩
    rw [hci] at HU hc ⊢
    simp only at HU hc ⊢
    clear hci
    have hcb : (c == 0) = false := by simpa using hc
    have hcd : ¬ c = 0 := hc
    go_enter Tryz.func8, Tryz.ntmps8
    go_wp2_with fail
    rw [← BG.eq]
    clear c0 c1
    refine HU.out.mono ?_
    rintro x w1 ⟨rfl, hb1⟩
    have hb2 := bcat2 hb1 (balloc w1 (.cells #[.int .i64 c, .int .i64 i] 27))
    have hF2 := blk0 (w := w1) (T := 27) (.int .i64 c) (.int .i64 i)
    have hR2 := blk_below BG.res hb2
    have hBw := bcat BG.bel hb2 BG.bel.size
    obtain ⟨t0, t1, _, _⟩ := hF2.two
    obtain ⟨y0, y1, fy0, fy1⟩ := hR2.two
    obtain ⟨hR6, hB6⟩ := put2 hR2 hBw (by omega) c i
    go_wp2
    obtain ⟨z0, z1, _, _⟩ := hR6.two
    exact bodyPost_ret (v := .agg #[.int .i64 c, .int .i64 i]) (by simp [results, Tryz.results8, go_sem, z0, z1]) rfl ⟨rfl, hB6⟩
end Go.Proofs.YtgejngpioldhpaaGreatDoor

namespace Go.Proofs.YtgejngpioldhpaaGreatDoor
open Go Go.RowKit
set_option maxRecDepth 100000 in
set_option maxHeartbeats 4000000 in
theorem gcd_ok (a b : Nat) (w : World) (ha : a ≤ 1000000) (hb : b ≤ 1000000) :
    Calls Tryz.prog 16 #[.int .i64 a, .int .i64 b] w fun r w' => r = .returned (.int .i64 (Nat.gcd a b)) ∧ Below w.heap.size w w' := by
  obtain ⟨g, hg⟩ : ∃ g, Nat.gcd a b = g := ⟨_, rfl⟩
  rw [hg]
  have HG := hide hg
  clear hg
  go_enter Tryz.func16, Tryz.ntmps16
  go_wp2
  go_loopw [0, 1] (fun p q wr => ∃ x y : Nat, x ≤ 1000000 ∧ y ≤ 1000000 ∧ p = .int .i64 x ∧ q = .int .i64 y ∧ Nat.gcd x y = g ∧ Below w.heap.size w wr) (fun _ q _ => (intOf q).toNat)
  case atStart => exact ⟨a, b, ha, hb, rfl, rfl, HG.out, Below.refl _ _⟩
  case round =>
    obtain ⟨x, y, hx, hy, rfl, rfl, hxy, hB⟩ := hrel
    have HXY := hide hxy
    clear hxy
    by_cases hy0 : y = 0
    · subst hy0
      have hxg : x = g := by rw [← HXY.out, Nat.gcd_zero_right]
      go_wp2
      go_ret
      exact ⟨retI (by rw [hxg]), hB⟩
    · have hyn : ¬ ((y : Int) = 0) := by omega
      have hyb : ((y : Int) != 0) = true := by simp; omega
      have hm := Int.tmod_eq_emod_of_nonneg (a := (x : Int)) (b := (y : Int)) (by omega)
      rw [← Int.natCast_emod] at hm
      have hml : x % y < y := Nat.mod_lt _ (by omega)
      have hgc : Nat.gcd y (x % y) = g := by rw [← HXY.out, Nat.gcd_comm x y, Nat.gcd_rec y x, Nat.gcd_comm]
      have HGC := hide hgc
      clear hgc
      generalize x % y = r at *
      go_wp2_with fail
      go_quiet (fail)
      go_wp2
      go_roundw
      case rel => exact ⟨y, r, by omega, by omega, rfl, rfl, HGC.out, bdrewN hB _⟩
      case measure => simp [intOf]; omega

end Go.Proofs.YtgejngpioldhpaaGreatDoor

namespace Go.Proofs.YtgejngpioldhpaaGreatDoor
open Go Go.RowKit

theorem own_sl (u : Value) (zs : List Int) (w : World) (hu : Sl w u zs) (hb : zs.length * 8 ≤ 140737488355328) (h0 : 0 < w.heap.size) :
    Calls Tryz.prog 7 #[u] w fun x w' => ∃ r, x = .returned r ∧ Sl w' r zs ∧ Below w.heap.size w w' := by
  refine (own_any u zs w hu hb).mono ?_
  rintro x w' ⟨r, rfl, h1, h2⟩
  exact ⟨r, rfl, Sl.of_own h1 (Nat.lt_of_lt_of_le h0 h2.size), h2⟩
set_option maxRecDepth 100000 in
set_option maxHeartbeats 8000000 in
theorem pcm_bad (N c i : Int) (v1 : Option Addr) (v2 v3 : Nat) (l1 : Option Addr) (l2 l3 : Nat) (zs ls : List Int) (w : World)
    (hv : Sl w (.slice v1 v2 v3) zs) (hl : Sl w (.slice l1 l2 l3) ls) (hT : Tab w) (hb8 : zs.length * 8 ≤ 140737488355328) (hbl : ls.length * 8 ≤ 140737488355328) (hc : c ≠ 0)
    (HCP : Hid (∀ W u l9, Below w.heap.size w W → Sl W u zs → Sl W l9 ls → Calls Tryz.prog 5 #[.agg #[.int .i64 N, u], l9] W fun x W' => x = .returned (.tuple #[.slice none 0 0, .agg #[.int .i64 c, .int .i64 i]]) ∧ Below W.heap.size W W'))
    (HNF : Hid (∀ W, Below w.heap.size w W → Calls Tryz.prog 8 #[.agg #[.int .i64 N, .slice v1 v2 v3], .slice l1 l2 l3] W fun x W' => x = .returned (.agg #[.int .i64 c, .int .i64 i]) ∧ Below W.heap.size W W')) :
    Calls Tryz.prog 3 #[.agg #[.int .i64 N, .slice v1 v2 v3], .slice l1 l2 l3] w fun x w' => x = .returned (.bool true) ∧ Below w.heap.size w w' := by
  have hcb : (c != 0) = true := by simpa using hc
  have hc9 : (c == 0) = false := by simpa using hc
  have HOG := hide (fun W (h : Below w.heap.size w W) => ownGroup_any N (.slice v1 v2 v3) zs W (hv.below h) hb8)
  have HOL := hide (fun W (h : Below w.heap.size w W) => own_sl (.slice l1 l2 l3) ls W (hl.below h) hbl (Nat.lt_of_lt_of_le hT.lt h.size))
  have HBE := hide (fun W (h : Below w.heap.size w W) => prodBegun_any W (hT.below h))
  have HLA := hide (fun W (h : Below w.heap.size w W) => lsas_nil 12 #[.pointer (some ⟨w.heap.size, 0, none⟩), .pointer (some ⟨w.heap.size + 1, 0, none⟩)] c i (.slice none 0 0) W (Nat.lt_of_lt_of_le hT.lt h.size) ⟨none, 0, 0, 0, rfl, fun h => absurd h (by simp), fun j hj => absurd hj (by simp), Nat.lt_of_lt_of_le hT.lt h.size, by simp, by unfold maxLen; omega⟩ hc)
  obtain ⟨w0, hw0⟩ : ∃ w0, w0 = (w.alloc (.cells #[.int .i64 N, .slice v1 v2 v3] 24)).alloc (.cells #[.slice l1 l2 l3] 22) := ⟨_, rfl⟩
  have hB0 : Below w.heap.size w w0 := by rw [hw0]; exact (balloc w _).alloc (by simp) _
  have hX0 : BoxG w0 w.heap.size N (.slice v1 v2 v3) := by rw [hw0]; exact Blk.alloc (blk0 _ _) _
  have hL0 : Boxed w0 (w.heap.size + 1) 22 (.slice l1 l2 l3) := by
    rw [hw0]
    have := Boxed.new (w.alloc (.cells #[.int .i64 N, .slice v1 v2 v3] 24)) 22 (.slice l1 l2 l3)
    rwa [World.size_alloc] at this
  have hs0 : w0.heap.size = w.heap.size + 1 + 1 := by rw [hw0]; simp
  have hs1 : w.heap.size + 1 < w0.heap.size := by omega
  obtain ⟨g0, g1, _, _⟩ := hX0.two
  have l0 : w0.cell? ⟨w.heap.size + 1, 0, none⟩ = some (.slice l1 l2 l3) := hL0.cell
  have hS : ∀ W, Below w0.heap.size w0 W → (Below w0.heap.size w0 W ∧ W.cell? ⟨w.heap.size, 0, none⟩ = some (.int .i64 N) ∧ W.cell? ⟨w.heap.size, 1, none⟩ = some (.slice v1 v2 v3) ∧ W.cell? ⟨w.heap.size + 1, 0, none⟩ = some (.slice l1 l2 l3)) := fun W h => ⟨h, below_cell h g0, below_cell h g1, below_cell h l0⟩
  have hBc : Below w0.heap.size w0 w0.drew := bdrew (Below.refl _ _)
  have hS0 := hS _ hBc
  have HS0 := hide hs0
  clear hs0
  go_enter Tryz.func3, Tryz.ntmps3
  go_wp2_with fail
  rw [← hw0]
  clear hw0
  go_cut [5, 6] (fun s5 s6 wx => ∃ eb, s6 = .pointer (some ⟨eb, 0, none⟩) ∧ s5 = .slice none 0 0 ∧ w0.heap.size ≤ eb ∧ Blk wx eb 27 [.int .i64 c, .int .i64 i] ∧ Below w0.heap.size w0 wx)
  case first =>
    refine wp_region_held_drew (S := fun W => Below w0.heap.size w0 W ∧ W.cell? ⟨w.heap.size, 0, none⟩ = some (.int .i64 N) ∧ W.cell? ⟨w.heap.size, 1, none⟩ = some (.slice v1 v2 v3) ∧ W.cell? ⟨w.heap.size + 1, 0, none⟩ = some (.slice l1 l2 l3)) (by kernel_rfl) hS0 (fun hHeld => ?_)
    generalize w0.drew = wd at *
    refine wpAnyH_take (i := 0) (oi := ({ dst := some 9, op := Go.Op.load 24 (Go.Operand.tmp 2), type := 24, pos := _, after := _, guard := none } : Oper)) (v := ?_) rfl (by kernel_rfl) (by kernel_rfl) (by kernel_rfl) (fun _ _ _ h => h) (Or.inl ⟨by rfl, ?_⟩) (by assumption) ?_
    rotate_left
    · (intro w hSw; (try dsimp only at hSw); go_simp; try with_reducible rfl)
    simp only [Act.put, List.setIfInBounds_toArray, List.set_cons_zero, List.set_cons_succ]
    refine wpAnyH_take (i := 2) (oi := ({ dst := some 11, op := Go.Op.load 22 (Go.Operand.tmp 3), type := 22, pos := _, after := _, guard := none } : Oper)) (v := ?_) rfl (by kernel_rfl) (by kernel_rfl) (by kernel_rfl) (fun _ _ _ h => h) (Or.inl ⟨by rfl, ?_⟩) (by assumption) ?_
    rotate_left
    · (intro w hSw; (try dsimp only at hSw); go_simp; try with_reducible rfl)
    simp only [Act.put, List.setIfInBounds_toArray, List.set_cons_zero, List.set_cons_succ]
    refine wpAnyH_ready (rs := [1, 8]) (by kernel_rfl) (by simp) (AllReadyH.cons (o := ({ dst := some 10, op := Go.Op.call { callee := Go.Callee.value (Go.Operand.func 6), args := #[Go.Operand.tmp 9], argTypes := #[24] }, type := 24, pos := _, after := _, guard := none } : Oper)) rfl (fun KK hK => ?_) (AllReadyH.cons (o := ({ dst := some 6, op := Go.Op.alloc 27, type := 0, pos := _, after := _, guard := none } : Oper)) rfl (fun KK hK => ?_) AllReadyH.nil))
    · go_simp
      refine (HOG.out _ (bcat2 hB0 hBc)).mono ?_
      rintro x1 WA ⟨u, rfl, hu, hl1⟩
      replace hBc := bcat2 hBc hl1
      try go_wp2_with fail
      refine hK.out _ _ (hS _ hBc) (fun hHeld => ?_)
      clear hK
      try simp only [Act.put, List.setIfInBounds_toArray, List.set_cons_zero, List.set_cons_succ]
      refine wpAnyH_ready (rs := [3, 8]) (by kernel_rfl) (by simp) (AllReadyH.cons (o := ({ dst := some 12, op := Go.Op.call { callee := Go.Callee.value (Go.Operand.func 7), args := #[Go.Operand.tmp 11], argTypes := #[22] }, type := 22, pos := _, after := _, guard := none } : Oper)) rfl (fun KK hK => ?_) (AllReadyH.cons (o := ({ dst := some 6, op := Go.Op.alloc 27, type := 0, pos := _, after := _, guard := none } : Oper)) rfl (fun KK hK => ?_) AllReadyH.nil))
      · go_simp
        refine (HOL.out _ (bcat2 hB0 hBc)).mono ?_
        rintro x2 WB ⟨l9, rfl, hl9, hl2⟩
        replace hBc := bcat2 hBc hl2
        replace hu := hu.below hl2
        try go_wp2_with fail
        refine hK.out _ _ (hS _ hBc) (fun hHeld => ?_)
        clear hK
        try simp only [Act.put, List.setIfInBounds_toArray, List.set_cons_zero, List.set_cons_succ]
        refine wpAnyH_ready (rs := [4, 8]) (by kernel_rfl) (by simp) (AllReadyH.cons (o := ({ dst := some 13, op := Go.Op.call { callee := Go.Callee.value (Go.Operand.func 5), args := #[Go.Operand.tmp 10, Go.Operand.tmp 12], argTypes := #[24, 22] }, type := 28, pos := _, after := _, guard := none } : Oper)) rfl (fun KK hK => ?_) (AllReadyH.cons (o := ({ dst := some 6, op := Go.Op.alloc 27, type := 0, pos := _, after := _, guard := none } : Oper)) rfl (fun KK hK => ?_) AllReadyH.nil))
        · go_simp
          refine (HCP.out _ _ _ (bcat2 hB0 hBc) hu hl9).mono ?_
          rintro x3 WC ⟨rfl, hl3⟩
          replace hBc := bcat2 hBc hl3
          clear hu hl9
          try go_wp2_with fail
          refine hK.out _ _ (hS _ hBc) (fun hHeld => ?_)
          clear hK
          try simp only [Act.put, List.setIfInBounds_toArray, List.set_cons_zero, List.set_cons_succ]
          refine wpAnyH_take (i := 5) (oi := ({ dst := some 8, op := Go.Op.move (Go.Operand.tmp 13), type := 28, pos := _, after := _, guard := none } : Oper)) (v := ?_) rfl (by kernel_rfl) (by kernel_rfl) (by kernel_rfl) (fun _ _ _ h => h) (Or.inl ⟨by rfl, ?_⟩) (by assumption) ?_
          rotate_left
          · (intro w hSw; (try dsimp only at hSw); go_simp; try with_reducible rfl)
          simp only [Act.put, List.setIfInBounds_toArray, List.set_cons_zero, List.set_cons_succ]
          refine wpAnyH_take (i := 6) (oi := ({ dst := some 14, op := Go.Op.extract (Go.Operand.tmp 8) 0, type := 25, pos := _, after := _, guard := none } : Oper)) (v := ?_) rfl (by kernel_rfl) (by kernel_rfl) (by kernel_rfl) (fun _ _ _ h => h) (Or.inl ⟨by rfl, ?_⟩) (by assumption) ?_
          rotate_left
          · (intro w hSw; (try dsimp only at hSw); go_simp; try with_reducible rfl)
          simp only [Act.put, List.setIfInBounds_toArray, List.set_cons_zero, List.set_cons_succ]
          refine wpAnyH_take (i := 7) (oi := ({ dst := some 15, op := Go.Op.extract (Go.Operand.tmp 8) 1, type := 27, pos := _, after := _, guard := none } : Oper)) (v := ?_) rfl (by kernel_rfl) (by kernel_rfl) (by kernel_rfl) (fun _ _ _ h => h) (Or.inl ⟨by rfl, ?_⟩) (by assumption) ?_
          rotate_left
          · (intro w hSw; (try dsimp only at hSw); go_simp; try with_reducible rfl)
          simp only [Act.put, List.setIfInBounds_toArray, List.set_cons_zero, List.set_cons_succ]
          refine wpAnyH_ready (rs := [8]) (by kernel_rfl) (by simp) (AllReadyH.cons (o := ({ dst := some 6, op := Go.Op.alloc 27, type := 0, pos := _, after := _, guard := none } : Oper)) rfl (fun KK hK => ?_) AllReadyH.nil)
          have hgE : w0.heap.size ≤ (WC).heap.size := hBc.size
          have ha2 := balloc (WC) (.cells #[.int .i64 0, .int .i64 0] 27)
          replace hBc := bcat2 hBc ha2
          have hE : Blk ((WC).alloc (.cells #[.int .i64 0, .int .i64 0] 27)) (WC).heap.size 27 [.int .i64 0, .int .i64 0] := blk0 _ _
          go_simp
          refine hK.out _ _ (hS _ hBc) (fun hHeld => ?_)
          clear hK
          try simp only [Act.put, List.setIfInBounds_toArray, List.set_cons_zero, List.set_cons_succ]
          generalize (WC).alloc (.cells #[.int .i64 0, .int .i64 0] 27) = WE at *
          generalize (WC).heap.size = eb at *
          refine wpAnyH_take (i := 9) (oi := ({ dst := some 5, op := Go.Op.assign (Go.Operand.tmp 14), type := 25, pos := _, after := _, guard := none } : Oper)) (v := ?_) rfl (by kernel_rfl) (by kernel_rfl) (by kernel_rfl) (fun _ _ _ h => h) (Or.inl ⟨by rfl, ?_⟩) (by assumption) ?_
          rotate_left
          · (intro w hSw; (try dsimp only at hSw); go_simp; try with_reducible rfl)
          simp only [Act.put, List.setIfInBounds_toArray, List.set_cons_zero, List.set_cons_succ]
          refine wpAnyH_ready (rs := [10]) (by kernel_rfl) (by simp) (AllReadyH.cons (o := ({ dst := none, op := Go.Op.store 27 (Go.Operand.tmp 6) (Go.Operand.tmp 15), type := 0, pos := _, after := _, guard := none } : Oper)) rfl (fun KK hK => ?_) AllReadyH.nil)
          obtain ⟨y0, y1, fy0, fy1⟩ := hE.two
          obtain ⟨hE9, hB9⟩ := put2 hE hBc hgE c i
          go_simp
          refine hK.out _ _ (hS _ hB9) (fun hHeld => ?_)
          clear hK
          try simp only [Act.put, List.setIfInBounds_toArray, List.set_cons_zero, List.set_cons_succ]
          clear y0 y1 fy0 fy1
          refine wpAnyH_done (by kernel_rfl) ?_ _
          go_wp2
          go_meet
          exact ⟨eb, rfl, rfl, hgE, hE9, hB9⟩
        have hgE : w0.heap.size ≤ (WB).heap.size := hBc.size
        have ha2 := balloc (WB) (.cells #[.int .i64 0, .int .i64 0] 27)
        replace hBc := bcat2 hBc ha2
        replace hu := hu.below ha2
        replace hl9 := hl9.below ha2
        have hE : Blk ((WB).alloc (.cells #[.int .i64 0, .int .i64 0] 27)) (WB).heap.size 27 [.int .i64 0, .int .i64 0] := blk0 _ _
        go_simp
        refine hK.out _ _ (hS _ hBc) (fun hHeld => ?_)
        clear hK
        try simp only [Act.put, List.setIfInBounds_toArray, List.set_cons_zero, List.set_cons_succ]
        generalize (WB).alloc (.cells #[.int .i64 0, .int .i64 0] 27) = WE at *
        generalize (WB).heap.size = eb at *
        refine wpAnyH_ready (rs := [4]) (by kernel_rfl) (by simp) (AllReadyH.cons (o := ({ dst := some 13, op := Go.Op.call { callee := Go.Callee.value (Go.Operand.func 5), args := #[Go.Operand.tmp 10, Go.Operand.tmp 12], argTypes := #[24, 22] }, type := 28, pos := _, after := _, guard := none } : Oper)) rfl (fun KK hK => ?_) AllReadyH.nil)
        go_simp
        refine (HCP.out _ _ _ (bcat2 hB0 hBc) hu hl9).mono ?_
        rintro x3 WC ⟨rfl, hl3⟩
        replace hBc := bcat2 hBc hl3
        replace hE := blk_below hE hl3
        clear hu hl9
        try go_wp2_with fail
        refine hK.out _ _ (hS _ hBc) (fun hHeld => ?_)
        clear hK
        try simp only [Act.put, List.setIfInBounds_toArray, List.set_cons_zero, List.set_cons_succ]
        refine wpAnyH_take (i := 5) (oi := ({ dst := some 8, op := Go.Op.move (Go.Operand.tmp 13), type := 28, pos := _, after := _, guard := none } : Oper)) (v := ?_) rfl (by kernel_rfl) (by kernel_rfl) (by kernel_rfl) (fun _ _ _ h => h) (Or.inl ⟨by rfl, ?_⟩) (by assumption) ?_
        rotate_left
        · (intro w hSw; (try dsimp only at hSw); go_simp; try with_reducible rfl)
        simp only [Act.put, List.setIfInBounds_toArray, List.set_cons_zero, List.set_cons_succ]
        refine wpAnyH_take (i := 6) (oi := ({ dst := some 14, op := Go.Op.extract (Go.Operand.tmp 8) 0, type := 25, pos := _, after := _, guard := none } : Oper)) (v := ?_) rfl (by kernel_rfl) (by kernel_rfl) (by kernel_rfl) (fun _ _ _ h => h) (Or.inl ⟨by rfl, ?_⟩) (by assumption) ?_
        rotate_left
        · (intro w hSw; (try dsimp only at hSw); go_simp; try with_reducible rfl)
        simp only [Act.put, List.setIfInBounds_toArray, List.set_cons_zero, List.set_cons_succ]
        refine wpAnyH_take (i := 7) (oi := ({ dst := some 15, op := Go.Op.extract (Go.Operand.tmp 8) 1, type := 27, pos := _, after := _, guard := none } : Oper)) (v := ?_) rfl (by kernel_rfl) (by kernel_rfl) (by kernel_rfl) (fun _ _ _ h => h) (Or.inl ⟨by rfl, ?_⟩) (by assumption) ?_
        rotate_left
        · (intro w hSw; (try dsimp only at hSw); go_simp; try with_reducible rfl)
        simp only [Act.put, List.setIfInBounds_toArray, List.set_cons_zero, List.set_cons_succ]
        refine wpAnyH_take (i := 9) (oi := ({ dst := some 5, op := Go.Op.assign (Go.Operand.tmp 14), type := 25, pos := _, after := _, guard := none } : Oper)) (v := ?_) rfl (by kernel_rfl) (by kernel_rfl) (by kernel_rfl) (fun _ _ _ h => h) (Or.inl ⟨by rfl, ?_⟩) (by assumption) ?_
        rotate_left
        · (intro w hSw; (try dsimp only at hSw); go_simp; try with_reducible rfl)
        simp only [Act.put, List.setIfInBounds_toArray, List.set_cons_zero, List.set_cons_succ]
        refine wpAnyH_ready (rs := [10]) (by kernel_rfl) (by simp) (AllReadyH.cons (o := ({ dst := none, op := Go.Op.store 27 (Go.Operand.tmp 6) (Go.Operand.tmp 15), type := 0, pos := _, after := _, guard := none } : Oper)) rfl (fun KK hK => ?_) AllReadyH.nil)
        obtain ⟨y0, y1, fy0, fy1⟩ := hE.two
        obtain ⟨hE9, hB9⟩ := put2 hE hBc hgE c i
        go_simp
        refine hK.out _ _ (hS _ hB9) (fun hHeld => ?_)
        clear hK
        try simp only [Act.put, List.setIfInBounds_toArray, List.set_cons_zero, List.set_cons_succ]
        clear y0 y1 fy0 fy1
        refine wpAnyH_done (by kernel_rfl) ?_ _
        go_wp2
        go_meet
        exact ⟨eb, rfl, rfl, hgE, hE9, hB9⟩
      have hgE : w0.heap.size ≤ (WA).heap.size := hBc.size
      have ha2 := balloc (WA) (.cells #[.int .i64 0, .int .i64 0] 27)
      replace hBc := bcat2 hBc ha2
      replace hu := hu.below ha2
      have hE : Blk ((WA).alloc (.cells #[.int .i64 0, .int .i64 0] 27)) (WA).heap.size 27 [.int .i64 0, .int .i64 0] := blk0 _ _
      go_simp
      refine hK.out _ _ (hS _ hBc) (fun hHeld => ?_)
      clear hK
      try simp only [Act.put, List.setIfInBounds_toArray, List.set_cons_zero, List.set_cons_succ]
      generalize (WA).alloc (.cells #[.int .i64 0, .int .i64 0] 27) = WE at *
      generalize (WA).heap.size = eb at *
      refine wpAnyH_ready (rs := [3]) (by kernel_rfl) (by simp) (AllReadyH.cons (o := ({ dst := some 12, op := Go.Op.call { callee := Go.Callee.value (Go.Operand.func 7), args := #[Go.Operand.tmp 11], argTypes := #[22] }, type := 22, pos := _, after := _, guard := none } : Oper)) rfl (fun KK hK => ?_) AllReadyH.nil)
      go_simp
      refine (HOL.out _ (bcat2 hB0 hBc)).mono ?_
      rintro x2 WB ⟨l9, rfl, hl9, hl2⟩
      replace hBc := bcat2 hBc hl2
      replace hE := blk_below hE hl2
      replace hu := hu.below hl2
      try go_wp2_with fail
      refine hK.out _ _ (hS _ hBc) (fun hHeld => ?_)
      clear hK
      try simp only [Act.put, List.setIfInBounds_toArray, List.set_cons_zero, List.set_cons_succ]
      refine wpAnyH_ready (rs := [4]) (by kernel_rfl) (by simp) (AllReadyH.cons (o := ({ dst := some 13, op := Go.Op.call { callee := Go.Callee.value (Go.Operand.func 5), args := #[Go.Operand.tmp 10, Go.Operand.tmp 12], argTypes := #[24, 22] }, type := 28, pos := _, after := _, guard := none } : Oper)) rfl (fun KK hK => ?_) AllReadyH.nil)
      go_simp
      refine (HCP.out _ _ _ (bcat2 hB0 hBc) hu hl9).mono ?_
      rintro x3 WC ⟨rfl, hl3⟩
      replace hBc := bcat2 hBc hl3
      replace hE := blk_below hE hl3
      clear hu hl9
      try go_wp2_with fail
      refine hK.out _ _ (hS _ hBc) (fun hHeld => ?_)
      clear hK
      try simp only [Act.put, List.setIfInBounds_toArray, List.set_cons_zero, List.set_cons_succ]
      refine wpAnyH_take (i := 5) (oi := ({ dst := some 8, op := Go.Op.move (Go.Operand.tmp 13), type := 28, pos := _, after := _, guard := none } : Oper)) (v := ?_) rfl (by kernel_rfl) (by kernel_rfl) (by kernel_rfl) (fun _ _ _ h => h) (Or.inl ⟨by rfl, ?_⟩) (by assumption) ?_
      rotate_left
      · (intro w hSw; (try dsimp only at hSw); go_simp; try with_reducible rfl)
      simp only [Act.put, List.setIfInBounds_toArray, List.set_cons_zero, List.set_cons_succ]
      refine wpAnyH_take (i := 6) (oi := ({ dst := some 14, op := Go.Op.extract (Go.Operand.tmp 8) 0, type := 25, pos := _, after := _, guard := none } : Oper)) (v := ?_) rfl (by kernel_rfl) (by kernel_rfl) (by kernel_rfl) (fun _ _ _ h => h) (Or.inl ⟨by rfl, ?_⟩) (by assumption) ?_
      rotate_left
      · (intro w hSw; (try dsimp only at hSw); go_simp; try with_reducible rfl)
      simp only [Act.put, List.setIfInBounds_toArray, List.set_cons_zero, List.set_cons_succ]
      refine wpAnyH_take (i := 7) (oi := ({ dst := some 15, op := Go.Op.extract (Go.Operand.tmp 8) 1, type := 27, pos := _, after := _, guard := none } : Oper)) (v := ?_) rfl (by kernel_rfl) (by kernel_rfl) (by kernel_rfl) (fun _ _ _ h => h) (Or.inl ⟨by rfl, ?_⟩) (by assumption) ?_
      rotate_left
      · (intro w hSw; (try dsimp only at hSw); go_simp; try with_reducible rfl)
      simp only [Act.put, List.setIfInBounds_toArray, List.set_cons_zero, List.set_cons_succ]
      refine wpAnyH_take (i := 9) (oi := ({ dst := some 5, op := Go.Op.assign (Go.Operand.tmp 14), type := 25, pos := _, after := _, guard := none } : Oper)) (v := ?_) rfl (by kernel_rfl) (by kernel_rfl) (by kernel_rfl) (fun _ _ _ h => h) (Or.inl ⟨by rfl, ?_⟩) (by assumption) ?_
      rotate_left
      · (intro w hSw; (try dsimp only at hSw); go_simp; try with_reducible rfl)
      simp only [Act.put, List.setIfInBounds_toArray, List.set_cons_zero, List.set_cons_succ]
      refine wpAnyH_ready (rs := [10]) (by kernel_rfl) (by simp) (AllReadyH.cons (o := ({ dst := none, op := Go.Op.store 27 (Go.Operand.tmp 6) (Go.Operand.tmp 15), type := 0, pos := _, after := _, guard := none } : Oper)) rfl (fun KK hK => ?_) AllReadyH.nil)
      obtain ⟨y0, y1, fy0, fy1⟩ := hE.two
      obtain ⟨hE9, hB9⟩ := put2 hE hBc hgE c i
      go_simp
      refine hK.out _ _ (hS _ hB9) (fun hHeld => ?_)
      clear hK
      try simp only [Act.put, List.setIfInBounds_toArray, List.set_cons_zero, List.set_cons_succ]
      clear y0 y1 fy0 fy1
      refine wpAnyH_done (by kernel_rfl) ?_ _
      go_wp2
      go_meet
      exact ⟨eb, rfl, rfl, hgE, hE9, hB9⟩
    have hgE : w0.heap.size ≤ (wd).heap.size := hBc.size
    have ha2 := balloc (wd) (.cells #[.int .i64 0, .int .i64 0] 27)
    replace hBc := bcat2 hBc ha2
    have hE : Blk ((wd).alloc (.cells #[.int .i64 0, .int .i64 0] 27)) (wd).heap.size 27 [.int .i64 0, .int .i64 0] := blk0 _ _
    go_simp
    refine hK.out _ _ (hS _ hBc) (fun hHeld => ?_)
    clear hK
    try simp only [Act.put, List.setIfInBounds_toArray, List.set_cons_zero, List.set_cons_succ]
    generalize (wd).alloc (.cells #[.int .i64 0, .int .i64 0] 27) = WE at *
    generalize (wd).heap.size = eb at *
    refine wpAnyH_ready (rs := [1]) (by kernel_rfl) (by simp) (AllReadyH.cons (o := ({ dst := some 10, op := Go.Op.call { callee := Go.Callee.value (Go.Operand.func 6), args := #[Go.Operand.tmp 9], argTypes := #[24] }, type := 24, pos := _, after := _, guard := none } : Oper)) rfl (fun KK hK => ?_) AllReadyH.nil)
    go_simp
    refine (HOG.out _ (bcat2 hB0 hBc)).mono ?_
    rintro x1 WA ⟨u, rfl, hu, hl1⟩
    replace hBc := bcat2 hBc hl1
    replace hE := blk_below hE hl1
    try go_wp2_with fail
    refine hK.out _ _ (hS _ hBc) (fun hHeld => ?_)
    clear hK
    try simp only [Act.put, List.setIfInBounds_toArray, List.set_cons_zero, List.set_cons_succ]
    refine wpAnyH_ready (rs := [3]) (by kernel_rfl) (by simp) (AllReadyH.cons (o := ({ dst := some 12, op := Go.Op.call { callee := Go.Callee.value (Go.Operand.func 7), args := #[Go.Operand.tmp 11], argTypes := #[22] }, type := 22, pos := _, after := _, guard := none } : Oper)) rfl (fun KK hK => ?_) AllReadyH.nil)
    go_simp
    refine (HOL.out _ (bcat2 hB0 hBc)).mono ?_
    rintro x2 WB ⟨l9, rfl, hl9, hl2⟩
    replace hBc := bcat2 hBc hl2
    replace hE := blk_below hE hl2
    replace hu := hu.below hl2
    try go_wp2_with fail
    refine hK.out _ _ (hS _ hBc) (fun hHeld => ?_)
    clear hK
    try simp only [Act.put, List.setIfInBounds_toArray, List.set_cons_zero, List.set_cons_succ]
    refine wpAnyH_ready (rs := [4]) (by kernel_rfl) (by simp) (AllReadyH.cons (o := ({ dst := some 13, op := Go.Op.call { callee := Go.Callee.value (Go.Operand.func 5), args := #[Go.Operand.tmp 10, Go.Operand.tmp 12], argTypes := #[24, 22] }, type := 28, pos := _, after := _, guard := none } : Oper)) rfl (fun KK hK => ?_) AllReadyH.nil)
    go_simp
    refine (HCP.out _ _ _ (bcat2 hB0 hBc) hu hl9).mono ?_
    rintro x3 WC ⟨rfl, hl3⟩
    replace hBc := bcat2 hBc hl3
    replace hE := blk_below hE hl3
    clear hu hl9
    try go_wp2_with fail
    refine hK.out _ _ (hS _ hBc) (fun hHeld => ?_)
    clear hK
    try simp only [Act.put, List.setIfInBounds_toArray, List.set_cons_zero, List.set_cons_succ]
    refine wpAnyH_take (i := 5) (oi := ({ dst := some 8, op := Go.Op.move (Go.Operand.tmp 13), type := 28, pos := _, after := _, guard := none } : Oper)) (v := ?_) rfl (by kernel_rfl) (by kernel_rfl) (by kernel_rfl) (fun _ _ _ h => h) (Or.inl ⟨by rfl, ?_⟩) (by assumption) ?_
    rotate_left
    · (intro w hSw; (try dsimp only at hSw); go_simp; try with_reducible rfl)
    simp only [Act.put, List.setIfInBounds_toArray, List.set_cons_zero, List.set_cons_succ]
    refine wpAnyH_take (i := 6) (oi := ({ dst := some 14, op := Go.Op.extract (Go.Operand.tmp 8) 0, type := 25, pos := _, after := _, guard := none } : Oper)) (v := ?_) rfl (by kernel_rfl) (by kernel_rfl) (by kernel_rfl) (fun _ _ _ h => h) (Or.inl ⟨by rfl, ?_⟩) (by assumption) ?_
    rotate_left
    · (intro w hSw; (try dsimp only at hSw); go_simp; try with_reducible rfl)
    simp only [Act.put, List.setIfInBounds_toArray, List.set_cons_zero, List.set_cons_succ]
    refine wpAnyH_take (i := 7) (oi := ({ dst := some 15, op := Go.Op.extract (Go.Operand.tmp 8) 1, type := 27, pos := _, after := _, guard := none } : Oper)) (v := ?_) rfl (by kernel_rfl) (by kernel_rfl) (by kernel_rfl) (fun _ _ _ h => h) (Or.inl ⟨by rfl, ?_⟩) (by assumption) ?_
    rotate_left
    · (intro w hSw; (try dsimp only at hSw); go_simp; try with_reducible rfl)
    simp only [Act.put, List.setIfInBounds_toArray, List.set_cons_zero, List.set_cons_succ]
    refine wpAnyH_take (i := 9) (oi := ({ dst := some 5, op := Go.Op.assign (Go.Operand.tmp 14), type := 25, pos := _, after := _, guard := none } : Oper)) (v := ?_) rfl (by kernel_rfl) (by kernel_rfl) (by kernel_rfl) (fun _ _ _ h => h) (Or.inl ⟨by rfl, ?_⟩) (by assumption) ?_
    rotate_left
    · (intro w hSw; (try dsimp only at hSw); go_simp; try with_reducible rfl)
    simp only [Act.put, List.setIfInBounds_toArray, List.set_cons_zero, List.set_cons_succ]
    refine wpAnyH_ready (rs := [10]) (by kernel_rfl) (by simp) (AllReadyH.cons (o := ({ dst := none, op := Go.Op.store 27 (Go.Operand.tmp 6) (Go.Operand.tmp 15), type := 0, pos := _, after := _, guard := none } : Oper)) rfl (fun KK hK => ?_) AllReadyH.nil)
    obtain ⟨y0, y1, fy0, fy1⟩ := hE.two
    obtain ⟨hE9, hB9⟩ := put2 hE hBc hgE c i
    go_simp
    refine hK.out _ _ (hS _ hB9) (fun hHeld => ?_)
    clear hK
    try simp only [Act.put, List.setIfInBounds_toArray, List.set_cons_zero, List.set_cons_succ]
    clear y0 y1 fy0 fy1
    refine wpAnyH_done (by kernel_rfl) ?_ _
    go_wp2
    go_meet
    exact ⟨eb, rfl, rfl, hgE, hE9, hB9⟩
  case rest =>
    obtain ⟨eb, rfl, rfl, hgE, hE, hbx⟩ := hcut
    obtain ⟨g0, g1, _, _⟩ := (blk_below hX0 hbx).two
    replace l0 := below_cell hbx l0
    clear hS hS0 hBc
    have hBx := bcat2 hB0 hbx
    go_wp2_with fail
    refine (HNF.out _ hBx).mono ?_
    rintro x6 W6 ⟨rfl, hb6⟩
    obtain ⟨W7, hW7⟩ : ∃ W7, W7 = W6.alloc (.cells #[.int .i64 c, .int .i64 i] 27) := ⟨_, rfl⟩
    have hb67 : Below W6.heap.size W6 W7 := by rw [hW7]; exact balloc W6 _
    have hR7 : Blk W7 W6.heap.size 27 [.int .i64 c, .int .i64 i] := by rw [hW7]; exact blk0 _ _
    have hb7 := bcat2 hb6 hb67
    have hE7 := blk_below hE hb7
    have hx7 := bcat2 hbx hb7
    have hX7 := blk_below hX0 hx7
    have hL7 : W7.cell? ⟨w.heap.size + 1, 0, none⟩ = some (.slice l1 l2 l3) := below_cell hb7 l0
    have hLB7 : Boxed W7 (w.heap.size + 1) 22 (.slice l1 l2 l3) := (hx7.block _ hs1).trans hL0
    have hB7 := bcat2 hB0 hx7
    have hew : eb < W6.heap.size := Nat.lt_of_lt_of_le hE.lt hb6.size
    have hgw : w.heap.size < W6.heap.size := by omega
    clear g0 g1 l0
    obtain ⟨g0, g1, _, _⟩ := hX7.two
    obtain ⟨f0, f1, _, _⟩ := hE7.two
    obtain ⟨r0, r1z, _, _⟩ := hR7.two
    have l0 := hL7
    rw [hW7] at g0 g1 f0 f1 r0 r1z l0
    go_wp2_with fail
    rw [← hW7] at g0 g1 f0 f1 r0 r1z l0
    rw [← hW7]
    clear hW7 hb67 hb6
    generalize W6.heap.size = wb at *
    refine (HBE.out _ hB7).mono ?_
    rintro x8 W8 ⟨rfl, hb8⟩
    have hB8 := bcat2 hB7 hb8
    have f0' := below_cell hb8 f0
    have f1' := below_cell hb8 f1
    have r0' := below_cell hb8 r0
    have r1' := below_cell hb8 r1z
    have g0' := below_cell hb8 g0
    have l0' := below_cell hb8 l0
    clear f0 f1 r0 r1z g0 g1 l0
    go_wp2_with fail
    refine (HLA.out _ hB8).mono ?_
    rintro x9 Wz ⟨rfl, hb9⟩
    have hBz := bcat2 hB8 hb9
    have r0 := below_cell hb9 r0'
    have g0 := below_cell hb9 g0'
    have l0 := below_cell hb9 l0'
    clear f0' f1' r0' r1' g0' l0' hX7 hE7 hR7 hL7 hLB7 hx7 hB7 hb8 hb9 hB8 hb7 hE hbx hBx
    have hS : ∀ W, Below Wz.heap.size Wz W → (Below Wz.heap.size Wz W ∧ W.cell? ⟨wb, 0, none⟩ = some (.int .i64 c) ∧ W.cell? ⟨w.heap.size, 0, none⟩ = some (.int .i64 N) ∧ W.cell? ⟨w.heap.size + 1, 0, none⟩ = some (.slice l1 l2 l3)) := fun W h => ⟨h, below_cell h r0, below_cell h g0, below_cell h l0⟩
    have hBc : Below Wz.heap.size Wz Wz.drew := bdrew (Below.refl _ _)
    have hS7 := hS _ hBc
    go_wp2_with fail
    clear r0 g0 l0
    refine wp_region_held_drew (S := fun W => Below Wz.heap.size Wz W ∧ W.cell? ⟨wb, 0, none⟩ = some (.int .i64 c) ∧ W.cell? ⟨w.heap.size, 0, none⟩ = some (.int .i64 N) ∧ W.cell? ⟨w.heap.size + 1, 0, none⟩ = some (.slice l1 l2 l3)) (by kernel_rfl) hS7 (fun hHeld => ?_)
    refine wpAnyH_take (i := 0) (oi := ({ dst := some 38, op := Go.Op.fieldAddr 27 (Go.Operand.tmp 7) 0, type := 0, pos := _, after := _, guard := none } : Oper)) (v := ?_) rfl (by kernel_rfl) (by kernel_rfl) (by kernel_rfl) (fun _ _ _ h => h) (Or.inl ⟨by rfl, ?_⟩) (by assumption) ?_
    rotate_left
    · (intro w hSw; (try dsimp only at hSw); go_simp; try with_reducible rfl)
    simp only [Act.put, List.setIfInBounds_toArray, List.set_cons_zero, List.set_cons_succ]
    refine wpAnyH_take (i := 1) (oi := ({ dst := some 39, op := Go.Op.load 3 (Go.Operand.tmp 38), type := 3, pos := _, after := _, guard := none } : Oper)) (v := ?_) rfl (by kernel_rfl) (by kernel_rfl) (by kernel_rfl) (fun _ _ _ h => h) (Or.inl ⟨by rfl, ?_⟩) (by assumption) ?_
    rotate_left
    · (intro w hSw; (try dsimp only at hSw); go_simp; try with_reducible rfl)
    simp only [Act.put, List.setIfInBounds_toArray, List.set_cons_zero, List.set_cons_succ]
    refine wpAnyH_take (i := 2) (oi := ({ dst := some 40, op := Go.Op.binOp Go.BinOp.neq 3 (Go.Operand.tmp 39) (Go.Operand.const (Go.Value.int Go.IntKind.i64 0)) 3, type := 4, pos := _, after := _, guard := none } : Oper)) (v := .bool true) rfl (by kernel_rfl) (by kernel_rfl) (by kernel_rfl) (fun _ _ _ h => h) (Or.inl ⟨by rfl, ?_⟩) (by assumption) ?_
    · (intro w hSw; (try dsimp only at hSw); go_simp; try (first | with_reducible rfl | (simp [hcb]; done) | (simp; done) | omega | (simp; omega)))
    simp only [Act.put, List.setIfInBounds_toArray, List.set_cons_zero, List.set_cons_succ]
    refine wpAnyH_take (i := 3) (oi := ({ dst := some 41, op := Go.Op.move (Go.Operand.tmp 40), type := 4, pos := _, after := _, guard := none } : Oper)) (v := .bool true) rfl (by kernel_rfl) (by kernel_rfl) (by kernel_rfl) (fun _ _ _ h => h) (Or.inl ⟨by rfl, ?_⟩) (by assumption) ?_
    · (intro w hSw; (try dsimp only at hSw); go_simp; try (first | with_reducible rfl | (simp; done) | omega | (simp; omega)))
    simp only [Act.put, List.setIfInBounds_toArray, List.set_cons_zero, List.set_cons_succ]
    refine wpAnyH_take (i := 4) (oi := ({ dst := some 42, op := Go.Op.load 22 (Go.Operand.tmp 3), type := 22, pos := _, after := _, guard := some (3, false) } : Oper)) (v := undef) rfl (by kernel_rfl) (by kernel_rfl) (by kernel_rfl) (fun _ _ _ h => h) (Or.inr ⟨by rfl, rfl⟩) (by assumption) ?_
    simp only [Act.put, List.setIfInBounds_toArray, List.set_cons_zero, List.set_cons_succ]
    refine wpAnyH_take (i := 5) (oi := ({ dst := some 43, op := Go.Op.call { callee := Go.Callee.builtin Go.Builtin.len, args := #[Go.Operand.tmp 42], argTypes := #[22] }, type := 3, pos := _, after := _, guard := some (3, false) } : Oper)) (v := undef) rfl (by kernel_rfl) (by kernel_rfl) (by kernel_rfl) (fun _ _ _ h => h) (Or.inr ⟨by rfl, rfl⟩) (by assumption) ?_
    simp only [Act.put, List.setIfInBounds_toArray, List.set_cons_zero, List.set_cons_succ]
    refine wpAnyH_take (i := 6) (oi := ({ dst := some 44, op := Go.Op.fieldAddr 24 (Go.Operand.tmp 2) 0, type := 0, pos := _, after := _, guard := some (3, false) } : Oper)) (v := undef) rfl (by kernel_rfl) (by kernel_rfl) (by kernel_rfl) (fun _ _ _ h => h) (Or.inr ⟨by rfl, rfl⟩) (by assumption) ?_
    simp only [Act.put, List.setIfInBounds_toArray, List.set_cons_zero, List.set_cons_succ]
    refine wpAnyH_take (i := 7) (oi := ({ dst := some 45, op := Go.Op.load 3 (Go.Operand.tmp 44), type := 3, pos := _, after := _, guard := some (3, false) } : Oper)) (v := undef) rfl (by kernel_rfl) (by kernel_rfl) (by kernel_rfl) (fun _ _ _ h => h) (Or.inr ⟨by rfl, rfl⟩) (by assumption) ?_
    simp only [Act.put, List.setIfInBounds_toArray, List.set_cons_zero, List.set_cons_succ]
    refine wpAnyH_take (i := 8) (oi := ({ dst := some 46, op := Go.Op.load 22 (Go.Operand.tmp 3), type := 22, pos := _, after := _, guard := some (3, false) } : Oper)) (v := undef) rfl (by kernel_rfl) (by kernel_rfl) (by kernel_rfl) (fun _ _ _ h => h) (Or.inr ⟨by rfl, rfl⟩) (by assumption) ?_
    simp only [Act.put, List.setIfInBounds_toArray, List.set_cons_zero, List.set_cons_succ]
    refine wpAnyH_take (i := 9) (oi := ({ dst := some 47, op := Go.Op.call { callee := Go.Callee.builtin Go.Builtin.len, args := #[Go.Operand.tmp 46], argTypes := #[22] }, type := 3, pos := _, after := _, guard := some (3, false) } : Oper)) (v := undef) rfl (by kernel_rfl) (by kernel_rfl) (by kernel_rfl) (fun _ _ _ h => h) (Or.inr ⟨by rfl, rfl⟩) (by assumption) ?_
    simp only [Act.put, List.setIfInBounds_toArray, List.set_cons_zero, List.set_cons_succ]
    refine wpAnyH_take (i := 10) (oi := ({ dst := some 48, op := Go.Op.binOp Go.BinOp.quo 3 (Go.Operand.tmp 45) (Go.Operand.tmp 47) 3, type := 3, pos := _, after := _, guard := some (3, false) } : Oper)) (v := undef) rfl (by kernel_rfl) (by kernel_rfl) (by kernel_rfl) (fun _ _ _ h => h) (Or.inr ⟨by rfl, rfl⟩) (by assumption) ?_
    simp only [Act.put, List.setIfInBounds_toArray, List.set_cons_zero, List.set_cons_succ]
    refine wpAnyH_take (i := 11) (oi := ({ dst := some 49, op := Go.Op.call { callee := Go.Callee.value (Go.Operand.func 16), args := #[Go.Operand.tmp 43, Go.Operand.tmp 48], argTypes := #[3, 3] }, type := 3, pos := _, after := _, guard := some (3, false) } : Oper)) (v := undef) rfl (by kernel_rfl) (by kernel_rfl) (by kernel_rfl) (fun _ _ _ h => h) (Or.inr ⟨by rfl, rfl⟩) (by assumption) ?_
    simp only [Act.put, List.setIfInBounds_toArray, List.set_cons_zero, List.set_cons_succ]
    refine wpAnyH_take (i := 12) (oi := ({ dst := some 50, op := Go.Op.binOp Go.BinOp.gtr 3 (Go.Operand.tmp 49) (Go.Operand.const (Go.Value.int Go.IntKind.i64 1)) 3, type := 4, pos := _, after := _, guard := some (3, false) } : Oper)) (v := undef) rfl (by kernel_rfl) (by kernel_rfl) (by kernel_rfl) (fun _ _ _ h => h) (Or.inr ⟨by rfl, rfl⟩) (by assumption) ?_
    simp only [Act.put, List.setIfInBounds_toArray, List.set_cons_zero, List.set_cons_succ]
    refine wpAnyH_take (i := 13) (oi := ({ dst := some 51, op := Go.Op.pick (Go.Operand.tmp 41) (Go.Operand.const (Go.Value.bool true)) (Go.Operand.tmp 50), type := 4, pos := _, after := _, guard := none } : Oper)) (v := .bool true) rfl (by kernel_rfl) (by kernel_rfl) (by kernel_rfl) (fun _ _ _ h => h) (Or.inl ⟨by rfl, ?_⟩) (by assumption) ?_
    · (intro w hSw; (try dsimp only at hSw); go_simp; try (first | with_reducible rfl | (simp; done) | omega | (simp; omega)))
    simp only [Act.put, List.setIfInBounds_toArray, List.set_cons_zero, List.set_cons_succ]
    refine wpAnyH_take (i := 14) (oi := ({ dst := some 52, op := Go.Op.move (Go.Operand.tmp 51), type := 4, pos := _, after := _, guard := none } : Oper)) (v := .bool true) rfl (by kernel_rfl) (by kernel_rfl) (by kernel_rfl) (fun _ _ _ h => h) (Or.inl ⟨by rfl, ?_⟩) (by assumption) ?_
    · (intro w hSw; (try dsimp only at hSw); go_simp; try (first | with_reducible rfl | (simp; done) | omega | (simp; omega)))
    simp only [Act.put, List.setIfInBounds_toArray, List.set_cons_zero, List.set_cons_succ]
    refine wpAnyH_take (i := 15) (oi := ({ dst := some 53, op := Go.Op.move (Go.Operand.tmp 5), type := 25, pos := _, after := _, guard := some (14, false) } : Oper)) (v := undef) rfl (by kernel_rfl) (by kernel_rfl) (by kernel_rfl) (fun _ _ _ h => h) (Or.inr ⟨by rfl, rfl⟩) (by assumption) ?_
    simp only [Act.put, List.setIfInBounds_toArray, List.set_cons_zero, List.set_cons_succ]
    refine wpAnyH_take (i := 16) (oi := ({ dst := some 54, op := Go.Op.call { callee := Go.Callee.builtin Go.Builtin.len, args := #[Go.Operand.tmp 53], argTypes := #[25] }, type := 3, pos := _, after := _, guard := some (14, false) } : Oper)) (v := undef) rfl (by kernel_rfl) (by kernel_rfl) (by kernel_rfl) (fun _ _ _ h => h) (Or.inr ⟨by rfl, rfl⟩) (by assumption) ?_
    simp only [Act.put, List.setIfInBounds_toArray, List.set_cons_zero, List.set_cons_succ]
    refine wpAnyH_take (i := 17) (oi := ({ dst := some 55, op := Go.Op.binOp Go.BinOp.gtr 3 (Go.Operand.tmp 54) (Go.Operand.const (Go.Value.int Go.IntKind.i64 0)) 3, type := 4, pos := _, after := _, guard := some (14, false) } : Oper)) (v := undef) rfl (by kernel_rfl) (by kernel_rfl) (by kernel_rfl) (fun _ _ _ h => h) (Or.inr ⟨by rfl, rfl⟩) (by assumption) ?_
    simp only [Act.put, List.setIfInBounds_toArray, List.set_cons_zero, List.set_cons_succ]
    refine wpAnyH_take (i := 18) (oi := ({ dst := some 56, op := Go.Op.pick (Go.Operand.tmp 52) (Go.Operand.const (Go.Value.bool true)) (Go.Operand.tmp 55), type := 4, pos := _, after := _, guard := none } : Oper)) (v := .bool true) rfl (by kernel_rfl) (by kernel_rfl) (by kernel_rfl) (fun _ _ _ h => h) (Or.inl ⟨by rfl, ?_⟩) (by assumption) ?_
    · (intro w hSw; (try dsimp only at hSw); go_simp; try (first | with_reducible rfl | (simp; done) | omega | (simp; omega)))
    simp only [Act.put, List.setIfInBounds_toArray, List.set_cons_zero, List.set_cons_succ]
    refine wpAnyH_take (i := 19) (oi := ({ dst := some 4, op := Go.Op.assign (Go.Operand.tmp 56), type := 4, pos := _, after := _, guard := none } : Oper)) (v := .bool true) rfl (by kernel_rfl) (by kernel_rfl) (by kernel_rfl) (fun _ _ _ h => h) (Or.inl ⟨by rfl, ?_⟩) (by assumption) ?_
    · (intro w hSw; (try dsimp only at hSw); go_simp; try (first | with_reducible rfl | (simp; done) | omega | (simp; omega)))
    simp only [Act.put, List.setIfInBounds_toArray, List.set_cons_zero, List.set_cons_succ]
    refine wpAnyH_done (by kernel_rfl) ?_ _
    have hBf := bcat2 hBz hBc
    clear hHeld hS7
    go_wp2
    go_ret
    exact ⟨rfl, hBf⟩


set_option maxRecDepth 100000 in
set_option maxHeartbeats 8000000 in
theorem pcm_many (N c i : Int) (v1 : Option Addr) (v2 v3 : Nat) (l1 : Option Addr) (l2 l3 : Nat) (zs ls : List Int) (w : World)
    (hv : Sl w (.slice v1 v2 v3) zs) (hl : Sl w (.slice l1 l2 l3) ls) (hT : Tab w) (hb8 : zs.length * 8 ≤ 140737488355328) (hbl : ls.length * 8 ≤ 140737488355328) (hc : c ≠ 0)
    (HCP : Hid (∀ W u l9, Below w.heap.size w W → Sl W u zs → Sl W l9 ls → Calls Tryz.prog 5 #[.agg #[.int .i64 N, u], l9] W fun x W' => x = .returned (.tuple #[.slice none 0 0, .agg #[.int .i64 c, .int .i64 i]]) ∧ Below W.heap.size W W'))
    (HNF : Hid (∀ W, Below w.heap.size w W → Calls Tryz.prog 8 #[.agg #[.int .i64 N, .slice v1 v2 v3], .slice l1 l2 l3] W fun x W' => x = .returned (.agg #[.int .i64 0, .int .i64 0]) ∧ Below W.heap.size W W'))
    (hN : (24 : Int) < N)
    (HFF : Hid (∀ W, Below w.heap.size w W → Calls Tryz.prog 9 #[.int .i64 2, .int .i64 0] W fun x W' => x = .returned (.agg #[.int .i64 c, .int .i64 i]) ∧ Below W.heap.size W W')) :
    Calls Tryz.prog 3 #[.agg #[.int .i64 N, .slice v1 v2 v3], .slice l1 l2 l3] w fun x w' => x = .returned (.bool true) ∧ Below w.heap.size w w' := by
  have hcb : (c != 0) = true := by simpa using hc
  have hc9 : (c == 0) = false := by simpa using hc
  have HOG := hide (fun W (h : Below w.heap.size w W) => ownGroup_any N (.slice v1 v2 v3) zs W (hv.below h) hb8)
  have HOL := hide (fun W (h : Below w.heap.size w W) => own_sl (.slice l1 l2 l3) ls W (hl.below h) hbl (Nat.lt_of_lt_of_le hT.lt h.size))
  have HBE := hide (fun W (h : Below w.heap.size w W) => prodBegun_any W (hT.below h))
  have HLA := hide (fun W (h : Below w.heap.size w W) => lsas_nil 12 #[.pointer (some ⟨w.heap.size, 0, none⟩), .pointer (some ⟨w.heap.size + 1, 0, none⟩)] c i (.slice none 0 0) W (Nat.lt_of_lt_of_le hT.lt h.size) ⟨none, 0, 0, 0, rfl, fun h => absurd h (by simp), fun j hj => absurd hj (by simp), Nat.lt_of_lt_of_le hT.lt h.size, by simp, by unfold maxLen; omega⟩ hc)
  obtain ⟨w0, hw0⟩ : ∃ w0, w0 = (w.alloc (.cells #[.int .i64 N, .slice v1 v2 v3] 24)).alloc (.cells #[.slice l1 l2 l3] 22) := ⟨_, rfl⟩
  have hB0 : Below w.heap.size w w0 := by rw [hw0]; exact (balloc w _).alloc (by simp) _
  have hX0 : BoxG w0 w.heap.size N (.slice v1 v2 v3) := by rw [hw0]; exact Blk.alloc (blk0 _ _) _
  have hL0 : Boxed w0 (w.heap.size + 1) 22 (.slice l1 l2 l3) := by
    rw [hw0]
    have := Boxed.new (w.alloc (.cells #[.int .i64 N, .slice v1 v2 v3] 24)) 22 (.slice l1 l2 l3)
    rwa [World.size_alloc] at this
  have hs0 : w0.heap.size = w.heap.size + 1 + 1 := by rw [hw0]; simp
  have hs1 : w.heap.size + 1 < w0.heap.size := by omega
  obtain ⟨g0, g1, _, _⟩ := hX0.two
  have l0 : w0.cell? ⟨w.heap.size + 1, 0, none⟩ = some (.slice l1 l2 l3) := hL0.cell
  have hS : ∀ W, Below w0.heap.size w0 W → (Below w0.heap.size w0 W ∧ W.cell? ⟨w.heap.size, 0, none⟩ = some (.int .i64 N) ∧ W.cell? ⟨w.heap.size, 1, none⟩ = some (.slice v1 v2 v3) ∧ W.cell? ⟨w.heap.size + 1, 0, none⟩ = some (.slice l1 l2 l3)) := fun W h => ⟨h, below_cell h g0, below_cell h g1, below_cell h l0⟩
  have hBc : Below w0.heap.size w0 w0.drew := bdrew (Below.refl _ _)
  have hS0 := hS _ hBc
  have HS0 := hide hs0
  clear hs0
  go_enter Tryz.func3, Tryz.ntmps3
  go_wp2_with fail
  rw [← hw0]
  clear hw0
  go_cut [5, 6] (fun s5 s6 wx => ∃ eb, s6 = .pointer (some ⟨eb, 0, none⟩) ∧ s5 = .slice none 0 0 ∧ w0.heap.size ≤ eb ∧ Blk wx eb 27 [.int .i64 c, .int .i64 i] ∧ Below w0.heap.size w0 wx)
  case first =>
    refine wp_region_held_drew (S := fun W => Below w0.heap.size w0 W ∧ W.cell? ⟨w.heap.size, 0, none⟩ = some (.int .i64 N) ∧ W.cell? ⟨w.heap.size, 1, none⟩ = some (.slice v1 v2 v3) ∧ W.cell? ⟨w.heap.size + 1, 0, none⟩ = some (.slice l1 l2 l3)) (by kernel_rfl) hS0 (fun hHeld => ?_)
    generalize w0.drew = wd at *
    refine wpAnyH_take (i := 0) (oi := ({ dst := some 9, op := Go.Op.load 24 (Go.Operand.tmp 2), type := 24, pos := _, after := _, guard := none } : Oper)) (v := ?_) rfl (by kernel_rfl) (by kernel_rfl) (by kernel_rfl) (fun _ _ _ h => h) (Or.inl ⟨by rfl, ?_⟩) (by assumption) ?_
    rotate_left
    · (intro w hSw; (try dsimp only at hSw); go_simp; try with_reducible rfl)
    simp only [Act.put, List.setIfInBounds_toArray, List.set_cons_zero, List.set_cons_succ]
    refine wpAnyH_take (i := 2) (oi := ({ dst := some 11, op := Go.Op.load 22 (Go.Operand.tmp 3), type := 22, pos := _, after := _, guard := none } : Oper)) (v := ?_) rfl (by kernel_rfl) (by kernel_rfl) (by kernel_rfl) (fun _ _ _ h => h) (Or.inl ⟨by rfl, ?_⟩) (by assumption) ?_
    rotate_left
    · (intro w hSw; (try dsimp only at hSw); go_simp; try with_reducible rfl)
    simp only [Act.put, List.setIfInBounds_toArray, List.set_cons_zero, List.set_cons_succ]
    refine wpAnyH_ready (rs := [1, 8]) (by kernel_rfl) (by simp) (AllReadyH.cons (o := ({ dst := some 10, op := Go.Op.call { callee := Go.Callee.value (Go.Operand.func 6), args := #[Go.Operand.tmp 9], argTypes := #[24] }, type := 24, pos := _, after := _, guard := none } : Oper)) rfl (fun KK hK => ?_) (AllReadyH.cons (o := ({ dst := some 6, op := Go.Op.alloc 27, type := 0, pos := _, after := _, guard := none } : Oper)) rfl (fun KK hK => ?_) AllReadyH.nil))
    · go_simp
      refine (HOG.out _ (bcat2 hB0 hBc)).mono ?_
      rintro x1 WA ⟨u, rfl, hu, hl1⟩
      replace hBc := bcat2 hBc hl1
      try go_wp2_with fail
      refine hK.out _ _ (hS _ hBc) (fun hHeld => ?_)
      clear hK
      try simp only [Act.put, List.setIfInBounds_toArray, List.set_cons_zero, List.set_cons_succ]
      refine wpAnyH_ready (rs := [3, 8]) (by kernel_rfl) (by simp) (AllReadyH.cons (o := ({ dst := some 12, op := Go.Op.call { callee := Go.Callee.value (Go.Operand.func 7), args := #[Go.Operand.tmp 11], argTypes := #[22] }, type := 22, pos := _, after := _, guard := none } : Oper)) rfl (fun KK hK => ?_) (AllReadyH.cons (o := ({ dst := some 6, op := Go.Op.alloc 27, type := 0, pos := _, after := _, guard := none } : Oper)) rfl (fun KK hK => ?_) AllReadyH.nil))
      · go_simp
        refine (HOL.out _ (bcat2 hB0 hBc)).mono ?_
        rintro x2 WB ⟨l9, rfl, hl9, hl2⟩
        replace hBc := bcat2 hBc hl2
        replace hu := hu.below hl2
        try go_wp2_with fail
        refine hK.out _ _ (hS _ hBc) (fun hHeld => ?_)
        clear hK
        try simp only [Act.put, List.setIfInBounds_toArray, List.set_cons_zero, List.set_cons_succ]
        refine wpAnyH_ready (rs := [4, 8]) (by kernel_rfl) (by simp) (AllReadyH.cons (o := ({ dst := some 13, op := Go.Op.call { callee := Go.Callee.value (Go.Operand.func 5), args := #[Go.Operand.tmp 10, Go.Operand.tmp 12], argTypes := #[24, 22] }, type := 28, pos := _, after := _, guard := none } : Oper)) rfl (fun KK hK => ?_) (AllReadyH.cons (o := ({ dst := some 6, op := Go.Op.alloc 27, type := 0, pos := _, after := _, guard := none } : Oper)) rfl (fun KK hK => ?_) AllReadyH.nil))
        · go_simp
          refine (HCP.out _ _ _ (bcat2 hB0 hBc) hu hl9).mono ?_
          rintro x3 WC ⟨rfl, hl3⟩
          replace hBc := bcat2 hBc hl3
          clear hu hl9
          try go_wp2_with fail
          refine hK.out _ _ (hS _ hBc) (fun hHeld => ?_)
          clear hK
          try simp only [Act.put, List.setIfInBounds_toArray, List.set_cons_zero, List.set_cons_succ]
          refine wpAnyH_take (i := 5) (oi := ({ dst := some 8, op := Go.Op.move (Go.Operand.tmp 13), type := 28, pos := _, after := _, guard := none } : Oper)) (v := ?_) rfl (by kernel_rfl) (by kernel_rfl) (by kernel_rfl) (fun _ _ _ h => h) (Or.inl ⟨by rfl, ?_⟩) (by assumption) ?_
          rotate_left
          · (intro w hSw; (try dsimp only at hSw); go_simp; try with_reducible rfl)
          simp only [Act.put, List.setIfInBounds_toArray, List.set_cons_zero, List.set_cons_succ]
          refine wpAnyH_take (i := 6) (oi := ({ dst := some 14, op := Go.Op.extract (Go.Operand.tmp 8) 0, type := 25, pos := _, after := _, guard := none } : Oper)) (v := ?_) rfl (by kernel_rfl) (by kernel_rfl) (by kernel_rfl) (fun _ _ _ h => h) (Or.inl ⟨by rfl, ?_⟩) (by assumption) ?_
          rotate_left
          · (intro w hSw; (try dsimp only at hSw); go_simp; try with_reducible rfl)
          simp only [Act.put, List.setIfInBounds_toArray, List.set_cons_zero, List.set_cons_succ]
          refine wpAnyH_take (i := 7) (oi := ({ dst := some 15, op := Go.Op.extract (Go.Operand.tmp 8) 1, type := 27, pos := _, after := _, guard := none } : Oper)) (v := ?_) rfl (by kernel_rfl) (by kernel_rfl) (by kernel_rfl) (fun _ _ _ h => h) (Or.inl ⟨by rfl, ?_⟩) (by assumption) ?_
          rotate_left
          · (intro w hSw; (try dsimp only at hSw); go_simp; try with_reducible rfl)
          simp only [Act.put, List.setIfInBounds_toArray, List.set_cons_zero, List.set_cons_succ]
          refine wpAnyH_ready (rs := [8]) (by kernel_rfl) (by simp) (AllReadyH.cons (o := ({ dst := some 6, op := Go.Op.alloc 27, type := 0, pos := _, after := _, guard := none } : Oper)) rfl (fun KK hK => ?_) AllReadyH.nil)
          have hgE : w0.heap.size ≤ (WC).heap.size := hBc.size
          have ha2 := balloc (WC) (.cells #[.int .i64 0, .int .i64 0] 27)
          replace hBc := bcat2 hBc ha2
          have hE : Blk ((WC).alloc (.cells #[.int .i64 0, .int .i64 0] 27)) (WC).heap.size 27 [.int .i64 0, .int .i64 0] := blk0 _ _
          go_simp
          refine hK.out _ _ (hS _ hBc) (fun hHeld => ?_)
          clear hK
          try simp only [Act.put, List.setIfInBounds_toArray, List.set_cons_zero, List.set_cons_succ]
          generalize (WC).alloc (.cells #[.int .i64 0, .int .i64 0] 27) = WE at *
          generalize (WC).heap.size = eb at *
          refine wpAnyH_take (i := 9) (oi := ({ dst := some 5, op := Go.Op.assign (Go.Operand.tmp 14), type := 25, pos := _, after := _, guard := none } : Oper)) (v := ?_) rfl (by kernel_rfl) (by kernel_rfl) (by kernel_rfl) (fun _ _ _ h => h) (Or.inl ⟨by rfl, ?_⟩) (by assumption) ?_
          rotate_left
          · (intro w hSw; (try dsimp only at hSw); go_simp; try with_reducible rfl)
          simp only [Act.put, List.setIfInBounds_toArray, List.set_cons_zero, List.set_cons_succ]
          refine wpAnyH_ready (rs := [10]) (by kernel_rfl) (by simp) (AllReadyH.cons (o := ({ dst := none, op := Go.Op.store 27 (Go.Operand.tmp 6) (Go.Operand.tmp 15), type := 0, pos := _, after := _, guard := none } : Oper)) rfl (fun KK hK => ?_) AllReadyH.nil)
          obtain ⟨y0, y1, fy0, fy1⟩ := hE.two
          obtain ⟨hE9, hB9⟩ := put2 hE hBc hgE c i
          go_simp
          refine hK.out _ _ (hS _ hB9) (fun hHeld => ?_)
          clear hK
          try simp only [Act.put, List.setIfInBounds_toArray, List.set_cons_zero, List.set_cons_succ]
          clear y0 y1 fy0 fy1
          refine wpAnyH_done (by kernel_rfl) ?_ _
          go_wp2
          go_meet
          exact ⟨eb, rfl, rfl, hgE, hE9, hB9⟩
        have hgE : w0.heap.size ≤ (WB).heap.size := hBc.size
        have ha2 := balloc (WB) (.cells #[.int .i64 0, .int .i64 0] 27)
        replace hBc := bcat2 hBc ha2
        replace hu := hu.below ha2
        replace hl9 := hl9.below ha2
        have hE : Blk ((WB).alloc (.cells #[.int .i64 0, .int .i64 0] 27)) (WB).heap.size 27 [.int .i64 0, .int .i64 0] := blk0 _ _
        go_simp
        refine hK.out _ _ (hS _ hBc) (fun hHeld => ?_)
        clear hK
        try simp only [Act.put, List.setIfInBounds_toArray, List.set_cons_zero, List.set_cons_succ]
        generalize (WB).alloc (.cells #[.int .i64 0, .int .i64 0] 27) = WE at *
        generalize (WB).heap.size = eb at *
        refine wpAnyH_ready (rs := [4]) (by kernel_rfl) (by simp) (AllReadyH.cons (o := ({ dst := some 13, op := Go.Op.call { callee := Go.Callee.value (Go.Operand.func 5), args := #[Go.Operand.tmp 10, Go.Operand.tmp 12], argTypes := #[24, 22] }, type := 28, pos := _, after := _, guard := none } : Oper)) rfl (fun KK hK => ?_) AllReadyH.nil)
        go_simp
        refine (HCP.out _ _ _ (bcat2 hB0 hBc) hu hl9).mono ?_
        rintro x3 WC ⟨rfl, hl3⟩
        replace hBc := bcat2 hBc hl3
        replace hE := blk_below hE hl3
        clear hu hl9
        try go_wp2_with fail
        refine hK.out _ _ (hS _ hBc) (fun hHeld => ?_)
        clear hK
        try simp only [Act.put, List.setIfInBounds_toArray, List.set_cons_zero, List.set_cons_succ]
        refine wpAnyH_take (i := 5) (oi := ({ dst := some 8, op := Go.Op.move (Go.Operand.tmp 13), type := 28, pos := _, after := _, guard := none } : Oper)) (v := ?_) rfl (by kernel_rfl) (by kernel_rfl) (by kernel_rfl) (fun _ _ _ h => h) (Or.inl ⟨by rfl, ?_⟩) (by assumption) ?_
        rotate_left
        · (intro w hSw; (try dsimp only at hSw); go_simp; try with_reducible rfl)
        simp only [Act.put, List.setIfInBounds_toArray, List.set_cons_zero, List.set_cons_succ]
        refine wpAnyH_take (i := 6) (oi := ({ dst := some 14, op := Go.Op.extract (Go.Operand.tmp 8) 0, type := 25, pos := _, after := _, guard := none } : Oper)) (v := ?_) rfl (by kernel_rfl) (by kernel_rfl) (by kernel_rfl) (fun _ _ _ h => h) (Or.inl ⟨by rfl, ?_⟩) (by assumption) ?_
        rotate_left
        · (intro w hSw; (try dsimp only at hSw); go_simp; try with_reducible rfl)
        simp only [Act.put, List.setIfInBounds_toArray, List.set_cons_zero, List.set_cons_succ]
        refine wpAnyH_take (i := 7) (oi := ({ dst := some 15, op := Go.Op.extract (Go.Operand.tmp 8) 1, type := 27, pos := _, after := _, guard := none } : Oper)) (v := ?_) rfl (by kernel_rfl) (by kernel_rfl) (by kernel_rfl) (fun _ _ _ h => h) (Or.inl ⟨by rfl, ?_⟩) (by assumption) ?_
        rotate_left
        · (intro w hSw; (try dsimp only at hSw); go_simp; try with_reducible rfl)
        simp only [Act.put, List.setIfInBounds_toArray, List.set_cons_zero, List.set_cons_succ]
        refine wpAnyH_take (i := 9) (oi := ({ dst := some 5, op := Go.Op.assign (Go.Operand.tmp 14), type := 25, pos := _, after := _, guard := none } : Oper)) (v := ?_) rfl (by kernel_rfl) (by kernel_rfl) (by kernel_rfl) (fun _ _ _ h => h) (Or.inl ⟨by rfl, ?_⟩) (by assumption) ?_
        rotate_left
        · (intro w hSw; (try dsimp only at hSw); go_simp; try with_reducible rfl)
        simp only [Act.put, List.setIfInBounds_toArray, List.set_cons_zero, List.set_cons_succ]
        refine wpAnyH_ready (rs := [10]) (by kernel_rfl) (by simp) (AllReadyH.cons (o := ({ dst := none, op := Go.Op.store 27 (Go.Operand.tmp 6) (Go.Operand.tmp 15), type := 0, pos := _, after := _, guard := none } : Oper)) rfl (fun KK hK => ?_) AllReadyH.nil)
        obtain ⟨y0, y1, fy0, fy1⟩ := hE.two
        obtain ⟨hE9, hB9⟩ := put2 hE hBc hgE c i
        go_simp
        refine hK.out _ _ (hS _ hB9) (fun hHeld => ?_)
        clear hK
        try simp only [Act.put, List.setIfInBounds_toArray, List.set_cons_zero, List.set_cons_succ]
        clear y0 y1 fy0 fy1
        refine wpAnyH_done (by kernel_rfl) ?_ _
        go_wp2
        go_meet
        exact ⟨eb, rfl, rfl, hgE, hE9, hB9⟩
      have hgE : w0.heap.size ≤ (WA).heap.size := hBc.size
      have ha2 := balloc (WA) (.cells #[.int .i64 0, .int .i64 0] 27)
      replace hBc := bcat2 hBc ha2
      replace hu := hu.below ha2
      have hE : Blk ((WA).alloc (.cells #[.int .i64 0, .int .i64 0] 27)) (WA).heap.size 27 [.int .i64 0, .int .i64 0] := blk0 _ _
      go_simp
      refine hK.out _ _ (hS _ hBc) (fun hHeld => ?_)
      clear hK
      try simp only [Act.put, List.setIfInBounds_toArray, List.set_cons_zero, List.set_cons_succ]
      generalize (WA).alloc (.cells #[.int .i64 0, .int .i64 0] 27) = WE at *
      generalize (WA).heap.size = eb at *
      refine wpAnyH_ready (rs := [3]) (by kernel_rfl) (by simp) (AllReadyH.cons (o := ({ dst := some 12, op := Go.Op.call { callee := Go.Callee.value (Go.Operand.func 7), args := #[Go.Operand.tmp 11], argTypes := #[22] }, type := 22, pos := _, after := _, guard := none } : Oper)) rfl (fun KK hK => ?_) AllReadyH.nil)
      go_simp
      refine (HOL.out _ (bcat2 hB0 hBc)).mono ?_
      rintro x2 WB ⟨l9, rfl, hl9, hl2⟩
      replace hBc := bcat2 hBc hl2
      replace hE := blk_below hE hl2
      replace hu := hu.below hl2
      try go_wp2_with fail
      refine hK.out _ _ (hS _ hBc) (fun hHeld => ?_)
      clear hK
      try simp only [Act.put, List.setIfInBounds_toArray, List.set_cons_zero, List.set_cons_succ]
      refine wpAnyH_ready (rs := [4]) (by kernel_rfl) (by simp) (AllReadyH.cons (o := ({ dst := some 13, op := Go.Op.call { callee := Go.Callee.value (Go.Operand.func 5), args := #[Go.Operand.tmp 10, Go.Operand.tmp 12], argTypes := #[24, 22] }, type := 28, pos := _, after := _, guard := none } : Oper)) rfl (fun KK hK => ?_) AllReadyH.nil)
      go_simp
      refine (HCP.out _ _ _ (bcat2 hB0 hBc) hu hl9).mono ?_
      rintro x3 WC ⟨rfl, hl3⟩
      replace hBc := bcat2 hBc hl3
      replace hE := blk_below hE hl3
      clear hu hl9
      try go_wp2_with fail
      refine hK.out _ _ (hS _ hBc) (fun hHeld => ?_)
      clear hK
      try simp only [Act.put, List.setIfInBounds_toArray, List.set_cons_zero, List.set_cons_succ]
      refine wpAnyH_take (i := 5) (oi := ({ dst := some 8, op := Go.Op.move (Go.Operand.tmp 13), type := 28, pos := _, after := _, guard := none } : Oper)) (v := ?_) rfl (by kernel_rfl) (by kernel_rfl) (by kernel_rfl) (fun _ _ _ h => h) (Or.inl ⟨by rfl, ?_⟩) (by assumption) ?_
      rotate_left
      · (intro w hSw; (try dsimp only at hSw); go_simp; try with_reducible rfl)
      simp only [Act.put, List.setIfInBounds_toArray, List.set_cons_zero, List.set_cons_succ]
      refine wpAnyH_take (i := 6) (oi := ({ dst := some 14, op := Go.Op.extract (Go.Operand.tmp 8) 0, type := 25, pos := _, after := _, guard := none } : Oper)) (v := ?_) rfl (by kernel_rfl) (by kernel_rfl) (by kernel_rfl) (fun _ _ _ h => h) (Or.inl ⟨by rfl, ?_⟩) (by assumption) ?_
      rotate_left
      · (intro w hSw; (try dsimp only at hSw); go_simp; try with_reducible rfl)
      simp only [Act.put, List.setIfInBounds_toArray, List.set_cons_zero, List.set_cons_succ]
      refine wpAnyH_take (i := 7) (oi := ({ dst := some 15, op := Go.Op.extract (Go.Operand.tmp 8) 1, type := 27, pos := _, after := _, guard := none } : Oper)) (v := ?_) rfl (by kernel_rfl) (by kernel_rfl) (by kernel_rfl) (fun _ _ _ h => h) (Or.inl ⟨by rfl, ?_⟩) (by assumption) ?_
      rotate_left
      · (intro w hSw; (try dsimp only at hSw); go_simp; try with_reducible rfl)
      simp only [Act.put, List.setIfInBounds_toArray, List.set_cons_zero, List.set_cons_succ]
      refine wpAnyH_take (i := 9) (oi := ({ dst := some 5, op := Go.Op.assign (Go.Operand.tmp 14), type := 25, pos := _, after := _, guard := none } : Oper)) (v := ?_) rfl (by kernel_rfl) (by kernel_rfl) (by kernel_rfl) (fun _ _ _ h => h) (Or.inl ⟨by rfl, ?_⟩) (by assumption) ?_
      rotate_left
      · (intro w hSw; (try dsimp only at hSw); go_simp; try with_reducible rfl)
      simp only [Act.put, List.setIfInBounds_toArray, List.set_cons_zero, List.set_cons_succ]
      refine wpAnyH_ready (rs := [10]) (by kernel_rfl) (by simp) (AllReadyH.cons (o := ({ dst := none, op := Go.Op.store 27 (Go.Operand.tmp 6) (Go.Operand.tmp 15), type := 0, pos := _, after := _, guard := none } : Oper)) rfl (fun KK hK => ?_) AllReadyH.nil)
      obtain ⟨y0, y1, fy0, fy1⟩ := hE.two
      obtain ⟨hE9, hB9⟩ := put2 hE hBc hgE c i
      go_simp
      refine hK.out _ _ (hS _ hB9) (fun hHeld => ?_)
      clear hK
      try simp only [Act.put, List.setIfInBounds_toArray, List.set_cons_zero, List.set_cons_succ]
      clear y0 y1 fy0 fy1
      refine wpAnyH_done (by kernel_rfl) ?_ _
      go_wp2
      go_meet
      exact ⟨eb, rfl, rfl, hgE, hE9, hB9⟩
    have hgE : w0.heap.size ≤ (wd).heap.size := hBc.size
    have ha2 := balloc (wd) (.cells #[.int .i64 0, .int .i64 0] 27)
    replace hBc := bcat2 hBc ha2
    have hE : Blk ((wd).alloc (.cells #[.int .i64 0, .int .i64 0] 27)) (wd).heap.size 27 [.int .i64 0, .int .i64 0] := blk0 _ _
    go_simp
    refine hK.out _ _ (hS _ hBc) (fun hHeld => ?_)
    clear hK
    try simp only [Act.put, List.setIfInBounds_toArray, List.set_cons_zero, List.set_cons_succ]
    generalize (wd).alloc (.cells #[.int .i64 0, .int .i64 0] 27) = WE at *
    generalize (wd).heap.size = eb at *
    refine wpAnyH_ready (rs := [1]) (by kernel_rfl) (by simp) (AllReadyH.cons (o := ({ dst := some 10, op := Go.Op.call { callee := Go.Callee.value (Go.Operand.func 6), args := #[Go.Operand.tmp 9], argTypes := #[24] }, type := 24, pos := _, after := _, guard := none } : Oper)) rfl (fun KK hK => ?_) AllReadyH.nil)
    go_simp
    refine (HOG.out _ (bcat2 hB0 hBc)).mono ?_
    rintro x1 WA ⟨u, rfl, hu, hl1⟩
    replace hBc := bcat2 hBc hl1
    replace hE := blk_below hE hl1
    try go_wp2_with fail
    refine hK.out _ _ (hS _ hBc) (fun hHeld => ?_)
    clear hK
    try simp only [Act.put, List.setIfInBounds_toArray, List.set_cons_zero, List.set_cons_succ]
    refine wpAnyH_ready (rs := [3]) (by kernel_rfl) (by simp) (AllReadyH.cons (o := ({ dst := some 12, op := Go.Op.call { callee := Go.Callee.value (Go.Operand.func 7), args := #[Go.Operand.tmp 11], argTypes := #[22] }, type := 22, pos := _, after := _, guard := none } : Oper)) rfl (fun KK hK => ?_) AllReadyH.nil)
    go_simp
    refine (HOL.out _ (bcat2 hB0 hBc)).mono ?_
    rintro x2 WB ⟨l9, rfl, hl9, hl2⟩
    replace hBc := bcat2 hBc hl2
    replace hE := blk_below hE hl2
    replace hu := hu.below hl2
    try go_wp2_with fail
    refine hK.out _ _ (hS _ hBc) (fun hHeld => ?_)
    clear hK
    try simp only [Act.put, List.setIfInBounds_toArray, List.set_cons_zero, List.set_cons_succ]
    refine wpAnyH_ready (rs := [4]) (by kernel_rfl) (by simp) (AllReadyH.cons (o := ({ dst := some 13, op := Go.Op.call { callee := Go.Callee.value (Go.Operand.func 5), args := #[Go.Operand.tmp 10, Go.Operand.tmp 12], argTypes := #[24, 22] }, type := 28, pos := _, after := _, guard := none } : Oper)) rfl (fun KK hK => ?_) AllReadyH.nil)
    go_simp
    refine (HCP.out _ _ _ (bcat2 hB0 hBc) hu hl9).mono ?_
    rintro x3 WC ⟨rfl, hl3⟩
    replace hBc := bcat2 hBc hl3
    replace hE := blk_below hE hl3
    clear hu hl9
    try go_wp2_with fail
    refine hK.out _ _ (hS _ hBc) (fun hHeld => ?_)
    clear hK
    try simp only [Act.put, List.setIfInBounds_toArray, List.set_cons_zero, List.set_cons_succ]
    refine wpAnyH_take (i := 5) (oi := ({ dst := some 8, op := Go.Op.move (Go.Operand.tmp 13), type := 28, pos := _, after := _, guard := none } : Oper)) (v := ?_) rfl (by kernel_rfl) (by kernel_rfl) (by kernel_rfl) (fun _ _ _ h => h) (Or.inl ⟨by rfl, ?_⟩) (by assumption) ?_
    rotate_left
    · (intro w hSw; (try dsimp only at hSw); go_simp; try with_reducible rfl)
    simp only [Act.put, List.setIfInBounds_toArray, List.set_cons_zero, List.set_cons_succ]
    refine wpAnyH_take (i := 6) (oi := ({ dst := some 14, op := Go.Op.extract (Go.Operand.tmp 8) 0, type := 25, pos := _, after := _, guard := none } : Oper)) (v := ?_) rfl (by kernel_rfl) (by kernel_rfl) (by kernel_rfl) (fun _ _ _ h => h) (Or.inl ⟨by rfl, ?_⟩) (by assumption) ?_
    rotate_left
    · (intro w hSw; (try dsimp only at hSw); go_simp; try with_reducible rfl)
    simp only [Act.put, List.setIfInBounds_toArray, List.set_cons_zero, List.set_cons_succ]
    refine wpAnyH_take (i := 7) (oi := ({ dst := some 15, op := Go.Op.extract (Go.Operand.tmp 8) 1, type := 27, pos := _, after := _, guard := none } : Oper)) (v := ?_) rfl (by kernel_rfl) (by kernel_rfl) (by kernel_rfl) (fun _ _ _ h => h) (Or.inl ⟨by rfl, ?_⟩) (by assumption) ?_
    rotate_left
    · (intro w hSw; (try dsimp only at hSw); go_simp; try with_reducible rfl)
    simp only [Act.put, List.setIfInBounds_toArray, List.set_cons_zero, List.set_cons_succ]
    refine wpAnyH_take (i := 9) (oi := ({ dst := some 5, op := Go.Op.assign (Go.Operand.tmp 14), type := 25, pos := _, after := _, guard := none } : Oper)) (v := ?_) rfl (by kernel_rfl) (by kernel_rfl) (by kernel_rfl) (fun _ _ _ h => h) (Or.inl ⟨by rfl, ?_⟩) (by assumption) ?_
    rotate_left
    · (intro w hSw; (try dsimp only at hSw); go_simp; try with_reducible rfl)
    simp only [Act.put, List.setIfInBounds_toArray, List.set_cons_zero, List.set_cons_succ]
    refine wpAnyH_ready (rs := [10]) (by kernel_rfl) (by simp) (AllReadyH.cons (o := ({ dst := none, op := Go.Op.store 27 (Go.Operand.tmp 6) (Go.Operand.tmp 15), type := 0, pos := _, after := _, guard := none } : Oper)) rfl (fun KK hK => ?_) AllReadyH.nil)
    obtain ⟨y0, y1, fy0, fy1⟩ := hE.two
    obtain ⟨hE9, hB9⟩ := put2 hE hBc hgE c i
    go_simp
    refine hK.out _ _ (hS _ hB9) (fun hHeld => ?_)
    clear hK
    try simp only [Act.put, List.setIfInBounds_toArray, List.set_cons_zero, List.set_cons_succ]
    clear y0 y1 fy0 fy1
    refine wpAnyH_done (by kernel_rfl) ?_ _
    go_wp2
    go_meet
    exact ⟨eb, rfl, rfl, hgE, hE9, hB9⟩
  case rest =>
    obtain ⟨eb, rfl, rfl, hgE, hE, hbx⟩ := hcut
    obtain ⟨g0, g1, _, _⟩ := (blk_below hX0 hbx).two
    replace l0 := below_cell hbx l0
    clear hS hS0 hBc
    have hBx := bcat2 hB0 hbx
    go_wp2_with fail
    refine (HNF.out _ hBx).mono ?_
    rintro x6 W6 ⟨rfl, hb6⟩
    obtain ⟨W7, hW7⟩ : ∃ W7, W7 = W6.alloc (.cells #[.int .i64 0, .int .i64 0] 27) := ⟨_, rfl⟩
    have hb67 : Below W6.heap.size W6 W7 := by rw [hW7]; exact balloc W6 _
    have hR7 : Blk W7 W6.heap.size 27 [.int .i64 0, .int .i64 0] := by rw [hW7]; exact blk0 _ _
    have hb7 := bcat2 hb6 hb67
    have hE7 := blk_below hE hb7
    have hx7 := bcat2 hbx hb7
    have hX7 := blk_below hX0 hx7
    have hL7 : W7.cell? ⟨w.heap.size + 1, 0, none⟩ = some (.slice l1 l2 l3) := below_cell hb7 l0
    have hLB7 : Boxed W7 (w.heap.size + 1) 22 (.slice l1 l2 l3) := (hx7.block _ hs1).trans hL0
    have hB7 := bcat2 hB0 hx7
    have hew : eb < W6.heap.size := Nat.lt_of_lt_of_le hE.lt hb6.size
    have hgw : w.heap.size < W6.heap.size := by omega
    clear g0 g1 l0
    obtain ⟨g0, g1, _, _⟩ := hX7.two
    obtain ⟨f0, f1, _, _⟩ := hE7.two
    obtain ⟨r0, r1z, _, _⟩ := hR7.two
    have l0 := hL7
    rw [hW7] at g0 g1 f0 f1 r0 r1z l0
    go_wp2_with fail
    rw [← hW7] at g0 g1 f0 f1 r0 r1z l0
    rw [← hW7]
    clear hW7 hb67 hb6
    generalize W6.heap.size = wb at *
    refine (HFF.out _ hB7).mono ?_
    rintro x7 WF ⟨rfl, hbF⟩
    have hRF := blk_below hR7 hbF
    have hEF := blk_below hE7 hbF
    have hXF := blk_below hX7 hbF
    have hBF := bcat2 hB7 hbF
    have lF := below_cell hbF l0
    clear g0 g1 f0 f1 r0 r1z l0
    obtain ⟨y0, y1, fy0, fy1⟩ := hRF.two
    obtain ⟨hR9, hX9, hE9, hB9⟩ := put_box hRF hXF hEF hBF (by omega) (by omega) (by omega) c i
    obtain ⟨g0, g1, _, _⟩ := hX9.two
    obtain ⟨f0, f1, _, _⟩ := hE9.two
    obtain ⟨r0, r1z, _, _⟩ := hR9.two
    have l0 : ((WF.setCell ⟨wb, 0, none⟩ (.int .i64 c)).setCell ⟨wb, 1, none⟩ (.int .i64 i)).cell? ⟨w.heap.size + 1, 0, none⟩ = some (.slice l1 l2 l3) := by
      have hLF : Boxed WF (w.heap.size + 1) 22 (.slice l1 l2 l3) := Boxed.below (b := w.heap.size + 1) (t := 22) hLB7 hbF
      have hLG : Boxed ((WF.setCell ⟨wb, 0, none⟩ (.int .i64 c)).setCell ⟨wb, 1, none⟩ (.int .i64 i)) (w.heap.size + 1) 22 (.slice l1 l2 l3) := (Below.heap_setCell _ ⟨wb, 1, none⟩ _ _ (by show w.heap.size + 1 ≠ wb; omega)).trans ((Below.heap_setCell _ ⟨wb, 0, none⟩ _ _ (by show w.heap.size + 1 ≠ wb; omega)).trans hLF)
      exact hLG.cell
    go_wp2_with fail
    clear hX7 hE7 hR7 hB7 hL7 hLB7 hx7
    have hx7 := trivial
    have hL7 := trivial
    have hLB7 := trivial
    have hR7 := hR9
    have hE7 := hE9
    have hX7 := hX9
    have hB7 := hB9
    generalize (WF.setCell ⟨wb, 0, none⟩ (.int .i64 c)).setCell ⟨wb, 1, none⟩ (.int .i64 i) = WG at *
    clear y0 y1 fy0 fy1 hRF hEF hXF hBF lF hbF hR9 hE9 hX9 hB9
    refine (HBE.out _ hB7).mono ?_
    rintro x8 W8 ⟨rfl, hb8⟩
    have hB8 := bcat2 hB7 hb8
    have f0' := below_cell hb8 f0
    have f1' := below_cell hb8 f1
    have r0' := below_cell hb8 r0
    have r1' := below_cell hb8 r1z
    have g0' := below_cell hb8 g0
    have l0' := below_cell hb8 l0
    clear f0 f1 r0 r1z g0 g1 l0
    go_wp2_with fail
    refine (HLA.out _ hB8).mono ?_
    rintro x9 Wz ⟨rfl, hb9⟩
    have hBz := bcat2 hB8 hb9
    have r0 := below_cell hb9 r0'
    have g0 := below_cell hb9 g0'
    have l0 := below_cell hb9 l0'
    clear f0' f1' r0' r1' g0' l0' hX7 hE7 hR7 hL7 hLB7 hx7 hB7 hb8 hb9 hB8 hb7 hE hbx hBx
    have hS : ∀ W, Below Wz.heap.size Wz W → (Below Wz.heap.size Wz W ∧ W.cell? ⟨wb, 0, none⟩ = some (.int .i64 c) ∧ W.cell? ⟨w.heap.size, 0, none⟩ = some (.int .i64 N) ∧ W.cell? ⟨w.heap.size + 1, 0, none⟩ = some (.slice l1 l2 l3)) := fun W h => ⟨h, below_cell h r0, below_cell h g0, below_cell h l0⟩
    have hBc : Below Wz.heap.size Wz Wz.drew := bdrew (Below.refl _ _)
    have hS7 := hS _ hBc
    go_wp2_with fail
    clear r0 g0 l0
    refine wp_region_held_drew (S := fun W => Below Wz.heap.size Wz W ∧ W.cell? ⟨wb, 0, none⟩ = some (.int .i64 c) ∧ W.cell? ⟨w.heap.size, 0, none⟩ = some (.int .i64 N) ∧ W.cell? ⟨w.heap.size + 1, 0, none⟩ = some (.slice l1 l2 l3)) (by kernel_rfl) hS7 (fun hHeld => ?_)
    refine wpAnyH_take (i := 0) (oi := ({ dst := some 38, op := Go.Op.fieldAddr 27 (Go.Operand.tmp 7) 0, type := 0, pos := _, after := _, guard := none } : Oper)) (v := ?_) rfl (by kernel_rfl) (by kernel_rfl) (by kernel_rfl) (fun _ _ _ h => h) (Or.inl ⟨by rfl, ?_⟩) (by assumption) ?_
    rotate_left
    · (intro w hSw; (try dsimp only at hSw); go_simp; try with_reducible rfl)
    simp only [Act.put, List.setIfInBounds_toArray, List.set_cons_zero, List.set_cons_succ]
    refine wpAnyH_take (i := 1) (oi := ({ dst := some 39, op := Go.Op.load 3 (Go.Operand.tmp 38), type := 3, pos := _, after := _, guard := none } : Oper)) (v := ?_) rfl (by kernel_rfl) (by kernel_rfl) (by kernel_rfl) (fun _ _ _ h => h) (Or.inl ⟨by rfl, ?_⟩) (by assumption) ?_
    rotate_left
    · (intro w hSw; (try dsimp only at hSw); go_simp; try with_reducible rfl)
    simp only [Act.put, List.setIfInBounds_toArray, List.set_cons_zero, List.set_cons_succ]
    refine wpAnyH_take (i := 2) (oi := ({ dst := some 40, op := Go.Op.binOp Go.BinOp.neq 3 (Go.Operand.tmp 39) (Go.Operand.const (Go.Value.int Go.IntKind.i64 0)) 3, type := 4, pos := _, after := _, guard := none } : Oper)) (v := .bool true) rfl (by kernel_rfl) (by kernel_rfl) (by kernel_rfl) (fun _ _ _ h => h) (Or.inl ⟨by rfl, ?_⟩) (by assumption) ?_
    · (intro w hSw; (try dsimp only at hSw); go_simp; try (first | with_reducible rfl | (simp [hcb]; done) | (simp; done) | omega | (simp; omega)))
    simp only [Act.put, List.setIfInBounds_toArray, List.set_cons_zero, List.set_cons_succ]
    refine wpAnyH_take (i := 3) (oi := ({ dst := some 41, op := Go.Op.move (Go.Operand.tmp 40), type := 4, pos := _, after := _, guard := none } : Oper)) (v := .bool true) rfl (by kernel_rfl) (by kernel_rfl) (by kernel_rfl) (fun _ _ _ h => h) (Or.inl ⟨by rfl, ?_⟩) (by assumption) ?_
    · (intro w hSw; (try dsimp only at hSw); go_simp; try (first | with_reducible rfl | (simp; done) | omega | (simp; omega)))
    simp only [Act.put, List.setIfInBounds_toArray, List.set_cons_zero, List.set_cons_succ]
    refine wpAnyH_take (i := 4) (oi := ({ dst := some 42, op := Go.Op.load 22 (Go.Operand.tmp 3), type := 22, pos := _, after := _, guard := some (3, false) } : Oper)) (v := undef) rfl (by kernel_rfl) (by kernel_rfl) (by kernel_rfl) (fun _ _ _ h => h) (Or.inr ⟨by rfl, rfl⟩) (by assumption) ?_
    simp only [Act.put, List.setIfInBounds_toArray, List.set_cons_zero, List.set_cons_succ]
    refine wpAnyH_take (i := 5) (oi := ({ dst := some 43, op := Go.Op.call { callee := Go.Callee.builtin Go.Builtin.len, args := #[Go.Operand.tmp 42], argTypes := #[22] }, type := 3, pos := _, after := _, guard := some (3, false) } : Oper)) (v := undef) rfl (by kernel_rfl) (by kernel_rfl) (by kernel_rfl) (fun _ _ _ h => h) (Or.inr ⟨by rfl, rfl⟩) (by assumption) ?_
    simp only [Act.put, List.setIfInBounds_toArray, List.set_cons_zero, List.set_cons_succ]
    refine wpAnyH_take (i := 6) (oi := ({ dst := some 44, op := Go.Op.fieldAddr 24 (Go.Operand.tmp 2) 0, type := 0, pos := _, after := _, guard := some (3, false) } : Oper)) (v := undef) rfl (by kernel_rfl) (by kernel_rfl) (by kernel_rfl) (fun _ _ _ h => h) (Or.inr ⟨by rfl, rfl⟩) (by assumption) ?_
    simp only [Act.put, List.setIfInBounds_toArray, List.set_cons_zero, List.set_cons_succ]
    refine wpAnyH_take (i := 7) (oi := ({ dst := some 45, op := Go.Op.load 3 (Go.Operand.tmp 44), type := 3, pos := _, after := _, guard := some (3, false) } : Oper)) (v := undef) rfl (by kernel_rfl) (by kernel_rfl) (by kernel_rfl) (fun _ _ _ h => h) (Or.inr ⟨by rfl, rfl⟩) (by assumption) ?_
    simp only [Act.put, List.setIfInBounds_toArray, List.set_cons_zero, List.set_cons_succ]
    refine wpAnyH_take (i := 8) (oi := ({ dst := some 46, op := Go.Op.load 22 (Go.Operand.tmp 3), type := 22, pos := _, after := _, guard := some (3, false) } : Oper)) (v := undef) rfl (by kernel_rfl) (by kernel_rfl) (by kernel_rfl) (fun _ _ _ h => h) (Or.inr ⟨by rfl, rfl⟩) (by assumption) ?_
    simp only [Act.put, List.setIfInBounds_toArray, List.set_cons_zero, List.set_cons_succ]
    refine wpAnyH_take (i := 9) (oi := ({ dst := some 47, op := Go.Op.call { callee := Go.Callee.builtin Go.Builtin.len, args := #[Go.Operand.tmp 46], argTypes := #[22] }, type := 3, pos := _, after := _, guard := some (3, false) } : Oper)) (v := undef) rfl (by kernel_rfl) (by kernel_rfl) (by kernel_rfl) (fun _ _ _ h => h) (Or.inr ⟨by rfl, rfl⟩) (by assumption) ?_
    simp only [Act.put, List.setIfInBounds_toArray, List.set_cons_zero, List.set_cons_succ]
    refine wpAnyH_take (i := 10) (oi := ({ dst := some 48, op := Go.Op.binOp Go.BinOp.quo 3 (Go.Operand.tmp 45) (Go.Operand.tmp 47) 3, type := 3, pos := _, after := _, guard := some (3, false) } : Oper)) (v := undef) rfl (by kernel_rfl) (by kernel_rfl) (by kernel_rfl) (fun _ _ _ h => h) (Or.inr ⟨by rfl, rfl⟩) (by assumption) ?_
    simp only [Act.put, List.setIfInBounds_toArray, List.set_cons_zero, List.set_cons_succ]
    refine wpAnyH_take (i := 11) (oi := ({ dst := some 49, op := Go.Op.call { callee := Go.Callee.value (Go.Operand.func 16), args := #[Go.Operand.tmp 43, Go.Operand.tmp 48], argTypes := #[3, 3] }, type := 3, pos := _, after := _, guard := some (3, false) } : Oper)) (v := undef) rfl (by kernel_rfl) (by kernel_rfl) (by kernel_rfl) (fun _ _ _ h => h) (Or.inr ⟨by rfl, rfl⟩) (by assumption) ?_
    simp only [Act.put, List.setIfInBounds_toArray, List.set_cons_zero, List.set_cons_succ]
    refine wpAnyH_take (i := 12) (oi := ({ dst := some 50, op := Go.Op.binOp Go.BinOp.gtr 3 (Go.Operand.tmp 49) (Go.Operand.const (Go.Value.int Go.IntKind.i64 1)) 3, type := 4, pos := _, after := _, guard := some (3, false) } : Oper)) (v := undef) rfl (by kernel_rfl) (by kernel_rfl) (by kernel_rfl) (fun _ _ _ h => h) (Or.inr ⟨by rfl, rfl⟩) (by assumption) ?_
    simp only [Act.put, List.setIfInBounds_toArray, List.set_cons_zero, List.set_cons_succ]
    refine wpAnyH_take (i := 13) (oi := ({ dst := some 51, op := Go.Op.pick (Go.Operand.tmp 41) (Go.Operand.const (Go.Value.bool true)) (Go.Operand.tmp 50), type := 4, pos := _, after := _, guard := none } : Oper)) (v := .bool true) rfl (by kernel_rfl) (by kernel_rfl) (by kernel_rfl) (fun _ _ _ h => h) (Or.inl ⟨by rfl, ?_⟩) (by assumption) ?_
    · (intro w hSw; (try dsimp only at hSw); go_simp; try (first | with_reducible rfl | (simp; done) | omega | (simp; omega)))
    simp only [Act.put, List.setIfInBounds_toArray, List.set_cons_zero, List.set_cons_succ]
    refine wpAnyH_take (i := 14) (oi := ({ dst := some 52, op := Go.Op.move (Go.Operand.tmp 51), type := 4, pos := _, after := _, guard := none } : Oper)) (v := .bool true) rfl (by kernel_rfl) (by kernel_rfl) (by kernel_rfl) (fun _ _ _ h => h) (Or.inl ⟨by rfl, ?_⟩) (by assumption) ?_
    · (intro w hSw; (try dsimp only at hSw); go_simp; try (first | with_reducible rfl | (simp; done) | omega | (simp; omega)))
    simp only [Act.put, List.setIfInBounds_toArray, List.set_cons_zero, List.set_cons_succ]
    refine wpAnyH_take (i := 15) (oi := ({ dst := some 53, op := Go.Op.move (Go.Operand.tmp 5), type := 25, pos := _, after := _, guard := some (14, false) } : Oper)) (v := undef) rfl (by kernel_rfl) (by kernel_rfl) (by kernel_rfl) (fun _ _ _ h => h) (Or.inr ⟨by rfl, rfl⟩) (by assumption) ?_
    simp only [Act.put, List.setIfInBounds_toArray, List.set_cons_zero, List.set_cons_succ]
    refine wpAnyH_take (i := 16) (oi := ({ dst := some 54, op := Go.Op.call { callee := Go.Callee.builtin Go.Builtin.len, args := #[Go.Operand.tmp 53], argTypes := #[25] }, type := 3, pos := _, after := _, guard := some (14, false) } : Oper)) (v := undef) rfl (by kernel_rfl) (by kernel_rfl) (by kernel_rfl) (fun _ _ _ h => h) (Or.inr ⟨by rfl, rfl⟩) (by assumption) ?_
    simp only [Act.put, List.setIfInBounds_toArray, List.set_cons_zero, List.set_cons_succ]
    refine wpAnyH_take (i := 17) (oi := ({ dst := some 55, op := Go.Op.binOp Go.BinOp.gtr 3 (Go.Operand.tmp 54) (Go.Operand.const (Go.Value.int Go.IntKind.i64 0)) 3, type := 4, pos := _, after := _, guard := some (14, false) } : Oper)) (v := undef) rfl (by kernel_rfl) (by kernel_rfl) (by kernel_rfl) (fun _ _ _ h => h) (Or.inr ⟨by rfl, rfl⟩) (by assumption) ?_
    simp only [Act.put, List.setIfInBounds_toArray, List.set_cons_zero, List.set_cons_succ]
    refine wpAnyH_take (i := 18) (oi := ({ dst := some 56, op := Go.Op.pick (Go.Operand.tmp 52) (Go.Operand.const (Go.Value.bool true)) (Go.Operand.tmp 55), type := 4, pos := _, after := _, guard := none } : Oper)) (v := .bool true) rfl (by kernel_rfl) (by kernel_rfl) (by kernel_rfl) (fun _ _ _ h => h) (Or.inl ⟨by rfl, ?_⟩) (by assumption) ?_
    · (intro w hSw; (try dsimp only at hSw); go_simp; try (first | with_reducible rfl | (simp; done) | omega | (simp; omega)))
    simp only [Act.put, List.setIfInBounds_toArray, List.set_cons_zero, List.set_cons_succ]
    refine wpAnyH_take (i := 19) (oi := ({ dst := some 4, op := Go.Op.assign (Go.Operand.tmp 56), type := 4, pos := _, after := _, guard := none } : Oper)) (v := .bool true) rfl (by kernel_rfl) (by kernel_rfl) (by kernel_rfl) (fun _ _ _ h => h) (Or.inl ⟨by rfl, ?_⟩) (by assumption) ?_
    · (intro w hSw; (try dsimp only at hSw); go_simp; try (first | with_reducible rfl | (simp; done) | omega | (simp; omega)))
    simp only [Act.put, List.setIfInBounds_toArray, List.set_cons_zero, List.set_cons_succ]
    refine wpAnyH_done (by kernel_rfl) ?_ _
    have hBf := bcat2 hBz hBc
    clear hHeld hS7
    go_wp2
    go_ret
    exact ⟨rfl, hBf⟩

end Go.Proofs.YtgejngpioldhpaaGreatDoor
