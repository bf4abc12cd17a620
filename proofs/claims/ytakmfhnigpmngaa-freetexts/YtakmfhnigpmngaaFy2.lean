/- What Text answers. -/
import Derived.Test.YtakmfhnigpmngaaFy
namespace Go.Proofs.Ytakmfhnigpmngaa
open Go Go.RowKit

theorem info5b : (Try.prog.info? 5).map (fun i => (i.zero, i.size, i.bytes)) = some (some (.int .u8 0), 1, 1) := by kernel_rfl
theorem under58b : Try.prog.underlying 58 = some (.slice 5) := by kernel_rfl
theorem under5b : Try.prog.underlying 5 = some (.int .u8) := by kernel_rfl
theorem under9b : Try.prog.underlying 9 = some .string := by kernel_rfl
/-- The bytes of a word's text. -/
def bts (zs : List Int) : List UInt8 := zs.map (fun x => UInt8.ofNat (byt x).toNat)
def txt (zs : List Int) : ByteArray := if zs = [] then ⟨#[49]⟩ else ⟨(bts zs).toArray⟩
theorem byt_nat {x : Int} (h : bad x = false) : (((UInt8.ofNat (byt x).toNat).toNat : Nat) : Int) = byt x := by
  have h1 : 0 ≤ byt x ∧ byt x < 256 := by
    rcases byt_range h with ⟨_, _, h3, h4⟩ | ⟨_, _, h3, h4⟩ <;> omega
  have h2 : (byt x).toNat < 256 := by omega
  rw [UInt8.toNat_ofNat', Nat.mod_eq_of_lt (by simpa using h2)]
  omega
/-- The cells while they are written. -/
def txc (zs : List Int) (k : Nat) : List Value := (zs.take k).map (fun x => .int .u8 (byt x)) ++ List.replicate (zs.length - k) (.int .u8 0)
theorem txc_zero (zs : List Int) : txc zs 0 = List.replicate zs.length (.int .u8 0) := by simp [txc]
theorem txc_len {zs : List Int} {k : Nat} (hk : k ≤ zs.length) : (txc zs k).length = zs.length := by simp [txc]; omega
theorem txc_full (zs : List Int) : txc zs zs.length = zs.map (fun x => .int .u8 (byt x)) := by simp [txc]
theorem txc_next {zs : List Int} {k : Nat} (hk : k < zs.length) : (txc zs k).set k (.int .u8 (byt (zs[k]?.getD 0))) = txc zs (k + 1) := by
  unfold txc
  rw [take_snoc' hk, show zs.length - k = (zs.length - (k + 1)) + 1 by omega, List.replicate_succ]
  rw [List.set_append_right _ _ (by simp; omega)]
  simp [Nat.min_eq_left (Nat.le_of_lt hk)]

set_option maxRecDepth 100000 in
set_option maxHeartbeats 4000000 in
theorem text_bad (v : Value) (zs : List Int) (w : World) (hv : Sl w v zs) (hc : wsc [zs] ≠ 0) :
    Calls Try.prog 34 #[v] w fun e w' => e = .returned (.tuple #[.string ⟨#[]⟩, .agg #[.int .i64 (wsc [zs]), .int .i64 (wsa [zs])]]) ∧ Below w.heap.size w w' := by
  obtain ⟨va, vc, _, _, hve, _⟩ := id hv
  subst hve
  obtain ⟨w0, hw0⟩ : ∃ w0, w0 = (w.alloc (.cells #[.int .i64 0, .int .i64 0] 26)).alloc (.cells #[.slice va zs.length vc] 22) := ⟨_, rfl⟩
  have HSL := SlW.one (hv.below (balloc w (.cells #[.int .i64 0, .int .i64 0] 26)))
  rw [World.size_alloc] at HSL
  have HCK := hide (checks_any (.slice (some ⟨w.heap.size + 1, 0, none⟩) 1 1) [zs] _ HSL)
  clear HSL
  rw [← hw0] at HCK
  have hB0 : Below w.heap.size w w0 := by rw [hw0]; exact (balloc w (.cells #[.int .i64 0, .int .i64 0] 26)).alloc (balloc w (.cells #[.int .i64 0, .int .i64 0] 26)).size _
  have hR0 : Blk w0 w.heap.size 26 [.int .i64 0, .int .i64 0] := by rw [hw0]; exact (new26 w).alloc _
  have hs0 := hB0.size
  have hcb : (wsc [zs] != 0) = true := by simpa using hc
  generalize wsc [zs] = c at *
  generalize wsa [zs] = d at *
  clear hv hc
  go_enter Try.func34, Try.ntmps34
  go_wp2_with fail
  rw [← hw0]
  refine HCK.out.mono ?_
  rintro x w1 ⟨rfl, hb1⟩
  obtain ⟨w2, hw2⟩ : ∃ w2, w2 = w1.alloc (.cells #[.int .i64 c, .int .i64 d] 26) := ⟨_, rfl⟩
  have hB1 : Below w0.heap.size w0 w2 := by rw [hw2]; exact bcat2 hb1 (balloc w1 _)
  have hF1 : Blk w2 w1.heap.size 26 [.int .i64 c, .int .i64 d] := by rw [hw2]; exact blk0 _ _
  have hR1 : Blk w2 w.heap.size 26 [.int .i64 0, .int .i64 0] := hR0.of_eq (hB1.block _ hR0.lt)
  have hBw := bcat hB0 hB1 hs0
  obtain ⟨y0, y1, fy0, fy1⟩ := hR1.two
  obtain ⟨t0, t1, _, _⟩ := hF1.two
  have hlt1 : w.heap.size < w1.heap.size := Nat.lt_of_lt_of_le hR0.lt hb1.size
  have hnn : ¬ w1.heap.size = w.heap.size := by omega
  rw [hw2] at t0 t1
  go_wp2_with fail
  rw [← hw2]
  rw [← hw2] at t0 t1
  clear hw2
  go_region
  all_goals (
    go_wp2
    have hR7 : Blk ((w2.setCell ⟨w.heap.size, 0, none⟩ (.int .i64 c)).setCell ⟨w.heap.size, 1, none⟩ (.int .i64 d)).drew w.heap.size 26 [.int .i64 c, .int .i64 d] := (hR1.set 0 _).set 1 _
    have hB7 := bdrew ((hBw.setCell (p := ⟨w.heap.size, 0, none⟩) (Nat.le_refl _) (.int .i64 c)).setCell (p := ⟨w.heap.size, 1, none⟩) (Nat.le_refl _) (.int .i64 d))
    generalize ((w2.setCell ⟨w.heap.size, 0, none⟩ (.int .i64 c)).setCell ⟨w.heap.size, 1, none⟩ (.int .i64 d)).drew = W at hR7 hB7 ⊢
    obtain ⟨z0, z1, _, _⟩ := hR7.two
    exact bodyPost_ret (v := .tuple #[.string ⟨#[]⟩, .agg #[.int .i64 c, .int .i64 d]]) (by simp [results, Try.results34, go_sem, z0, z1]) rfl ⟨rfl, hB7⟩)

set_option maxRecDepth 100000 in
set_option maxHeartbeats 4000000 in
theorem text_one_good (v : Value) (zs : List Int) (w : World) (hv : Sl w v zs) (hw : Wd zs) (hz : zs = []) :
    Calls Try.prog 34 #[v] w fun e w' => e = .returned (.tuple #[.string ⟨#[49]⟩, .agg #[.int .i64 0, .int .i64 0]]) ∧ Below w.heap.size w w' := by
  have HZ := hide hz
  clear hz
  obtain ⟨hc, hd⟩ := wsc_zero (ws := [zs]) (by intro x hx; simp at hx; rw [hx]; exact hw)
  have hlz := hw.lt
  have hnz := hw.len
  obtain ⟨va, vc, _, _, hve, _⟩ := id hv
  subst hve
  obtain ⟨w0, hw0⟩ : ∃ w0, w0 = (w.alloc (.cells #[.int .i64 0, .int .i64 0] 26)).alloc (.cells #[.slice va zs.length vc] 22) := ⟨_, rfl⟩
  have HSL := SlW.one (hv.below (balloc w (.cells #[.int .i64 0, .int .i64 0] 26)))
  rw [World.size_alloc] at HSL
  have HCK := hide (checks_any (.slice (some ⟨w.heap.size + 1, 0, none⟩) 1 1) [zs] _ HSL)
  clear HSL
  rw [← hw0, hc, hd] at HCK
  have hB0 : Below w.heap.size w w0 := by rw [hw0]; exact (balloc w (.cells #[.int .i64 0, .int .i64 0] 26)).alloc (balloc w (.cells #[.int .i64 0, .int .i64 0] 26)).size _
  have hR0 : Blk w0 w.heap.size 26 [.int .i64 0, .int .i64 0] := by rw [hw0]; exact (new26 w).alloc _
  have hs0 := hB0.size
  clear hc hd
  go_enter Try.func34, Try.ntmps34
  go_wp2_with fail
  rw [← hw0]
  refine HCK.out.mono ?_
  rintro x w1 ⟨rfl, hb1⟩
  clear hw0 HCK
  have hB1 : Below w0.heap.size w0 (w1.alloc (.cells #[.int .i64 0, .int .i64 0] 26)) := bcat2 hb1 (balloc w1 _)
  have hR1 : Blk (w1.alloc (.cells #[.int .i64 0, .int .i64 0] 26)) w.heap.size 26 [.int .i64 0, .int .i64 0] := hR0.of_eq (hB1.block _ hR0.lt)
  have hBw := bcat hB0 hB1 hs0
  have hlt1 : w.heap.size < w1.heap.size := Nat.lt_of_lt_of_le hR0.lt hb1.size
  have hnn : ¬ w1.heap.size = w.heap.size := by omega
  obtain ⟨W2, hW2⟩ : ∃ W2, W2 = w1.alloc (.cells #[.int .i64 0, .int .i64 0] 26) := ⟨_, rfl⟩
  have hW2s : W2.heap.size = w1.heap.size + 1 := by rw [hW2, World.size_alloc]
  rw [← hW2] at hB1 hR1 hBw
  have hge := hBw.size
  have hv2 := hv.below hBw
  have hRW2 := hR1
  obtain ⟨_, y0, y1, fy0, fy1, s0, s1⟩ := Two.mk' hRW2
  have hBf := hBw
  rw [hW2] at y0 y1 fy0 fy1 s0 s1 hBf
  have hz := HZ.out
  subst hz
  clear hv hv2
  go_wp2
  exact bodyPost_ret (v := .tuple #[.string ⟨#[49]⟩, .agg #[.int .i64 0, .int .i64 0]]) (by simp [results, Try.results34, go_sem, y0, y1]) rfl ⟨rfl, hBf⟩

set_option maxRecDepth 100000 in
set_option maxHeartbeats 4000000 in
theorem text_good_good (v : Value) (zs : List Int) (w : World) (hv : Sl w v zs) (hw : Wd zs) (hz : zs ≠ []) :
    Calls Try.prog 34 #[v] w fun e w' => e = .returned (.tuple #[.string ⟨(bts zs).toArray⟩, .agg #[.int .i64 0, .int .i64 0]]) ∧ Below w.heap.size w w' := by
  have HZ := hide hz
  clear hz
  obtain ⟨hc, hd⟩ := wsc_zero (ws := [zs]) (by intro x hx; simp at hx; rw [hx]; exact hw)
  have hlz := hw.lt
  have hnz := hw.len
  obtain ⟨va, vc, _, _, hve, _⟩ := id hv
  subst hve
  obtain ⟨w0, hw0⟩ : ∃ w0, w0 = (w.alloc (.cells #[.int .i64 0, .int .i64 0] 26)).alloc (.cells #[.slice va zs.length vc] 22) := ⟨_, rfl⟩
  have HSL := SlW.one (hv.below (balloc w (.cells #[.int .i64 0, .int .i64 0] 26)))
  rw [World.size_alloc] at HSL
  have HCK := hide (checks_any (.slice (some ⟨w.heap.size + 1, 0, none⟩) 1 1) [zs] _ HSL)
  clear HSL
  rw [← hw0, hc, hd] at HCK
  have hB0 : Below w.heap.size w w0 := by rw [hw0]; exact (balloc w (.cells #[.int .i64 0, .int .i64 0] 26)).alloc (balloc w (.cells #[.int .i64 0, .int .i64 0] 26)).size _
  have hR0 : Blk w0 w.heap.size 26 [.int .i64 0, .int .i64 0] := by rw [hw0]; exact (new26 w).alloc _
  have hs0 := hB0.size
  clear hc hd
  go_enter Try.func34, Try.ntmps34
  go_wp2_with fail
  rw [← hw0]
  refine HCK.out.mono ?_
  rintro x w1 ⟨rfl, hb1⟩
  clear hw0 HCK
  have hB1 : Below w0.heap.size w0 (w1.alloc (.cells #[.int .i64 0, .int .i64 0] 26)) := bcat2 hb1 (balloc w1 _)
  have hR1 : Blk (w1.alloc (.cells #[.int .i64 0, .int .i64 0] 26)) w.heap.size 26 [.int .i64 0, .int .i64 0] := hR0.of_eq (hB1.block _ hR0.lt)
  have hBw := bcat hB0 hB1 hs0
  have hlt1 : w.heap.size < w1.heap.size := Nat.lt_of_lt_of_le hR0.lt hb1.size
  have hnn : ¬ w1.heap.size = w.heap.size := by omega
  obtain ⟨W2, hW2⟩ : ∃ W2, W2 = w1.alloc (.cells #[.int .i64 0, .int .i64 0] 26) := ⟨_, rfl⟩
  have hW2s : W2.heap.size = w1.heap.size + 1 := by rw [hW2, World.size_alloc]
  rw [← hW2] at hB1 hR1 hBw
  have hge := hBw.size
  have hv2 := hv.below hBw
  have hz := HZ.out
  obtain ⟨i5, hi5, hj0, hj1, hj2⟩ := info_parts info5b
  have hpos : 0 < zs.length := List.length_pos_iff.2 hz
  have hzb : ((zs.length : Int) == 0) = false := by simp; exact hz
  have HLT := hide hlz
  have HWS := hide hW2s
  obtain ⟨a9, cap9, pb, po, hve, hr, hp, hcap, hcm⟩ := id hv2
  injection hve with e1 _ e2
  subst e1 e2
  have hat := hr.at_ hpos
  subst hat
  have HRD := hide hr
  have hpx := hp
  unfold maxLen at hcm
  clear hr hv hz hlz hW2s
  go_wp2_with (first
    | (at_make; refine wpList_make_full _ rfl _ _ 58 rfl w.heap.size 5 i5 (.int .u8 0) 1 under58b hi5 hj0 hj1 _ _ _ _ zs.length rfl rfl rfl rfl (by rw [hj2]; omega) (by unfold maxLen; omega) (by rw [← hW2]; exact hge) ?_))
  rw [← hW2]
  intro w3 hown hgr
  have hM : Blk w3 (w1.heap.size + 1) 5 (txc zs 0) := by
    have := Blk.of_owns hown
    rw [made_rep] at this
    rw [txc_zero]; simpa using this
  have hb3 : Below W2.heap.size W2 w3 := (Below.refl _ W2).grown hgr (Nat.le_refl _) (by simp)
  have hB3 := bcat hBw hb3 hge
  have hR3 : Blk w3 w.heap.size 26 [.int .i64 0, .int .i64 0] := hR1.of_eq (hb3.block _ hR1.lt)
  have hlt3 := hR1.lt
  clear hown hgr hW2
  go_wp2
  go_loopw [24] (fun i wr => ∃ k : Nat, k ≤ zs.length ∧ i = .int .i64 k ∧ Blk wr (w1.heap.size + 1) 5 (txc zs k) ∧ Below W2.heap.size W2 wr) (fun i _ => zs.length - (intOf i).toNat)
  case atStart => exact ⟨0, Nat.zero_le _, rfl, hM, hb3⟩
  case round =>
    clear hM hB3 hR3 hb3
    obtain ⟨k, hk, rfl, hM, hb3⟩ := hrel
    by_cases hlt : k < zs.length
    · have hx := (HRD.out.below hb3 hpx).cell k hlt
      have hbx := HLT.out.at hlt
      have HN := hide (txc_next hlt)
      obtain ⟨x, hxe⟩ : ∃ x, zs[k]?.getD 0 = x := ⟨_, rfl⟩
      rw [hxe] at hx hbx HN
      clear hxe
      have hkl : (k : Int) < (zs.length : Int) := by omega
      have HBY := hide (byteOf_ok x wr hbx)
      obtain ⟨v9, hcellq⟩ : ∃ v9, wr.cell? ⟨w1.heap.size + 1, k, none⟩ = some v9 := by
        rw [hM.cell]
        exact ⟨_, List.getElem?_eq_getElem (by rw [txc_len (by omega)]; exact hlt)⟩
      have hfrq := hM.frozen k
      have hM2 := hM.set k (.int .u8 (byt x))
      rw [HN.out] at hM2
      have hB2 := hb3.setCell (p := ⟨w1.heap.size + 1, k, none⟩) (Nat.le_of_eq HWS.out) (.int .u8 (byt x))
      clear hM
      go_wp2_with fail
      refine HBY.out.mono ?_
      rintro x9 w9 ⟨rfl, rfl⟩
      go_wp2
      go_roundw
      case rel => exact ⟨k + 1, by omega, by go_num, hM2, hB2⟩
      case measure => simp [intOf]; omega
    · have hkk : k = zs.length := by omega
      subst hkk
      rw [txc_full] at hM
      have hBf := bcat hBw hb3 hge
      have hRf : Blk wr w.heap.size 26 [.int .i64 0, .int .i64 0] := hR1.of_eq (hb3.block _ hR1.lt)
      have hcv := run_convert_bytes_back (P := Try.prog) wr 58 9 5 ⟨w1.heap.size + 1, 0, none⟩ zs.length (bts zs) under58b under5b under9b (by
        intro j hj
        have hjz : j < zs.length := by simpa [bts] using hj
        rw [show (⟨w1.heap.size + 1, 0, none⟩ : Addr).add j = ⟨w1.heap.size + 1, j, none⟩ by unfold Addr.add; split <;> simp_all]
        rw [hM.cell, List.getElem?_map, List.getElem?_eq_getElem hjz]
        have hbx := HLT.out _ (List.getElem_mem hjz)
        simp only [bts, List.getElem_map, Option.map_some]
        rw [byt_nat hbx])
      rw [show (bts zs).length = zs.length by simp [bts]] at hcv
      obtain ⟨_, y0, y1, fy0, fy1, s0, s1⟩ := Two.mk' hRf
      obtain ⟨B, hBq⟩ : ∃ B, (bts zs).toArray = B := ⟨_, rfl⟩
      rw [hBq] at hcv
      have HBQ := hide hBq
      clear hM hBq
      go_wp2
      exact bodyPost_ret (v := .tuple #[.string ⟨B⟩, .agg #[.int .i64 0, .int .i64 0]]) (by simp [results, Try.results34, go_sem, y0, y1]) rfl ⟨by rw [HBQ.out], hBf⟩

end Go.Proofs.Ytakmfhnigpmngaa
