/- The law FreeTexts, where something is wrong with the word. -/
import Derived.Test.YtakmfhnigpmngaaFz0
namespace Go.Proofs.Ytakmfhnigpmngaa
open Go Go.RowKit

set_option maxRecDepth 100000 in
set_option maxHeartbeats 4000000 in
theorem tx_A1 (v : Value) (zs : List Int) (w : World) (hv : SlA w v zs) (hl : zs.length ≤ 5000) (h : wsc [zs] ≠ 0) (s : ByteArray) (h2 : 2000 < s.size) (h5 : s.size ≤ 5000) :
    Calls Try.prog 7 #[v, .string s] w fun e w' => e = .returned (.bool true) ∧ Below w.heap.size w w' := by
  have hl1 : ¬ ((5000 : Int) < (zs.length : Int)) := by omega
  have hs1 : (2000 : Int) < (s.size : Int) := by omega
  have hs5 : ¬ ((5000 : Int) < (s.size : Int)) := by omega
  obtain ⟨va, vc, hve⟩ := hv.shape
  subst hve
  have HV := hide hv
  clear hv
  go_enter Try.func7, Try.ntmps7
  go_wp2_with fail
  refine (freeBegun_any w).mono ?_
  rintro x w1 ⟨rfl, hB, h01⟩
  have hge := hB.size
  have hsv := HV.out.up hB h01
  clear HV
  go_wp2_with fail
  refine (own_row _ zs w1 hsv (by omega)).mono ?_
  rintro x w2 ⟨r, rfl, hr, hb2⟩
  replace hsv := hsv.below hb2
  replace hB := bcat hB hb2 hge
  replace hge := hB.size
  have h0r : 0 < w2.heap.size := hsv.pos
  have hsr := hr.sl h0r
  obtain ⟨r1, r2, rfl⟩ := hr.slice
  clear hr
  go_wp2_with fail
  refine (text_bad _ zs _ hsr h).mono ?_
  rintro x w4 ⟨rfl, hb4⟩
  replace hsv := hsv.below hb4
  replace hsr := hsr.below hb4
  replace hB := bcat hB hb4 hge
  replace hge := hB.size
  have e1 := (wsc_one zs).1
  have e2 := (wsc_one zs).2
  rw [e1, e2]
  rw [e1] at h
  clear e1 e2
  have hb5 : Below w4.heap.size w4 (w4.alloc (.cells #[.int .i64 (wfc zs), .int .i64 (wfa zs)] 26)) := balloc w4 _
  replace hsv := hsv.below hb5
  replace hsr := hsr.below hb5
  replace hB := bcat hB hb5 hge
  replace hge := hB.size
  have b6 : Blk (w4.alloc (.cells #[.int .i64 (wfc zs), .int .i64 (wfa zs)] 26)) w4.heap.size 26 [.int .i64 (wfc zs), .int .i64 (wfa zs)] := blk0 _ _
  obtain ⟨b66a, b66b, b66c, b66d⟩ := b6.two
  go_wp2_with fail
  clear b66a b66b b66c b66d
  refine (parse_big s _ h2 (by omega)).mono ?_
  rintro x w7 ⟨rfl, hb7⟩
  replace hsv := hsv.below hb7
  replace hsr := hsr.below hb7
  replace b6 : Blk (w7) w4.heap.size 26 [.int .i64 (wfc zs), .int .i64 (wfa zs)] := Blk.of_eq b6 (hb7.block _ b6.lt)
  replace hB := bcat hB hb7 hge
  replace hge := hB.size
  have hb8 : Below w7.heap.size w7 (w7.alloc (.cells #[.int .i64 2, .int .i64 0] 26)) := balloc w7 _
  replace hsv := hsv.below hb8
  replace hsr := hsr.below hb8
  replace b6 : Blk (w7.alloc (.cells #[.int .i64 2, .int .i64 0] 26)) w4.heap.size 26 [.int .i64 (wfc zs), .int .i64 (wfa zs)] := Blk.of_eq b6 (hb8.block _ b6.lt)
  replace hB := bcat hB hb8 hge
  replace hge := hB.size
  have b8 : Blk (w7.alloc (.cells #[.int .i64 2, .int .i64 0] 26)) w7.heap.size 26 [.int .i64 2, .int .i64 0] := blk0 _ _
  obtain ⟨b69a, b69b, b69c, b69d⟩ := b6.two
  obtain ⟨b89a, b89b, b89c, b89d⟩ := b8.two
  go_wp2_with fail
  clear b69a b69b b69c b69d b89a b89b b89c b89d
  refine (wfault_any _ zs _ hsv).mono ?_
  rintro x w10 ⟨rfl, hb10⟩
  replace hsv := hsv.below hb10
  replace hsr := hsr.below hb10
  replace b6 : Blk (w10) w4.heap.size 26 [.int .i64 (wfc zs), .int .i64 (wfa zs)] := Blk.of_eq b6 (hb10.block _ b6.lt)
  replace b8 : Blk (w10) w7.heap.size 26 [.int .i64 2, .int .i64 0] := Blk.of_eq b8 (hb10.block _ b8.lt)
  replace hB := bcat hB hb10 hge
  replace hge := hB.size
  have hcb : (wfc zs != 0) = true := by simpa using h
  have hcb2 : (wfc zs == 0) = false := by simpa using h
  generalize wfc zs = c at *
  generalize wfa zs = d at *
  have HGB := hide hge
  have HL8 := hide b8.lt
  have hBp := hB
  have b8p := b8
  have hb11 : Below w10.heap.size w10 (w10.alloc (.cells #[.int .i64 c, .int .i64 d] 26)) := balloc w10 _
  replace hsv := hsv.below hb11
  replace hsr := hsr.below hb11
  replace b6 : Blk (w10.alloc (.cells #[.int .i64 c, .int .i64 d] 26)) w4.heap.size 26 [.int .i64 c, .int .i64 d] := Blk.of_eq b6 (hb11.block _ b6.lt)
  replace b8 : Blk (w10.alloc (.cells #[.int .i64 c, .int .i64 d] 26)) w7.heap.size 26 [.int .i64 2, .int .i64 0] := Blk.of_eq b8 (hb11.block _ b8.lt)
  replace hB := bcat hB hb11 hge
  replace hge := hB.size
  have b9 : Blk (w10.alloc (.cells #[.int .i64 c, .int .i64 d] 26)) w10.heap.size 26 [.int .i64 c, .int .i64 d] := blk0 _ _
  have hne8 : ¬ w7.heap.size = w10.heap.size := Nat.ne_of_lt HL8.out
  have hbN : Below w10.heap.size w10 (w10.alloc (.cells #[.int .i64 0, .int .i64 0] 26)) := balloc w10 _
  have b9n : Two (w10.alloc (.cells #[.int .i64 0, .int .i64 0] 26)) w10.heap.size := Two.new w10
  have b8n := b8p.of_eq (hbN.block _ b8p.lt)
  have hBn : Below w.heap.size w (w10.alloc (.cells #[.int .i64 0, .int .i64 0] 26)) := bcat hBp hbN hBp.size
  obtain ⟨n6a, n6b, _, _⟩ := b6.two
  obtain ⟨n9a, n9b, n9c, n9d⟩ := b9.two
  obtain ⟨n8a, n8b, _, _⟩ := b8.two
  obtain ⟨_, m9a, m9b, m9c, m9d, m9e, m9f⟩ := id b9n
  obtain ⟨m8a, m8b, _, _⟩ := b8n.two
  have b9N := b9n.blk
  have b8N := b8n
  have hBN := hBn
  go_wp2_with fail
  refine (f_ok 2 0 _).mono ?_
  rintro x wF ⟨rfl, hbF⟩
  have b9F : Blk wF w10.heap.size 26 [.int .i64 0, .int .i64 0] := b9N.of_eq (hbF.block _ b9N.lt)
  have b8F := b8N.of_eq (hbF.block _ b8N.lt)
  have hBF := bcat hBN hbF hBN.size
  have hR9 : Blk ((wF.setCell ⟨w10.heap.size, 0, none⟩ (.int .i64 2)).setCell ⟨w10.heap.size, 1, none⟩ (.int .i64 0)) w10.heap.size 26 [.int .i64 2, .int .i64 0] := (b9F.set 0 _).set 1 _
  have hX9 := (b8F.other (p := ⟨w10.heap.size, 0, none⟩) hne8 (.int .i64 2)).other (p := ⟨w10.heap.size, 1, none⟩) hne8 (.int .i64 0)
  have hBZ := (hBF.setCell (p := ⟨w10.heap.size, 0, none⟩) HGB.out (.int .i64 2)).setCell (p := ⟨w10.heap.size, 1, none⟩) HGB.out (.int .i64 0)
  obtain ⟨z0, z1, fz0, fz1⟩ := hR9.two
  obtain ⟨x0, x1, _, _⟩ := hX9.two
  obtain ⟨q0, q1, q2, q3⟩ := b9F.two
  have hself := setCell_self (b := w10.heap.size) (o := 1) (show _ from (b9F.set 0 (.int .i64 2))) (v := .int .i64 0) (by simp)
  rw [hself] at hBZ z0 z1 fz0 fz1 x0 x1
  go_wp2
  go_ret
  exact ⟨rfl, hBZ⟩

set_option maxRecDepth 100000 in
set_option maxHeartbeats 4000000 in
theorem tx_A2 (v : Value) (zs : List Int) (w : World) (hv : SlA w v zs) (hl : zs.length ≤ 5000) (h : wsc [zs] ≠ 0) :
    Calls Try.prog 7 #[v, .string ⟨#[49]⟩] w fun e w' => e = .returned (.bool true) ∧ Below w.heap.size w w' := by
  have hl1 : ¬ ((5000 : Int) < (zs.length : Int)) := by omega
  obtain ⟨va, vc, hve⟩ := hv.shape
  subst hve
  have HV := hide hv
  clear hv
  go_enter Try.func7, Try.ntmps7
  go_wp2_with fail
  refine (freeBegun_any w).mono ?_
  rintro x w1 ⟨rfl, hB, h01⟩
  have hge := hB.size
  have hsv := HV.out.up hB h01
  clear HV
  go_wp2_with fail
  refine (own_row _ zs w1 hsv (by omega)).mono ?_
  rintro x w2 ⟨r, rfl, hr, hb2⟩
  replace hsv := hsv.below hb2
  replace hB := bcat hB hb2 hge
  replace hge := hB.size
  have h0r : 0 < w2.heap.size := hsv.pos
  have hsr := hr.sl h0r
  obtain ⟨r1, r2, rfl⟩ := hr.slice
  clear hr
  go_wp2_with fail
  refine (text_bad _ zs _ hsr h).mono ?_
  rintro x w4 ⟨rfl, hb4⟩
  replace hsv := hsv.below hb4
  replace hsr := hsr.below hb4
  replace hB := bcat hB hb4 hge
  replace hge := hB.size
  have e1 := (wsc_one zs).1
  have e2 := (wsc_one zs).2
  rw [e1, e2]
  rw [e1] at h
  clear e1 e2
  have hb5 : Below w4.heap.size w4 (w4.alloc (.cells #[.int .i64 (wfc zs), .int .i64 (wfa zs)] 26)) := balloc w4 _
  replace hsv := hsv.below hb5
  replace hsr := hsr.below hb5
  replace hB := bcat hB hb5 hge
  replace hge := hB.size
  have b6 : Blk (w4.alloc (.cells #[.int .i64 (wfc zs), .int .i64 (wfa zs)] 26)) w4.heap.size 26 [.int .i64 (wfc zs), .int .i64 (wfa zs)] := blk0 _ _
  obtain ⟨b66a, b66b, b66c, b66d⟩ := b6.two
  go_wp2_with fail
  clear b66a b66b b66c b66d
  refine (parse_one _).mono ?_
  rintro x w7 ⟨rfl, hb7⟩
  replace hsv := hsv.below hb7
  replace hsr := hsr.below hb7
  replace b6 : Blk (w7) w4.heap.size 26 [.int .i64 (wfc zs), .int .i64 (wfa zs)] := Blk.of_eq b6 (hb7.block _ b6.lt)
  replace hB := bcat hB hb7 hge
  replace hge := hB.size
  have hb8 : Below w7.heap.size w7 (w7.alloc (.cells #[.int .i64 0, .int .i64 0] 26)) := balloc w7 _
  replace hsv := hsv.below hb8
  replace hsr := hsr.below hb8
  replace b6 : Blk (w7.alloc (.cells #[.int .i64 0, .int .i64 0] 26)) w4.heap.size 26 [.int .i64 (wfc zs), .int .i64 (wfa zs)] := Blk.of_eq b6 (hb8.block _ b6.lt)
  replace hB := bcat hB hb8 hge
  replace hge := hB.size
  have b8 : Two (w7.alloc (.cells #[.int .i64 0, .int .i64 0] 26)) w7.heap.size := Two.new w7
  obtain ⟨b69a, b69b, b69c, b69d⟩ := b6.two
  obtain ⟨_, b89a, b89b, b89c, b89d, b89e, b89f⟩ := id b8
  go_wp2_with fail
  clear b69a b69b b69c b69d b89a b89b b89c b89d b89e b89f
  refine (wfault_any _ zs _ hsv).mono ?_
  rintro x w10 ⟨rfl, hb10⟩
  replace hsv := hsv.below hb10
  replace hsr := hsr.below hb10
  replace b6 : Blk (w10) w4.heap.size 26 [.int .i64 (wfc zs), .int .i64 (wfa zs)] := Blk.of_eq b6 (hb10.block _ b6.lt)
  replace b8 := Two.below b8 hb10
  replace hB := bcat hB hb10 hge
  replace hge := hB.size
  have hcb : (wfc zs != 0) = true := by simpa using h
  have hcb2 : (wfc zs == 0) = false := by simpa using h
  generalize wfc zs = c at *
  generalize wfa zs = d at *
  have HGB := hide hge
  have HL8 := hide b8.blk.lt
  have hBp := hB
  have b8p := b8.blk
  have hb11 : Below w10.heap.size w10 (w10.alloc (.cells #[.int .i64 c, .int .i64 d] 26)) := balloc w10 _
  replace hsv := hsv.below hb11
  replace hsr := hsr.below hb11
  replace b6 : Blk (w10.alloc (.cells #[.int .i64 c, .int .i64 d] 26)) w4.heap.size 26 [.int .i64 c, .int .i64 d] := Blk.of_eq b6 (hb11.block _ b6.lt)
  replace b8 := Two.below b8 hb11
  replace hB := bcat hB hb11 hge
  replace hge := hB.size
  have b9 : Blk (w10.alloc (.cells #[.int .i64 c, .int .i64 d] 26)) w10.heap.size 26 [.int .i64 c, .int .i64 d] := blk0 _ _
  have hne8 : ¬ w7.heap.size = w10.heap.size := Nat.ne_of_lt HL8.out
  have hbN : Below w10.heap.size w10 (w10.alloc (.cells #[.int .i64 0, .int .i64 0] 26)) := balloc w10 _
  have b9n : Two (w10.alloc (.cells #[.int .i64 0, .int .i64 0] 26)) w10.heap.size := Two.new w10
  have b8n := b8p.of_eq (hbN.block _ b8p.lt)
  have hBn : Below w.heap.size w (w10.alloc (.cells #[.int .i64 0, .int .i64 0] 26)) := bcat hBp hbN hBp.size
  obtain ⟨n6a, n6b, _, _⟩ := b6.two
  obtain ⟨n9a, n9b, n9c, n9d⟩ := b9.two
  obtain ⟨n8a, n8b, _, _⟩ := b8.blk.two
  obtain ⟨_, m9a, m9b, m9c, m9d, m9e, m9f⟩ := id b9n
  obtain ⟨m8a, m8b, _, _⟩ := b8n.two
  go_wp2
  go_ret
  exact ⟨rfl, hBn⟩

set_option maxRecDepth 100000 in
set_option maxHeartbeats 4000000 in
theorem tx_A3 (v : Value) (zs : List Int) (w : World) (hv : SlA w v zs) (hl : zs.length ≤ 5000) (h : wsc [zs] ≠ 0) :
    Calls Try.prog 7 #[v, .string ⟨#[]⟩] w fun e w' => e = .returned (.bool true) ∧ Below w.heap.size w w' := by
  have hl1 : ¬ ((5000 : Int) < (zs.length : Int)) := by omega
  obtain ⟨va, vc, hve⟩ := hv.shape
  subst hve
  have HV := hide hv
  clear hv
  go_enter Try.func7, Try.ntmps7
  go_wp2_with fail
  refine (freeBegun_any w).mono ?_
  rintro x w1 ⟨rfl, hB, h01⟩
  have hge := hB.size
  have hsv := HV.out.up hB h01
  clear HV
  go_wp2_with fail
  refine (own_row _ zs w1 hsv (by omega)).mono ?_
  rintro x w2 ⟨r, rfl, hr, hb2⟩
  replace hsv := hsv.below hb2
  replace hB := bcat hB hb2 hge
  replace hge := hB.size
  have h0r : 0 < w2.heap.size := hsv.pos
  have hsr := hr.sl h0r
  obtain ⟨r1, r2, rfl⟩ := hr.slice
  clear hr
  go_wp2_with fail
  refine (text_bad _ zs _ hsr h).mono ?_
  rintro x w4 ⟨rfl, hb4⟩
  replace hsv := hsv.below hb4
  replace hsr := hsr.below hb4
  replace hB := bcat hB hb4 hge
  replace hge := hB.size
  have e1 := (wsc_one zs).1
  have e2 := (wsc_one zs).2
  rw [e1, e2]
  rw [e1] at h
  clear e1 e2
  have hb5 : Below w4.heap.size w4 (w4.alloc (.cells #[.int .i64 (wfc zs), .int .i64 (wfa zs)] 26)) := balloc w4 _
  replace hsv := hsv.below hb5
  replace hsr := hsr.below hb5
  replace hB := bcat hB hb5 hge
  replace hge := hB.size
  have b6 : Blk (w4.alloc (.cells #[.int .i64 (wfc zs), .int .i64 (wfa zs)] 26)) w4.heap.size 26 [.int .i64 (wfc zs), .int .i64 (wfa zs)] := blk0 _ _
  obtain ⟨b66a, b66b, b66c, b66d⟩ := b6.two
  go_wp2_with fail
  clear b66a b66b b66c b66d
  refine (parse_none _).mono ?_
  rintro x w7 ⟨rfl, hb7⟩
  replace hsv := hsv.below hb7
  replace hsr := hsr.below hb7
  replace b6 : Blk (w7) w4.heap.size 26 [.int .i64 (wfc zs), .int .i64 (wfa zs)] := Blk.of_eq b6 (hb7.block _ b6.lt)
  replace hB := bcat hB hb7 hge
  replace hge := hB.size
  have hb8 : Below w7.heap.size w7 (w7.alloc (.cells #[.int .i64 1, .int .i64 0] 26)) := balloc w7 _
  replace hsv := hsv.below hb8
  replace hsr := hsr.below hb8
  replace b6 : Blk (w7.alloc (.cells #[.int .i64 1, .int .i64 0] 26)) w4.heap.size 26 [.int .i64 (wfc zs), .int .i64 (wfa zs)] := Blk.of_eq b6 (hb8.block _ b6.lt)
  replace hB := bcat hB hb8 hge
  replace hge := hB.size
  have b8 : Blk (w7.alloc (.cells #[.int .i64 1, .int .i64 0] 26)) w7.heap.size 26 [.int .i64 1, .int .i64 0] := blk0 _ _
  obtain ⟨b69a, b69b, b69c, b69d⟩ := b6.two
  obtain ⟨b89a, b89b, b89c, b89d⟩ := b8.two
  go_wp2_with fail
  clear b69a b69b b69c b69d b89a b89b b89c b89d
  refine (wfault_any _ zs _ hsv).mono ?_
  rintro x w10 ⟨rfl, hb10⟩
  replace hsv := hsv.below hb10
  replace hsr := hsr.below hb10
  replace b6 : Blk (w10) w4.heap.size 26 [.int .i64 (wfc zs), .int .i64 (wfa zs)] := Blk.of_eq b6 (hb10.block _ b6.lt)
  replace b8 : Blk (w10) w7.heap.size 26 [.int .i64 1, .int .i64 0] := Blk.of_eq b8 (hb10.block _ b8.lt)
  replace hB := bcat hB hb10 hge
  replace hge := hB.size
  have hcb : (wfc zs != 0) = true := by simpa using h
  have hcb2 : (wfc zs == 0) = false := by simpa using h
  generalize wfc zs = c at *
  generalize wfa zs = d at *
  have HGB := hide hge
  have HL8 := hide b8.lt
  have hBp := hB
  have b8p := b8
  have hb11 : Below w10.heap.size w10 (w10.alloc (.cells #[.int .i64 c, .int .i64 d] 26)) := balloc w10 _
  replace hsv := hsv.below hb11
  replace hsr := hsr.below hb11
  replace b6 : Blk (w10.alloc (.cells #[.int .i64 c, .int .i64 d] 26)) w4.heap.size 26 [.int .i64 c, .int .i64 d] := Blk.of_eq b6 (hb11.block _ b6.lt)
  replace b8 : Blk (w10.alloc (.cells #[.int .i64 c, .int .i64 d] 26)) w7.heap.size 26 [.int .i64 1, .int .i64 0] := Blk.of_eq b8 (hb11.block _ b8.lt)
  replace hB := bcat hB hb11 hge
  replace hge := hB.size
  have b9 : Blk (w10.alloc (.cells #[.int .i64 c, .int .i64 d] 26)) w10.heap.size 26 [.int .i64 c, .int .i64 d] := blk0 _ _
  have hne8 : ¬ w7.heap.size = w10.heap.size := Nat.ne_of_lt HL8.out
  have hbN : Below w10.heap.size w10 (w10.alloc (.cells #[.int .i64 0, .int .i64 0] 26)) := balloc w10 _
  have b9n : Two (w10.alloc (.cells #[.int .i64 0, .int .i64 0] 26)) w10.heap.size := Two.new w10
  have b8n := b8p.of_eq (hbN.block _ b8p.lt)
  have hBn : Below w.heap.size w (w10.alloc (.cells #[.int .i64 0, .int .i64 0] 26)) := bcat hBp hbN hBp.size
  obtain ⟨n6a, n6b, _, _⟩ := b6.two
  obtain ⟨n9a, n9b, n9c, n9d⟩ := b9.two
  obtain ⟨n8a, n8b, _, _⟩ := b8.two
  obtain ⟨_, m9a, m9b, m9c, m9d, m9e, m9f⟩ := id b9n
  obtain ⟨m8a, m8b, _, _⟩ := b8n.two
  go_wp2_with fail
  go_loopw [13] (fun i wr => i = .int .i64 0 ∧ wr = w10.alloc (.cells #[.int .i64 0, .int .i64 0] 26)) (fun _ _ => 0)
  case atStart => exact ⟨rfl, rfl⟩
  case round =>
    obtain ⟨rfl, hwr⟩ := hrel
    have b9N : Blk wr w10.heap.size 26 [.int .i64 0, .int .i64 0] := by rw [hwr]; exact b9n.blk
    have b8N : Blk wr w7.heap.size 26 [.int .i64 1, .int .i64 0] := by rw [hwr]; exact b8n
    have hBN : Below w.heap.size w wr := by rw [hwr]; exact hBn
    clear hwr
    obtain ⟨q9a, q9b, _, _⟩ := b9N.two
    go_wp2_with fail
    refine (f_ok 1 0 _).mono ?_
    rintro x wF ⟨rfl, hbF⟩
    have b9F : Blk wF w10.heap.size 26 [.int .i64 0, .int .i64 0] := b9N.of_eq (hbF.block _ b9N.lt)
    have b8F := b8N.of_eq (hbF.block _ b8N.lt)
    have hBF := bcat hBN hbF hBN.size
    have hR9 : Blk ((wF.setCell ⟨w10.heap.size, 0, none⟩ (.int .i64 1)).setCell ⟨w10.heap.size, 1, none⟩ (.int .i64 0)) w10.heap.size 26 [.int .i64 1, .int .i64 0] := (b9F.set 0 _).set 1 _
    have hX9 := (b8F.other (p := ⟨w10.heap.size, 0, none⟩) hne8 (.int .i64 1)).other (p := ⟨w10.heap.size, 1, none⟩) hne8 (.int .i64 0)
    have hBZ := (hBF.setCell (p := ⟨w10.heap.size, 0, none⟩) HGB.out (.int .i64 1)).setCell (p := ⟨w10.heap.size, 1, none⟩) HGB.out (.int .i64 0)
    obtain ⟨z0, z1, fz0, fz1⟩ := hR9.two
    obtain ⟨x0, x1, _, _⟩ := hX9.two
    obtain ⟨q0, q1, q2, q3⟩ := b9F.two
    have hself := setCell_self (b := w10.heap.size) (o := 1) (show _ from (b9F.set 0 (.int .i64 1))) (v := .int .i64 0) (by simp)
    rw [hself] at hBZ z0 z1 fz0 fz1 x0 x1
    go_wp2
    go_ret
    exact ⟨rfl, hBZ⟩

set_option maxRecDepth 100000 in
set_option maxHeartbeats 4000000 in
theorem tx_A4 (v : Value) (zs : List Int) (w : World) (hv : SlA w v zs) (hl : zs.length ≤ 5000) (h : wsc [zs] ≠ 0) (s : ByteArray) (h2 : s.size ≤ 2000) (h5 : 0 < s.size) (h6 : s.toList ≠ [49]) :
    Calls Try.prog 7 #[v, .string s] w fun e w' => e = .returned (.bool true) ∧ Below w.heap.size w w' := by
  have hl1 : ¬ ((5000 : Int) < (zs.length : Int)) := by omega
  have hs1 : ¬ ((2000 : Int) < (s.size : Int)) := by omega
  have hs5 : ¬ ((5000 : Int) < (s.size : Int)) := by omega
  have hq1 : (s.toList == [49]) = false := by simpa using h6
  have hq2 : (s.toList == []) = false := by
    simp only [beq_eq_false_iff_ne]
    intro e
    have := toList_len s
    rw [e] at this
    simp at this
    omega
  have hq3 : s.toList ≠ [] := by simpa using hq2
  have HBE := hide (bat_eq s)
  have H6 := hide h6
  clear h6
  obtain ⟨va, vc, hve⟩ := hv.shape
  subst hve
  have HV := hide hv
  clear hv
  go_enter Try.func7, Try.ntmps7
  go_wp2_with fail
  refine (freeBegun_any w).mono ?_
  rintro x w1 ⟨rfl, hB, h01⟩
  have hge := hB.size
  have hsv := HV.out.up hB h01
  clear HV
  go_wp2_with fail
  refine (own_row _ zs w1 hsv (by omega)).mono ?_
  rintro x w2 ⟨r, rfl, hr, hb2⟩
  replace hsv := hsv.below hb2
  replace hB := bcat hB hb2 hge
  replace hge := hB.size
  have h0r : 0 < w2.heap.size := hsv.pos
  have hsr := hr.sl h0r
  obtain ⟨r1, r2, rfl⟩ := hr.slice
  clear hr
  go_wp2_with fail
  refine (text_bad _ zs _ hsr h).mono ?_
  rintro x w4 ⟨rfl, hb4⟩
  replace hsv := hsv.below hb4
  replace hsr := hsr.below hb4
  replace hB := bcat hB hb4 hge
  replace hge := hB.size
  have e1 := (wsc_one zs).1
  have e2 := (wsc_one zs).2
  rw [e1, e2]
  rw [e1] at h
  clear e1 e2
  have hb5 : Below w4.heap.size w4 (w4.alloc (.cells #[.int .i64 (wfc zs), .int .i64 (wfa zs)] 26)) := balloc w4 _
  replace hsv := hsv.below hb5
  replace hsr := hsr.below hb5
  replace hB := bcat hB hb5 hge
  replace hge := hB.size
  have b6 : Blk (w4.alloc (.cells #[.int .i64 (wfc zs), .int .i64 (wfa zs)] 26)) w4.heap.size 26 [.int .i64 (wfc zs), .int .i64 (wfa zs)] := blk0 _ _
  obtain ⟨b66a, b66b, b66c, b66d⟩ := b6.two
  go_wp2_with fail
  clear b66a b66b b66c b66d
  refine (parse_some s _ h2 h5 H6.out).mono ?_
  rintro x w7 (⟨k, hks, hbad, hgood, rfl, hb7⟩ | ⟨hgood, rp, rfl, hrp, hb7⟩)
  · replace hsv := hsv.below hb7
    replace hsr := hsr.below hb7
    replace b6 : Blk (w7) w4.heap.size 26 [.int .i64 (wfc zs), .int .i64 (wfa zs)] := Blk.of_eq b6 (hb7.block _ b6.lt)
    replace hB := bcat hB hb7 hge
    replace hge := hB.size
    have hb8 : Below w7.heap.size w7 (w7.alloc (.cells #[.int .i64 1, .int .i64 k] 26)) := balloc w7 _
    replace hsv := hsv.below hb8
    replace hsr := hsr.below hb8
    replace b6 : Blk (w7.alloc (.cells #[.int .i64 1, .int .i64 k] 26)) w4.heap.size 26 [.int .i64 (wfc zs), .int .i64 (wfa zs)] := Blk.of_eq b6 (hb8.block _ b6.lt)
    replace hB := bcat hB hb8 hge
    replace hge := hB.size
    have b8 : Blk (w7.alloc (.cells #[.int .i64 1, .int .i64 k] 26)) w7.heap.size 26 [.int .i64 1, .int .i64 k] := blk0 _ _
    obtain ⟨b69a, b69b, b69c, b69d⟩ := b6.two
    obtain ⟨b89a, b89b, b89c, b89d⟩ := b8.two
    go_wp2_with fail
    clear b69a b69b b69c b69d b89a b89b b89c b89d
    refine (wfault_any _ zs _ hsv).mono ?_
    rintro x w10 ⟨rfl, hb10⟩
    replace hsv := hsv.below hb10
    replace hsr := hsr.below hb10
    replace b6 : Blk (w10) w4.heap.size 26 [.int .i64 (wfc zs), .int .i64 (wfa zs)] := Blk.of_eq b6 (hb10.block _ b6.lt)
    replace b8 : Blk (w10) w7.heap.size 26 [.int .i64 1, .int .i64 k] := Blk.of_eq b8 (hb10.block _ b8.lt)
    replace hB := bcat hB hb10 hge
    replace hge := hB.size
    have hcb : (wfc zs != 0) = true := by simpa using h
    have hcb2 : (wfc zs == 0) = false := by simpa using h
    generalize wfc zs = c at *
    generalize wfa zs = d at *
    have HGB := hide hge
    have HL8 := hide b8.lt
    have hBp := hB
    have b8p := b8
    have hb11 : Below w10.heap.size w10 (w10.alloc (.cells #[.int .i64 c, .int .i64 d] 26)) := balloc w10 _
    replace hsv := hsv.below hb11
    replace hsr := hsr.below hb11
    replace b6 : Blk (w10.alloc (.cells #[.int .i64 c, .int .i64 d] 26)) w4.heap.size 26 [.int .i64 c, .int .i64 d] := Blk.of_eq b6 (hb11.block _ b6.lt)
    replace b8 : Blk (w10.alloc (.cells #[.int .i64 c, .int .i64 d] 26)) w7.heap.size 26 [.int .i64 1, .int .i64 k] := Blk.of_eq b8 (hb11.block _ b8.lt)
    replace hB := bcat hB hb11 hge
    replace hge := hB.size
    have b9 : Blk (w10.alloc (.cells #[.int .i64 c, .int .i64 d] 26)) w10.heap.size 26 [.int .i64 c, .int .i64 d] := blk0 _ _
    have hne8 : ¬ w7.heap.size = w10.heap.size := Nat.ne_of_lt HL8.out
    have hbN : Below w10.heap.size w10 (w10.alloc (.cells #[.int .i64 0, .int .i64 0] 26)) := balloc w10 _
    have b9n : Two (w10.alloc (.cells #[.int .i64 0, .int .i64 0] 26)) w10.heap.size := Two.new w10
    have b8n := b8p.of_eq (hbN.block _ b8p.lt)
    have hBn : Below w.heap.size w (w10.alloc (.cells #[.int .i64 0, .int .i64 0] 26)) := bcat hBp hbN hBp.size
    obtain ⟨n6a, n6b, _, _⟩ := b6.two
    obtain ⟨n9a, n9b, n9c, n9d⟩ := b9.two
    obtain ⟨n8a, n8b, _, _⟩ := b8.two
    obtain ⟨_, m9a, m9b, m9c, m9d, m9e, m9f⟩ := id b9n
    obtain ⟨m8a, m8b, _, _⟩ := b8n.two
    have HGD := hide hgood
    have HBD := hide hbad
    clear hgood hbad
    go_wp2_with fail
    go_loopw [13] (fun i wr => ∃ j : Nat, j ≤ k + 1 ∧ i = .int .i64 j ∧ Blk wr w10.heap.size 26 [.int .i64 (if j ≤ k then 0 else 1), .int .i64 (if j ≤ k then 0 else (k : Int))] ∧ Blk wr w7.heap.size 26 [.int .i64 1, .int .i64 k] ∧ Below w.heap.size w wr) (fun i _ => k + 1 - (intOf i).toNat)
    case atStart => exact ⟨0, Nat.zero_le _, rfl, by rw [if_pos (Nat.zero_le k), if_pos (Nat.zero_le k)]; exact b9n.blk, b8n, hBn⟩
    case round =>
      clear b9n b8n hBn m9a m9b m9c m9d m9e m9f m8a m8b
      obtain ⟨j, hj, rfl, b9N, b8N, hBN⟩ := hrel
      by_cases hjk : j ≤ k
      · rw [if_pos hjk, if_pos hjk] at b9N
        have hjs : j < s.size := by omega
        have hbk := HBE.out j hjs
        have hji : (j : Int) < (s.size : Int) := by omega
        have HG := hide (HGD.out j)
        obtain ⟨b, hbe⟩ : ∃ b, bat s j = b := ⟨_, rfl⟩
        rw [hbe] at hbk HG
        obtain ⟨y0, y1, fy0, fy1⟩ := b9N.two
        by_cases hjl : j < k
        · have hil := HG.out hjl
          have hcls : (97 ≤ (b : Int) ∧ (b : Int) ≤ 122) ∨ (¬ 97 ≤ (b : Int) ∧ 65 ≤ (b : Int) ∧ (b : Int) ≤ 90) := by
            unfold isl at hil; simp at hil; omega
          have hrl : ∀ W, Blk W w10.heap.size 26 [.int .i64 0, .int .i64 0] → Blk W w10.heap.size 26 [.int .i64 (if j + 1 ≤ k then 0 else 1), .int .i64 (if j + 1 ≤ k then 0 else (k : Int))] := fun W h => by
            rw [if_pos (by omega), if_pos (by omega)]; exact h
          have HRL := hide hrl
          clear hil hrl hbe HG
          rcases hcls with ⟨g1, g2⟩ | ⟨g1, g2, g3⟩
          all_goals
            go_wp2
            go_roundw
            case rel => exact ⟨j + 1, by omega, by go_num, HRL.out _ b9N, b8N, hBN⟩
            case measure => simp [intOf]; omega
        · have hjk2 : j = k := by omega
          subst hjk2
          have hil : isl (b : Int) = false := by have := HBD.out; rw [hbe] at this; exact this
          have hcls : (¬ 97 ≤ (b : Int) ∧ ¬ 65 ≤ (b : Int)) ∨ (¬ 97 ≤ (b : Int) ∧ 65 ≤ (b : Int) ∧ ¬ (b : Int) ≤ 90) ∨ (97 ≤ (b : Int) ∧ ¬ (b : Int) ≤ 122 ∧ 65 ≤ (b : Int) ∧ ¬ (b : Int) ≤ 90) := by
            unfold isl at hil; simp at hil; omega
          clear hil hbe HG
          rcases hcls with ⟨g1, g2⟩ | ⟨g1, g2, g3⟩ | ⟨g1, g2, g3, g4⟩
          all_goals
            go_wp2_with fail
            refine (f_ok 1 (j : Int) _).mono ?_
            rintro x wF ⟨rfl, hbF⟩
            have b9F : Blk wF w10.heap.size 26 [.int .i64 0, .int .i64 0] := b9N.of_eq (hbF.block _ b9N.lt)
            have b8F := b8N.of_eq (hbF.block _ b8N.lt)
            have hBF := bcat hBN hbF hBN.size
            have hR9 : Blk ((wF.setCell ⟨w10.heap.size, 0, none⟩ (.int .i64 1)).setCell ⟨w10.heap.size, 1, none⟩ (.int .i64 j)) w10.heap.size 26 [.int .i64 1, .int .i64 j] := (b9F.set 0 _).set 1 _
            have hX9 := (b8F.other (p := ⟨w10.heap.size, 0, none⟩) hne8 (.int .i64 1)).other (p := ⟨w10.heap.size, 1, none⟩) hne8 (.int .i64 j)
            have hBZ := (hBF.setCell (p := ⟨w10.heap.size, 0, none⟩) HGB.out (.int .i64 1)).setCell (p := ⟨w10.heap.size, 1, none⟩) HGB.out (.int .i64 j)
            obtain ⟨q0, q1, q2, q3⟩ := b9F.two
            have hrl : Blk ((wF.setCell ⟨w10.heap.size, 0, none⟩ (.int .i64 1)).setCell ⟨w10.heap.size, 1, none⟩ (.int .i64 j)) w10.heap.size 26 [.int .i64 (if j + 1 ≤ j then 0 else 1), .int .i64 (if j + 1 ≤ j then 0 else (j : Int))] := by
              rw [if_neg (by omega), if_neg (by omega)]; exact hR9
            have HRL := hide hrl
            clear hrl hR9
            go_wp2
            go_roundw
            case rel => exact ⟨j + 1, by omega, by go_num, HRL.out, hX9, hBZ⟩
            case measure => simp [intOf]
      · rw [if_neg hjk, if_neg hjk] at b9N
        obtain ⟨y0, y1, fy0, fy1⟩ := b9N.two
        obtain ⟨x0, x1, _, _⟩ := b8N.two
        clear hjk
        rcases Nat.lt_or_ge j s.size with hjz | hjz
        · have hji : (j : Int) < (s.size : Int) := by omega
          go_wp2
          go_ret
          exact ⟨rfl, hBN⟩
        · have hji : ¬ ((j : Int) < (s.size : Int)) := by omega
          go_wp2
          go_ret
          exact ⟨rfl, hBN⟩
  · replace hsv := hsv.below hb7
    replace hsr := hsr.below hb7
    replace b6 : Blk (w7) w4.heap.size 26 [.int .i64 (wfc zs), .int .i64 (wfa zs)] := Blk.of_eq b6 (hb7.block _ b6.lt)
    replace hB := bcat hB hb7 hge
    replace hge := hB.size
    have HGD := hide hgood
    have HPL := hide (pls_len s)
    clear hgood
    have h0p : 0 < w7.heap.size := hsv.pos
    have hsp := hrp.sl h0p
    obtain ⟨p1, p2, rfl⟩ := hrp.slice
    clear hrp
    have hb8 : Below w7.heap.size w7 (w7.alloc (.cells #[.int .i64 0, .int .i64 0] 26)) := balloc w7 _
    replace hsv := hsv.below hb8
    replace hsr := hsr.below hb8
    replace hsp := hsp.below hb8
    replace b6 : Blk (w7.alloc (.cells #[.int .i64 0, .int .i64 0] 26)) w4.heap.size 26 [.int .i64 (wfc zs), .int .i64 (wfa zs)] := Blk.of_eq b6 (hb8.block _ b6.lt)
    replace hB := bcat hB hb8 hge
    replace hge := hB.size
    have b8 : Two (w7.alloc (.cells #[.int .i64 0, .int .i64 0] 26)) w7.heap.size := Two.new w7
    obtain ⟨b69a, b69b, b69c, b69d⟩ := b6.two
    obtain ⟨_, b89a, b89b, b89c, b89d, b89e, b89f⟩ := id b8
    go_wp2_with fail
    clear b69a b69b b69c b69d b89a b89b b89c b89d b89e b89f
    refine (wfault_any _ zs _ hsv).mono ?_
    rintro x w10 ⟨rfl, hb10⟩
    replace hsv := hsv.below hb10
    replace hsr := hsr.below hb10
    replace hsp := hsp.below hb10
    replace b6 : Blk (w10) w4.heap.size 26 [.int .i64 (wfc zs), .int .i64 (wfa zs)] := Blk.of_eq b6 (hb10.block _ b6.lt)
    replace b8 := Two.below b8 hb10
    replace hB := bcat hB hb10 hge
    replace hge := hB.size
    have hcb : (wfc zs != 0) = true := by simpa using h
    have hcb2 : (wfc zs == 0) = false := by simpa using h
    generalize wfc zs = c at *
    generalize wfa zs = d at *
    have HGB := hide hge
    have HL8 := hide b8.blk.lt
    have hBp := hB
    have b8p := b8.blk
    have hspp := hsp
    have hb11 : Below w10.heap.size w10 (w10.alloc (.cells #[.int .i64 c, .int .i64 d] 26)) := balloc w10 _
    replace hsv := hsv.below hb11
    replace hsr := hsr.below hb11
    replace hsp := hsp.below hb11
    replace b6 : Blk (w10.alloc (.cells #[.int .i64 c, .int .i64 d] 26)) w4.heap.size 26 [.int .i64 c, .int .i64 d] := Blk.of_eq b6 (hb11.block _ b6.lt)
    replace b8 := Two.below b8 hb11
    replace hB := bcat hB hb11 hge
    replace hge := hB.size
    have b9 : Blk (w10.alloc (.cells #[.int .i64 c, .int .i64 d] 26)) w10.heap.size 26 [.int .i64 c, .int .i64 d] := blk0 _ _
    have hne8 : ¬ w7.heap.size = w10.heap.size := Nat.ne_of_lt HL8.out
    have hbN : Below w10.heap.size w10 (w10.alloc (.cells #[.int .i64 0, .int .i64 0] 26)) := balloc w10 _
    have b9n : Two (w10.alloc (.cells #[.int .i64 0, .int .i64 0] 26)) w10.heap.size := Two.new w10
    have b8n := b8p.of_eq (hbN.block _ b8p.lt)
    have hBn : Below w.heap.size w (w10.alloc (.cells #[.int .i64 0, .int .i64 0] 26)) := bcat hBp hbN hBp.size
    obtain ⟨n6a, n6b, _, _⟩ := b6.two
    obtain ⟨n9a, n9b, n9c, n9d⟩ := b9.two
    obtain ⟨n8a, n8b, _, _⟩ := b8.blk.two
    obtain ⟨_, m9a, m9b, m9c, m9d, m9e, m9f⟩ := id b9n
    obtain ⟨m8a, m8b, _, _⟩ := b8n.two
    have HFAR := hide (hspp.below hbN)
    go_wp2_with fail
    go_loopw [13] (fun i wr => ∃ j : Nat, j ≤ s.size ∧ i = .int .i64 j ∧ wr = w10.alloc (.cells #[.int .i64 0, .int .i64 0] 26)) (fun i _ => s.size - (intOf i).toNat)
    case atStart => exact ⟨0, Nat.zero_le _, rfl, rfl⟩
    case round =>
      clear m9a m9b m9c m9d m9e m9f m8a m8b
      obtain ⟨j, hj, rfl, hwr⟩ := hrel
      have b9N : Blk wr w10.heap.size 26 [.int .i64 0, .int .i64 0] := by rw [hwr]; exact b9n.blk
      have b8N : Blk wr w7.heap.size 26 [.int .i64 0, .int .i64 0] := by rw [hwr]; exact b8n
      have hBN : Below w.heap.size w wr := by rw [hwr]; exact hBn
      have HSP : Sl wr (.slice p1 (pls s).length p2) (pls s) := by rw [hwr]; exact HFAR.out
      have HWR := hide hwr
      clear hwr
      obtain ⟨y0, y1, fy0, fy1⟩ := b9N.two
      by_cases hjs : j < s.size
      · have hbk := HBE.out j hjs
        have hji : (j : Int) < (s.size : Int) := by omega
        have hil := HGD.out j hjs
        obtain ⟨b, hbe⟩ : ∃ b, bat s j = b := ⟨_, rfl⟩
        rw [hbe] at hbk hil
        have hcls : (97 ≤ (b : Int) ∧ (b : Int) ≤ 122) ∨ (¬ 97 ≤ (b : Int) ∧ 65 ≤ (b : Int) ∧ (b : Int) ≤ 90) := by
          unfold isl at hil; simp at hil; omega
        clear hil hbe
        rcases hcls with ⟨g1, g2⟩ | ⟨g1, g2, g3⟩
        all_goals
          go_wp2
          go_roundw
          case rel => exact ⟨j + 1, by omega, by go_num, HWR.out⟩
          case measure => simp [intOf]; omega
      · have hji : ¬ ((j : Int) < (s.size : Int)) := by omega
        obtain ⟨x0, x1, _, _⟩ := b8N.two
        have HPW := hide (show Wd (pls s) from Wd.of (pls_lt HGD.out) (by rw [HPL.out]; exact h2))
        have HPT2 := hide (pls_txt HGD.out)
        have hpn : pls s ≠ [] := by intro e; have := HPL.out; rw [e] at this; simp at this; omega
        have HPN := hide hpn
        clear hpn
        go_wp2_with fail
        refine (text_good_good _ (pls s) _ HSP HPW.out HPN.out).mono ?_
        rintro x wT ⟨rfl, hbT⟩
        rw [HPT2.out]
        have hBT := bcat hBN hbT hBN.size
        have hbT2 := balloc wT (.cells #[.int .i64 0, .int .i64 0] 26)
        have hBT2 := bcat hBT hbT2 hBT.size
        obtain ⟨_, t0, t1, _, _, _, _⟩ := Two.new wT
        go_wp2
        go_ret
        exact ⟨rfl, hBT2⟩

end Go.Proofs.Ytakmfhnigpmngaa
