/- PermRanks at more than 100 points, another one than the last. -/
import Derived.Test.YtjchmhngfnlbhaaDoorRk0
namespace Go.Proofs.YtjchmhngfnlbhaaDoor
open Go Go.RowKit Go.Shelf

set_option maxRecDepth 100000 in
set_option maxHeartbeats 8000000 in
theorem ranks_many_some (u : Value) (xs : List Int) (w : World) (hu : Sl w u xs) (hsz : xs.length * 8 ≤ 140737488355328) (htab : Tab w.heap.size w) (h : (fault xs).1 = 0) (h100 : 100 < xs.length) (hfl : ¬ Falls xs) :
    Calls Tryd.prog 6 #[u] w fun e w' => e = .returned (.bool true) ∧ Below w.heap.size w w' := by
  obtain ⟨ua, uc, hue⟩ := hu.shp
  subst hue
  have HTab := hide (fun (W : World) (h : Below w.heap.size w W) => (htab.below h).mono h.size)
  have hB := Below.refl w.heap.size w
  have hge := hB.size
  obtain ⟨px, l1000⟩ := fault_perm h
  have hf := fault_of_perm px l1000
  have hp := fun (r : Value) (W : World) (a : Sl W r xs) => permFault_any r xs W a
  rw [hf] at hp
  have HP := hide hp
  have HX := hide px
  have H1000 := hide l1000
  have hlen : (xs.length : Int) ≤ 1000 := by omega
  have hpm : ∀ (r : Value) (cz : List Int) (W : World), Sl W r cz → IsPerm cz → cz.length = xs.length → Calls Tryd.prog 13 #[r] W fun e w' => e = .returned (.agg #[.int .i64 0, .int .i64 0]) ∧ Below W.heap.size W w' := fun r cz W a p l => by
    have := permFault_any r cz W a
    rw [fault_of_perm p (by omega)] at this
    exact this
  have HPM := hide hpm
  clear hpm
  have h100i : (100 : Int) < (xs.length : Int) := by omega
  have hr := fun (r : Value) (W : World) (a : Sl W r xs) => rank_many r xs W a px l1000 h100
  have HR := hide hr
  clear hr h100
  have HF := hide hfl
  clear hfl
  clear hp hf px l1000 h htab
  go_enter Tryd.func6, Tryd.ntmps6
  have HU0 := hide hu
  go_wp2_with fail
  refine (own_r _ xs _ hu hsz).mono ?_
  rintro x w2 ⟨⟨rx, rfl, hrx⟩, hb2⟩
  replace hu := hu.below hb2
  replace hB := bcat hB hb2 hge
  replace hge := hB.size
  obtain ⟨x1, x2, hx9⟩ := hrx.shp
  subst hx9
  go_wp2_with fail
  refine (HR.out _ _ hrx).mono ?_
  rintro x w4 ⟨rfl, hb4⟩
  replace hu := hu.below hb4
  replace hrx := hrx.below hb4
  replace hB := bcat hB hb4 hge
  replace hge := hB.size
  have hb5 : Below w4.heap.size w4 (w4.alloc (.cells #[.int .i64 2, .int .i64 0] 26)) := balloc w4 _
  replace hu := hu.below hb5
  replace hrx := hrx.below hb5
  replace hB := bcat hB hb5 hge
  replace hge := hB.size
  have b1 : Blk (w4.alloc (.cells #[.int .i64 2, .int .i64 0] 26)) w4.heap.size 26 [.int .i64 2, .int .i64 0] := blk0 _ _
  obtain ⟨b16a, b16b, b16c, b16d⟩ := b1.two
  go_wp2_with fail
  clear b16a b16b b16c b16d
  refine (own_r _ xs _ hu hsz).mono ?_
  rintro x w7 ⟨⟨ry, rfl, hry⟩, hb7⟩
  replace hu := hu.below hb7
  replace hrx := hrx.below hb7
  replace b1 : Blk (w7) w4.heap.size 26 [.int .i64 2, .int .i64 0] := Blk.of_eq b1 (hb7.block _ b1.lt)
  replace hB := bcat hB hb7 hge
  replace hge := hB.size
  obtain ⟨y1, y2, hy9⟩ := hry.shp
  subst hy9
  obtain ⟨b18a, b18b, b18c, b18d⟩ := b1.two
  go_wp2_with fail
  clear b18a b18b b18c b18d
  refine (next_some _ xs _ hry HX.out H1000.out HF.out).mono ?_
  rintro x w9 ⟨⟨s, o, ma, mc, M, rfl, hm, hnx⟩, hb9⟩
  replace hu := hu.below hb9
  replace hrx := hrx.below hb9
  replace hry := hry.below hb9
  replace b1 : Blk (w9) w4.heap.size 26 [.int .i64 2, .int .i64 0] := Blk.of_eq b1 (hb9.block _ b1.lt)
  replace hB := bcat hB hb9 hge
  replace hge := hB.size
  have HNX := hide hnx
  clear hnx
  have HM0 := hide hm
  have hBk := Below.refl w9.heap.size w9
  have ghBk := hBk.size
  have hb10 : Below w9.heap.size w9 (w9.alloc (.cells #[.int .i64 0, .int .i64 0] 26)) := balloc w9 _
  replace hu := hu.below hb10
  replace hrx := hrx.below hb10
  replace hry := hry.below hb10
  replace hm := hm.below hb10
  replace b1 : Blk (w9.alloc (.cells #[.int .i64 0, .int .i64 0] 26)) w4.heap.size 26 [.int .i64 2, .int .i64 0] := Blk.of_eq b1 (hb10.block _ b1.lt)
  replace hB := bcat hB hb10 hge
  replace hBk := bcat hBk hb10 ghBk
  replace ghBk := hBk.size
  replace hge := hB.size
  have b2 : Two (w9.alloc (.cells #[.int .i64 0, .int .i64 0] 26)) w9.heap.size := Two.new w9
  obtain ⟨b111a, b111b, b111c, b111d⟩ := b1.two
  obtain ⟨_, b211a, b211b, b211c, b211d, b211e, b211f⟩ := id b2
  go_wp2_with fail
  clear b111a b111b b111c b111d b211a b211b b211c b211d b211e b211f
  refine (HP.out _ _ hu).mono ?_
  rintro x w12 ⟨rfl, hb12⟩
  replace hu := hu.below hb12
  replace hrx := hrx.below hb12
  replace hry := hry.below hb12
  replace hm := hm.below hb12
  replace b1 : Blk (w12) w4.heap.size 26 [.int .i64 2, .int .i64 0] := Blk.of_eq b1 (hb12.block _ b1.lt)
  replace b2 := Two.below b2 hb12
  replace hB := bcat hB hb12 hge
  replace hBk := bcat hBk hb12 ghBk
  replace ghBk := hBk.size
  replace hge := hB.size
  have HWB : Hid (w.heap.size ≤ w12.heap.size) := hide hge
  have HNEb1 : Hid (w4.heap.size < w12.heap.size) := hide b1.lt
  have HNEb2 : Hid (w9.heap.size < w12.heap.size) := hide b2.blk.lt
  have HMB : Hid (w9.heap.size ≤ w12.heap.size) := hide ghBk
  have hb13 : Below w12.heap.size w12 (w12.alloc (.cells #[.int .i64 0, .int .i64 0] 26)) := balloc w12 _
  replace hu := hu.below hb13
  replace hrx := hrx.below hb13
  replace hry := hry.below hb13
  replace hm := hm.below hb13
  replace b1 : Blk (w12.alloc (.cells #[.int .i64 0, .int .i64 0] 26)) w4.heap.size 26 [.int .i64 2, .int .i64 0] := Blk.of_eq b1 (hb13.block _ b1.lt)
  replace b2 := Two.below b2 hb13
  replace hB := bcat hB hb13 hge
  replace hBk := bcat hBk hb13 ghBk
  replace ghBk := hBk.size
  replace hge := hB.size
  have b3 : Two (w12.alloc (.cells #[.int .i64 0, .int .i64 0] 26)) w12.heap.size := Two.new w12
  obtain ⟨_, mm0, mm1, mm2, mm3, mm4, mm5⟩ := id b3
  have hb14 : Below (w12.alloc (.cells #[.int .i64 0, .int .i64 0] 26)).heap.size (w12.alloc (.cells #[.int .i64 0, .int .i64 0] 26)) ((w12.alloc (.cells #[.int .i64 0, .int .i64 0] 26)).alloc (.cells #[.int .i64 0, .int .i64 0] 26)) := balloc (w12.alloc (.cells #[.int .i64 0, .int .i64 0] 26)) _
  replace hu := hu.below hb14
  replace hrx := hrx.below hb14
  replace hry := hry.below hb14
  replace hm := hm.below hb14
  replace b1 : Blk ((w12.alloc (.cells #[.int .i64 0, .int .i64 0] 26)).alloc (.cells #[.int .i64 0, .int .i64 0] 26)) w4.heap.size 26 [.int .i64 2, .int .i64 0] := Blk.of_eq b1 (hb14.block _ b1.lt)
  replace b2 := Two.below b2 hb14
  replace b3 := Two.below b3 hb14
  replace hB := bcat hB hb14 hge
  replace hBk := bcat hBk hb14 ghBk
  replace ghBk := hBk.size
  replace hge := hB.size
  have b4 : Two ((w12.alloc (.cells #[.int .i64 0, .int .i64 0] 26)).alloc (.cells #[.int .i64 0, .int .i64 0] 26)) (w12.alloc (.cells #[.int .i64 0, .int .i64 0] 26)).heap.size := Two.new (w12.alloc (.cells #[.int .i64 0, .int .i64 0] 26))
  replace b4 : Two ((w12.alloc (.cells #[.int .i64 0, .int .i64 0] 26)).alloc (.cells #[.int .i64 0, .int .i64 0] 26)) (w12.heap.size + 1) := by rwa [World.size_alloc] at b4
  have HNEb3 : Hid (w12.heap.size < (w12.heap.size + 1)) := hide (by omega)
  have HWN : Hid (w.heap.size ≤ (w12.heap.size + 1)) := hide (by have := HWB.out; omega)
  have HWM : Hid (w9.heap.size ≤ (w12.heap.size + 1)) := hide (by have := HMB.out; omega)
  obtain ⟨b115a, b115b, b115c, b115d⟩ := b1.two
  obtain ⟨_, b215a, b215b, b215c, b215d, b215e, b215f⟩ := id b2
  obtain ⟨_, b315a, b315b, b315c, b315d, b315e, b315f⟩ := id b3
  obtain ⟨_, b415a, b415b, b415c, b415d, b415e, b415f⟩ := id b4
  go_wp2_with fail
  clear b115a b115b b115c b115d b215a b215b b215c b215d b215e b215f b315a b315b b315c b315d b315e b315f b415a b415b b415c b415d b415e b415f
  clear mm0 mm1 mm2 mm3 mm4 mm5
  refine (f_any 2 0 _).mono ?_
  rintro x w16 ⟨rfl, hb16⟩
  replace hu := hu.below hb16
  replace hrx := hrx.below hb16
  replace hry := hry.below hb16
  replace hm := hm.below hb16
  replace b1 : Blk (w16) w4.heap.size 26 [.int .i64 2, .int .i64 0] := Blk.of_eq b1 (hb16.block _ b1.lt)
  replace b2 := Two.below b2 hb16
  replace b3 := Two.below b3 hb16
  replace b4 := Two.below b4 hb16
  replace hB := bcat hB hb16 hge
  replace hBk := bcat hBk hb16 ghBk
  replace ghBk := hBk.size
  replace hge := hB.size
  have hB9 : Below w.heap.size w ((w16.setCell ⟨(w12.heap.size + 1), 0, none⟩ (.int .i64 2)).setCell ⟨(w12.heap.size + 1), 1, none⟩ (.int .i64 0)) := (hB.setCell (by simp; have := HWN.out; omega) _).setCell (by simp; have := HWN.out; omega) _
  have hBk9 : Below w9.heap.size w9 ((w16.setCell ⟨(w12.heap.size + 1), 0, none⟩ (.int .i64 2)).setCell ⟨(w12.heap.size + 1), 1, none⟩ (.int .i64 0)) := (hBk.setCell (by simp; have := HWM.out; omega) _).setCell (by simp; have := HWM.out; omega) _
  have b49 : Blk ((w16.setCell ⟨(w12.heap.size + 1), 0, none⟩ (.int .i64 2)).setCell ⟨(w12.heap.size + 1), 1, none⟩ (.int .i64 0)) (w12.heap.size + 1) 26 [.int .i64 2, .int .i64 0] := (b4.blk.set 0 _).set 1 _
  have b19 : Blk ((w16.setCell ⟨(w12.heap.size + 1), 0, none⟩ (.int .i64 2)).setCell ⟨(w12.heap.size + 1), 1, none⟩ (.int .i64 0)) (w4.heap.size) 26 [.int .i64 2, .int .i64 0] := (Blk.other b1 (by have := HNEb1.out; first | (simp; done) | (simp; omega)) _).other (by have := HNEb1.out; first | (simp; done) | (simp; omega)) _
  have b29 : Blk ((w16.setCell ⟨(w12.heap.size + 1), 0, none⟩ (.int .i64 2)).setCell ⟨(w12.heap.size + 1), 1, none⟩ (.int .i64 0)) (w9.heap.size) 26 [.int .i64 0, .int .i64 0] := (Blk.other b2.blk (by have := HNEb2.out; first | (simp; done) | (simp; omega)) _).other (by have := HNEb2.out; first | (simp; done) | (simp; omega)) _
  have b39 : Blk ((w16.setCell ⟨(w12.heap.size + 1), 0, none⟩ (.int .i64 2)).setCell ⟨(w12.heap.size + 1), 1, none⟩ (.int .i64 0)) (w12.heap.size) 26 [.int .i64 0, .int .i64 0] := (Blk.other b3.blk (by have := HNEb3.out; first | (simp; done) | (simp; omega)) _).other (by have := HNEb3.out; first | (simp; done) | (simp; omega)) _
  have HB9 := hide (And.intro hB9 (And.intro b19 (And.intro b29 (And.intro b39 b49))))
  have HBK9 := hide hBk9
  clear hB9 b19 b29 b39 b49 hBk9
  obtain ⟨b117a, b117b, b117c, b117d⟩ := b1.two
  obtain ⟨_, b217a, b217b, b217c, b217d, b217e, b217f⟩ := id b2
  obtain ⟨_, b317a, b317b, b317c, b317d, b317e, b317f⟩ := id b3
  obtain ⟨_, b417a, b417b, b417c, b417d, b417e, b417f⟩ := id b4
  go_wp2_with fail
  clear b117a b117b b117c b117d b217a b217b b217c b217d b217e b217f b317a b317b b317c b317d b317e b317f b417a b417b b417c b417d b417e b417f
  clear b1 b2 b3 b4 hB hu hrx hry hm hBk ghBk
  obtain ⟨hB, b1, b2, b3, b4⟩ := HB9.out
  clear HB9
  have hBk := HBK9.out
  clear HBK9
  generalize ((w16.setCell ⟨(w12.heap.size + 1), 0, none⟩ (.int .i64 2)).setCell ⟨(w12.heap.size + 1), 1, none⟩ (.int .i64 0)) = wz at *
  have hge := hB.size
  have hu := HU0.out.below hB
  have hm := HM0.out.below hBk
  replace b2 : Two wz w9.heap.size := Two.mk' b2
  refine (begun_any _ (HTab.out _ hB)).mono ?_
  rintro x w18 ⟨rfl, hb18⟩
  replace hu := hu.below hb18
  replace hm := hm.below hb18
  replace b1 : Blk (w18) w4.heap.size 26 [.int .i64 2, .int .i64 0] := Blk.of_eq b1 (hb18.block _ b1.lt)
  replace b2 := Two.below b2 hb18
  replace b3 : Blk (w18) w12.heap.size 26 [.int .i64 0, .int .i64 0] := Blk.of_eq b3 (hb18.block _ b3.lt)
  replace b4 : Blk (w18) (w12.heap.size + 1) 26 [.int .i64 2, .int .i64 0] := Blk.of_eq b4 (hb18.block _ b4.lt)
  replace hB := bcat hB hb18 hge
  replace hge := hB.size
  obtain ⟨b119a, b119b, b119c, b119d⟩ := b1.two
  obtain ⟨_, b219a, b219b, b219c, b219d, b219e, b219f⟩ := id b2
  obtain ⟨b319a, b319b, b319c, b319d⟩ := b3.two
  obtain ⟨b419a, b419b, b419c, b419d⟩ := b4.two
  go_wp2
  clear b119a b119b b119c b119d b219a b219b b219c b219d b219e b219f b319a b319b b319c b319d b419a b419b b419c b419d
  obtain ⟨pb, po, hrd, hpl⟩ := hu.rd
  have hso : s ≤ o := HNX.out.so
  have hs0 : 0 < s := HNX.out.s0
  have hol : o < xs.length := HNX.out.on
  obtain ⟨q, hq⟩ : ∃ q, s - 1 = q := ⟨_, rfl⟩
  have hup := HNX.out.up
  rw [hq] at hup
  have HUP := hide hup
  obtain ⟨sp1, sp2, sp3, sp4⟩ := HNX.out.spec
  rw [hq] at sp1 sp2 sp3
  have SP1 := hide sp1
  have SP2 := hide sp2
  have SP3 := hide sp3
  have SP4 := hide sp4
  have hqs : q + 1 = s := by omega
  have HQ := hide hqs
  clear sp1 sp2 sp3 sp4 hup hq hqs
  obtain rfl := hrd.at_ (by omega)
  go_loopw [9, 10] (fun l i wr => ∃ k j : Nat, ∃ b : Bool, 1 ≤ k ∧ l = .bool b ∧ i = .int .i64 k ∧ wr = w18.drewN j ∧ (s < k → b = false)) (fun _ i _ => xs.length - (intOf i).toNat)
  case atStart => exact ⟨1, 0, true, by omega, rfl, rfl, rfl, fun h => by omega⟩
  case round =>
    obtain ⟨k, j, b, hk, rfl, rfl, rfl, hb⟩ := hrel
    have HBB := hide hb
    clear hb
    by_cases hlt : k < xs.length
    · have hki : (k : Int) < (xs.length : Int) := by omega
      obtain ⟨p, hp⟩ : ∃ p, k - 1 = p := ⟨_, rfl⟩
      have hsq : (k : Int) - 1 = (p : Int) := by omega
      have hwq : IntKind.i64.wrap (p : Int) = (p : Int) := by rw [IntKind.wrap_i64]; omega
      have hqi : (p : Int) < (xs.length : Int) := by omega
      have hql : p < xs.length := by omega
      have c1 := hrd.cell k hlt
      have c2 := hrd.cell p hql
      have hbr : s = k → xs[p]?.getD 0 < xs[k]?.getD 0 := fun e => by
        have h1 := HUP.out
        rwa [show q = p by have := HQ.out; omega, e] at h1
      generalize xs[k]?.getD 0 = x at *
      generalize xs[p]?.getD 0 = y at *
      have HBR := hide hbr
      have HP2 := hide hp
      clear hp hbr
      cases b with
      | false =>
        go_wp2
        go_quiet (fail)
        go_wp2
        go_roundw
        case rel => exact ⟨k + 1, _, false, by omega, rfl, by go_num, rfl, fun _ => rfl⟩
        case measure => simp [intOf]; omega
      | true =>
        by_cases hxy : x < y
        · go_wp2
          go_quiet (fail)
          go_wp2
          go_roundw
          case rel => exact ⟨k + 1, _, true, by omega, rfl, by go_num, rfl, fun hh => by
            rcases Nat.lt_or_ge s k with h9 | h9
            · exact HBB.out h9
            · have := HBR.out (by omega); omega⟩
          case measure => simp [intOf]; omega
        · have hdxy : decide (x < y) = false := decide_eq_false hxy
          go_wp2
          go_quiet (fail)
          go_wp2
          go_roundw
          case rel => exact ⟨k + 1, _, false, by omega, by first | rfl | rw [hdxy] | simp [hdxy], by go_num, rfl, fun _ => rfl⟩
          case measure => simp [intOf]; omega
    · have hki : ¬ (k : Int) < (xs.length : Int) := by omega
      obtain rfl := HBB.out (by omega)
      have hbj : Below w18.heap.size w18 (w18.drewN j) := bdrewN (Below.refl _ _) j
      have b29 := Two.below b2 hbj
      have hB9 := bcat hB hbj hge
      have hge9 := hB9.size
      have hu9 := hu.below hbj
      have hm9 := hm.below hbj
      obtain ⟨_, z1, z2, z3, z4, z5, z6⟩ := id b29
      clear hB hu b1 b2 b3 b4 hm hrd hbj hge
      go_wp2_with fail
      generalize w18.drewN j = wv at *
      clear z1 z2 z3 z4 z5 z6
      have hfd := field25 0 0
      refine (HPM.out _ M _ hm9 (HNX.out.perm HX.out) HNX.out.len).mono ?_
      rintro x w80 ⟨rfl, hb80⟩
      replace hB9 := bcat hB9 hb80 hge9
      replace hge9 := hB9.size
      replace hu9 := hu9.below hb80
      replace hm9 := hm9.below hb80
      obtain ⟨pb, po, hrd, hpl⟩ := hu9.rd
      obtain ⟨mb, mo, hmd, hml⟩ := hm9.rd
      have hln : M.length = xs.length := HNX.out.len
      have HLN := hide hln
      obtain rfl := hmd.at_ (by omega)
      obtain hat := hrd.at_ (by omega)
      cases hat
      clear hln hb80
      go_wp2
      have hqi : (q : Int) + 1 < (xs.length : Int) := by have := HQ.out; omega
      go_loopw [11] (fun i wr => ∃ k j : Nat, k ≤ q ∧ i = .int .i64 k ∧ wr = w80.drewN j) (fun i _ => q - (intOf i).toNat)
      case atStart => exact ⟨0, 0, by omega, rfl, rfl⟩
      case round =>
        obtain ⟨k, j2, hk2, rfl, rfl⟩ := hrel
        have hkl : k < xs.length := by have := HQ.out; omega
        have hkn : (k : Int) < (xs.length : Int) := by omega
        have c1 := hrd.cell k hkl
        have c2 := hmd.cell k (by rw [HLN.out]; exact hkl)
        by_cases hkq : k < q
        · have hkn1 : (k : Int) + 1 < (xs.length : Int) := by omega
          have hkn2 : ¬ (k : Int) + 1 = (xs.length : Int) := by omega
          rw [SP1.out k (by have := HQ.out; omega)] at c2
          generalize xs[k]?.getD 0 = x at *
          go_wp2
          go_quiet (fail)
          go_wp2
          go_roundw
          case rel => exact ⟨k + 1, _, by omega, by go_num, rfl⟩
          case measure => simp [intOf]; omega
        · obtain rfl : k = q := by omega
          have hyz := SP2.out
          have H3 := hide (fun i (h1 : s ≤ i) (h2 : i < xs.length) => SP3.out i h1 h2)
          generalize xs[k]?.getD 0 = y at *
          generalize M[k]?.getD 0 = z at *
          have hzy : ¬ z = y := by omega
          have hzy2 : decide (z < y) = false := decide_eq_false (by omega)
          have hzyb : (z == y) = false := by simp; omega
          clear SP3 SP2 SP1 HUP
          go_wp2
          go_quiet (fail)
          go_wp2
          go_quiet (fail)
          go_wp2
          go_loopw [12] (fun i wr => ∃ t j : Nat, k + 1 ≤ t ∧ i = .int .i64 t ∧ wr = w80.drewN j) (fun i _ => xs.length - (intOf i).toNat)
          case atStart => exact ⟨k + 1, _, by omega, by go_num, rfl⟩
          case round =>
            obtain ⟨t, j3, ht, rfl, rfl⟩ := hrel
            by_cases htl : t < xs.length
            · have hti : (t : Int) < (xs.length : Int) := by omega
              have d1 := hrd.cell t htl
              have d2 := hmd.cell t (by rw [HLN.out]; exact htl)
              have h3 := H3.out t (by have := HQ.out; omega) htl
              obtain ⟨p, hp⟩ : ∃ p, t - 1 = p := ⟨_, rfl⟩
              have hpi : (t : Int) - 1 = (p : Int) := by omega
              have hwp : IntKind.i64.wrap (p : Int) = (p : Int) := by rw [IntKind.wrap_i64]; omega
              have hpl2 : (p : Int) < (xs.length : Int) := by omega
              have d3 := hrd.cell p (by omega)
              have d4 := hmd.cell p (by rw [HLN.out]; omega)
              have h4 : k + 1 < t → M[p]?.getD 0 < M[t]?.getD 0 ∧ xs[t]?.getD 0 < xs[p]?.getD 0 := fun h => by
                have := SP4.out t (by have := HQ.out; omega) htl
                rwa [hp] at this
              have HP2 := hide hp
              clear hp
              generalize xs[t]?.getD 0 = x at *
              generalize M[t]?.getD 0 = v at *
              generalize xs[p]?.getD 0 = x' at *
              generalize M[p]?.getD 0 = v' at *
              by_cases h2 : k + 1 < t
              · obtain ⟨e1, e2⟩ := h4 h2
                have h2i : (k : Int) + 1 < (t : Int) := by omega
                have e3 : decide (v < v') = false := decide_eq_false (by omega)
                have e4 : decide (x' < x) = false := decide_eq_false (by omega)
                have e6 : decide ((k : Int) + 1 < (t : Int)) = true := decide_eq_true h2i
                clear h4
                by_cases h1 : y < x
                · have e5 : decide (x < z) = false := decide_eq_false (fun h => h3 ⟨h1, h⟩)
                  have e7 : decide (y < x) = true := decide_eq_true h1
                  clear h3
                  go_wp2
                  go_quiet (fail)
                  go_wp2
                  go_roundw
                  case rel => exact ⟨t + 1, _, by omega, by go_num, rfl⟩
                  case measure => simp [intOf]; omega
                · have e7 : decide (y < x) = false := decide_eq_false h1
                  clear h3
                  go_wp2
                  go_quiet (fail)
                  go_wp2
                  go_roundw
                  case rel => exact ⟨t + 1, _, by omega, by go_num, rfl⟩
                  case measure => simp [intOf]; omega
              · have e6 : decide ((k : Int) + 1 < (t : Int)) = false := decide_eq_false (by omega)
                clear h4 d3 d4
                by_cases h1 : y < x
                · have e5 : decide (x < z) = false := decide_eq_false (fun h => h3 ⟨h1, h⟩)
                  have e7 : decide (y < x) = true := decide_eq_true h1
                  clear h3
                  go_wp2
                  go_quiet (fail)
                  go_wp2
                  go_roundw
                  case rel => exact ⟨t + 1, _, by omega, by go_num, rfl⟩
                  case measure => simp [intOf]; omega
                · have e7 : decide (y < x) = false := decide_eq_false h1
                  clear h3
                  go_wp2
                  go_quiet (fail)
                  go_wp2
                  go_roundw
                  case rel => exact ⟨t + 1, _, by omega, by go_num, rfl⟩
                  case measure => simp [intOf]; omega
            · have hti : ¬ (t : Int) < (xs.length : Int) := by omega
              have hB8 : Below w.heap.size w (w80.drewN j3) := bdrewN hB9 j3
              go_wp2
              go_ret
              exact ⟨rfl, hB8⟩
end Go.Proofs.YtjchmhngfnlbhaaDoor
