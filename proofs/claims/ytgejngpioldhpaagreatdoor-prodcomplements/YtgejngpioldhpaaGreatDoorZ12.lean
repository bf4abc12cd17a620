/- The document's Subgroups, walked. What the document's Lists, and listsAs of the laws, answer. -/
import Derived.Test.YtgejngpioldhpaaGreatDoorZ11
import Derived.Deep.AppendLies
import Derived.Test.YtgejngpioldhpaaGreatDoorZ4
namespace Go.Proofs.YtgejngpioldhpaaGreatDoor
open Go Go.RowKit

theorem undrew9 {a b : World} (h : Below a.drew.heap.size a.drew b) : Below a.heap.size a b := ⟨h.os, h.tape, h.output, h.size, h.block⟩
theorem SgV.get {w W : World} {n : Nat} {v : Value} {os : List (List Int)} (h : SgV w W n v os) : ∃ (ra : Option Addr) (rc pb po : Nat), Boxed W (w.heap.size + 1) 25 (.slice ra os.length rc) ∧ (0 < os.length → ra = some ⟨pb, po, none⟩) ∧ ∀ j (hj : j < os.length), ∃ (x1 : Option Addr) (x3 : Nat), W.cell? ⟨pb, po + j, none⟩ = some (.slice x1 os[j].length x3) ∧ Sl W (.slice x1 os[j].length x3) os[j] := by
  obtain ⟨r, vs, h1, h2, h3⟩ := h.ex
  have hS := SlL.of_own h2 h3 (by have := h.sz; omega)
  obtain ⟨a, cap, pb, po, rfl, h4, h5, _⟩ := hS
  refine ⟨a, cap, pb, po, h1, h4, fun j hj => ?_⟩
  obtain ⟨x, hx, hs⟩ := h5 j hj
  rw [List.getElem?_eq_getElem hj, Option.getD_some] at hs
  obtain ⟨xa, xc, _, _, rfl, _⟩ := id hs
  exact ⟨xa, xc, hx, hs⟩
theorem sl_news {W : World} {a : Option Addr} {l c : Nat} {xs : List Int} (h : Sl W (.slice a l c) xs) (h0 : 0 < xs.length) : ∃ pb po, a = some ⟨pb, po, none⟩ ∧ l = xs.length ∧ ∀ U, Below W.heap.size W U → ∀ j u, (xs.map (Value.int .i64))[j]? = some u → U.cell? ((⟨pb, po, none⟩ : Addr).add j) = some u := by
  obtain ⟨a', cap, pb, po, hv, hr, hp, _⟩ := h
  injection hv with e1 e2 e3
  subst e1 e2 e3
  refine ⟨pb, po, hr.at_ h0, rfl, fun U hU j u hj => ?_⟩
  rw [List.getElem?_map] at hj
  obtain ⟨z, hz, rfl⟩ := Option.map_eq_some_iff.1 hj
  have hjl := (List.getElem?_eq_some_iff.1 hz).1
  have := (hr.below hU hp).cell j hjl
  rw [hz] at this
  rw [show (⟨pb, po, none⟩ : Addr).add j = ⟨pb, po + j, none⟩ by unfold Addr.add; split <;> simp_all]
  exact this
theorem int_one (xs : List Int) : ∀ u, u ∈ xs.map (Value.int .i64) → u.oneCell' = true := fun u hu => by
  obtain ⟨z, _, rfl⟩ := List.mem_map.1 hu
  rfl
theorem lst_pos {n e : Nat} {zs : List Int} {p : Nat → Bool} (g : IsGrp n zs e) (h : subT n zs e p = true) : 0 < (li (lst n p)).length := by
  rw [li_len]
  exact List.length_pos_of_mem (mem_lst.2 ⟨g.elt, (subT_iff.1 h).one⟩)
theorem lst_le9 (n : Nat) (p : Nat → Bool) : (li (lst n p)).length ≤ n := by rw [li_len]; exact lst_len n p
theorem LL_get {n j : Nat} {P : List (Nat → Bool)} {q : Nat → Bool} (h : P[j]? = some q) (hj : j < (LL n P).length) : (LL n P)[j] = li (lst n q) := by
  have : (LL n P)[j]? = some (li (lst n q)) := by unfold LL; rw [List.getElem?_map, h]; rfl
  rw [List.getElem?_eq_getElem hj] at this
  injection this
theorem LL_len {n : Nat} {P : List (Nat → Bool)} : (LL n P).length = P.length := by simp [LL]
/-- What Subgroups answers. -/
structure SubsR (n : Nat) (zs : List Int) (e : Nat) (w : World) (x : Ending) (w' : World) : Prop where
  ans : ∃ (r : Value) (P : List (Nat → Bool)) (us : List Value) (ms : List (List Int)), x = .returned r ∧ SInv n zs e P P.length 0 ∧ ms.Perm (LL n P) ∧ srt ms ∧ w'.ownsRow w.heap.size 22 1 r us.length us ∧ Lsts w' w.heap.size r us ms ∧ Below w.heap.size w w'
set_option maxRecDepth 100000 in
set_option maxHeartbeats 16000000 in
theorem subs_ok (n e : Nat) (v : Value) (zs : List Int) (w : World) (hv : Sl w v zs) (hg : IsGrp n zs e) (h24 : n ≤ 24) :
    Calls Tryz.prog 13 #[.agg #[.int .i64 n, v]] w (SubsR n zs e w) := by
  obtain ⟨i0, hi0, hz0, hz1, hz2⟩ := info_parts info3b
  obtain ⟨v1, v2, v3, rfl⟩ := hv.isSlice
  have hn0 : 0 < n := Nat.lt_of_le_of_lt (Nat.zero_le _) hg.elt
  have hst : SgV w ((w.alloc (.cells #[.int .i64 n, .slice v1 v2 v3] 24)).alloc (.cells #[.slice none 0 0] 25)) n (.slice v1 v2 v3) (LL n []) := by
    refine ⟨(balloc w _).alloc (by simp) _, Blk.alloc (blk0 _ _) _, by simp, .slice none 0 0, [], ?_, World.ownsRow_nil _ _ _ _, rfl, fun t x l h => by simp at h⟩
    have := Boxed.new (w.alloc (.cells #[.int .i64 n, .slice v1 v2 v3] 24)) 25 (.slice none 0 0)
    rwa [World.size_alloc] at this
  have hcall := call62
  go_enter Tryz.func13, Tryz.ntmps13
  go_wp2
  go_loopw [5] (fun i wr => ∃ (a : Nat) (P : List (Nat → Bool)), a ≤ n ∧ i = .int .i64 a ∧ SgV w wr n (.slice v1 v2 v3) (LL n P) ∧ DA n zs e P a) (fun i _ => n - (intOf i).toNat)
  case atStart => exact ⟨0, [], Nat.zero_le _, rfl, hst, DA.start⟩
  case round =>
    obtain ⟨a, P, han, rfl, hV, hD⟩ := hrel
    clear hst
    obtain ⟨g0, g1, _, _⟩ := hV.box.two
    by_cases hlt : a < n
    · have hai : (a : Int) < (n : Int) := by omega
      obtain ⟨p, hp⟩ := mkd_test n zs e (fun y => decide (y ∈ [a]))
      have hb1 : Below wr.heap.size wr (wr.alloc (.cells #[.int .i64 a] 3)) := balloc wr _
      have hSa : Sl (wr.alloc (.cells #[.int .i64 a] 3)) (.slice (some ⟨wr.heap.size, 0, none⟩) 1 1) (li [a]) := Sl.of_blk (zs := li [a]) (World.alloc_heap_new wr _) rfl (by simp [li])
      have HSP := hide (span_ok n e (.slice v1 v2 v3) (.slice (some ⟨wr.heap.size, 0, none⟩) 1 1) zs [a] p (wr.alloc (.cells #[.int .i64 a] 3)) ((hv.below hV.bel).below hb1) hg hSa (fun x hx => by simp at hx; omega) (by simp) hp)
      have HOL := hide (fun r (h : Boxed wr (w.heap.size + 1) 25 r) t (ht : r.ownBlock = some t) => hV.own_lt h ht)
      have HVW := hide (fun W (h : Below wr.heap.size wr W) => hV.below h)
      have HD := hide (hD.step hg hp)
      have HP0 := hide (lst_pos hg (mk_sub hg hp))
      have HLN := hide (show (LL n P).length ≤ 16777216 by rw [LL_len]; exact bits_fit hD.nd h24)
      have hszr := hV.sz
      clear hp hSa hD
      go_wp2_with fail
      clear g0 g1
      generalize hwx : wr.alloc (.cells #[.int .i64 a] 3) = wx at *
      have hsx : wr.heap.size + 1 ≤ wx.heap.size := by rw [← hwx]; simp
      clear hwx
      refine HSP.out.mono ?_
      rintro x W1 ⟨r1, rfl, hr1, hl1⟩
      have hB1 := bcat2 hb1 hl1
      have hVW := HVW.out W1 hB1
      have HAD := hide (add_ok n wx.heap.size (.slice v1 v2 v3) r1 (LL n P) (li (lst n p)) w W1 hVW hr1 HP0.out (by omega) (fun r hr t ht => by
        have := HOL.out r ((hB1.block _ (by omega)).symm.trans hr) t ht
        omega) HLN.out)
      obtain ⟨r1a, r1b, r1c, rfl⟩ : ∃ a b c, r1 = .slice a b c := by
        obtain ⟨a, cap, he⟩ := own_slice hr1
        exact ⟨a, _, cap, he⟩
      clear hVW hr1
      go_wp2_with fail
      refine HAD.out.mono ?_
      rintro x W2 ⟨⟨bb, rfl⟩, hV2⟩
      rw [putL_put] at hV2
      have HV2 := hide hV2
      clear hV2
      go_wp2
      go_roundw
      case rel => exact ⟨a + 1, _, by omega, by go_num, HV2.out, HD.out⟩
      case measure => simp [intOf]; omega
    · have hai : ¬ (a : Int) < (n : Int) := by omega
      have hae : a = n := by omega
      rw [hae] at hD
      have hDB := hD.on
      obtain ⟨ra, rc, pb, po, hbx, _, _⟩ := hV.get
      have k0 := hbx.cell
      rw [LL_len] at k0
      obtain ⟨few, hfew⟩ : ∃ few, few = P.length := ⟨_, rfl⟩
      rw [← hfew] at hDB k0
      have HST := hide (show ∃ (i : Nat) (P : List (Nat → Bool)), i ≤ P.length ∧ (.int .i64 0 : Value) = .int .i64 i ∧ SgV w wr n (.slice v1 v2 v3) (LL n P) ∧ DB n zs e P few i 0 from ⟨0, P, Nat.zero_le _, rfl, hV, hDB⟩)
      clear hfew hDB hD hV hae hbx
      go_wp2
      clear k0 g0 g1
      go_loopw [7] (fun i wr => ∃ (t : Nat) (P : List (Nat → Bool)), t ≤ P.length ∧ i = .int .i64 t ∧ SgV w wr n (.slice v1 v2 v3) (LL n P) ∧ DB n zs e P few t 0) (fun i _ => 16777217 - (intOf i).toNat)
      case atStart => exact HST.out
      case round =>
        obtain ⟨i, P, hiP, rfl, hV, hD⟩ := hrel
        clear HST
        have hPl := bits_fit hD.nd h24
        obtain ⟨ra, rc, pb, po, hbx, _, _⟩ := hV.get
        have k0 := hbx.cell
        rw [LL_len] at k0
        by_cases hlt : i < P.length
        · have hii : (i : Int) < (P.length : Int) := by omega
          have HST := hide (show ∃ (k : Nat) (P : List (Nat → Bool)), k ≤ few ∧ (.int .i64 0 : Value) = .int .i64 k ∧ SgV w wr n (.slice v1 v2 v3) (LL n P) ∧ DB n zs e P few i k ∧ i < P.length from ⟨0, P, Nat.zero_le _, rfl, hV, hD, hlt⟩)
          clear hV hD hbx
          go_wp2
          clear k0
          go_loopw [8] (fun kv wr => ∃ (k : Nat) (P : List (Nat → Bool)), k ≤ few ∧ kv = .int .i64 k ∧ SgV w wr n (.slice v1 v2 v3) (LL n P) ∧ DB n zs e P few i k ∧ i < P.length) (fun k _ => few - (intOf k).toNat)
          case atStart => exact HST.out
          case round =>
            obtain ⟨k, P, hkf, rfl, hV, hD, hlt⟩ := hrel
            clear HST
            have hPl := bits_fit hD.nd h24
            by_cases hkl : k < few
            · have hki : (k : Int) < (few : Int) := by omega
              have hkP : k < P.length := by have := hD.fl; omega
              obtain ⟨q, hq⟩ : ∃ q, P[i]? = some q := ⟨_, List.getElem?_eq_getElem hlt⟩
              obtain ⟨r, hr⟩ : ∃ r, P[k]? = some r := ⟨_, List.getElem?_eq_getElem hkP⟩
              obtain ⟨ra, rc, pb, po, hbx, hra, hcl⟩ := hV.get
              obtain rfl := hra (by rw [LL_len]; omega)
              obtain ⟨xa, x3, cx, hxs⟩ := hcl i (by rw [LL_len]; exact hlt)
              obtain ⟨ya, y3, cy, hys⟩ := hcl k (by rw [LL_len]; exact hkP)
              rw [LL_get hq] at cx hxs
              rw [LL_get hr] at cy hys
              have k0 := hbx.cell
              rw [LL_len] at k0
              have hii : (i : Int) < (P.length : Int) := by omega
              have hkk : (k : Int) < (P.length : Int) := by omega
              have HPT := hide (fun j => parted_ok (.slice ya (li (lst n r)).length y3) (.slice xa (li (lst n q)).length x3) _ _ (wr.drewN j) (hys.below (bdrewN (Below.refl _ wr) j)) (hxs.below (bdrewN (Below.refl _ wr) j)))
              have hqs := hD.sub q (List.mem_of_getElem? hq)
              have hrs := hD.sub r (List.mem_of_getElem? hr)
              have hxl0 := lst_pos hg hqs
              have hyl0 := lst_pos hg hrs
              have hxln := lst_le9 n q
              have hyln := lst_le9 n r
              have HQ := hide hq
              have HR := hide hr
              have HD := hide hD
              have HIL0 := hide hlt
              have HV := hide hV
              have HXS := hide hxs
              have HYS := hide hys
              cases hpt : ((li (lst n r)).all fun a => decide (a ∈ li (lst n q)))
              · rw [hpt] at HPT
                clear hpt hxs hys hq hr hD hV hcl hra hbx hqs hrs
                go_wp2_with fail
                go_quiet ((go_at_call 39; exact Calls.quiet_of_same (HPT.out _)))
                have hBq : Below wr.heap.size wr (wr.drewN nq) := bdrewN (Below.refl _ wr) nq
                generalize wr.drewN nq = wq at hBq ⊢
                have hVq := HV.out.below hBq
                obtain ⟨g0, g1, _, _⟩ := hVq.box.two
                have cob := below_cell hBq k0
                have ci := below_cell hBq cx
                have ck := below_cell hBq cy
                obtain ⟨xpb, xpo, rfl, _, hxn⟩ := sl_news (HXS.out.below hBq) hxl0
                obtain ⟨ypb, ypo, rfl, _, hyn⟩ := sl_news (HYS.out.below hBq) hyl0
                have HXN := hide hxn
                have HYN := hide hyn
                have HXM := hide (show ((li (lst n q)).map (Value.int .i64)).length = (li (lst n q)).length * 1 by rw [List.length_map, Nat.mul_one])
                have HYM := hide (show ((li (lst n r)).map (Value.int .i64)).length = (li (lst n r)).length * 1 by rw [List.length_map, Nat.mul_one])
                have HX1 := hide (int_one (li (lst n q)))
                have HY1 := hide (int_one (li (lst n r)))
                have HXL := hide (show 0 + (li (lst n q)).length ≤ maxLen by unfold maxLen; omega)
                have HXB := hide (show (0 + (li (lst n q)).length) * 8 ≤ 140737488355328 by omega)
                have HYL := hide (show (li (lst n q)).length + (li (lst n r)).length ≤ maxLen by unfold maxLen; omega)
                have HYB := hide (show ((li (lst n q)).length + (li (lst n r)).length) * 8 ≤ 140737488355328 by omega)
                obtain ⟨p, hp⟩ := mkd_test n zs e (fun y => decide (y ∈ lst n q ++ lst n r))
                have HSP := hide (show ∀ W u, Below wq.heap.size wq W → Sl W u (li (lst n q ++ lst n r)) → Calls Tryz.prog 15 #[.agg #[.int .i64 n, .slice v1 v2 v3], u] W fun x W' => ∃ s1 s2 s3, x = .returned (.slice s1 s2 s3) ∧ Row W' W.heap.size (.slice s1 s2 s3) (li (lst n p)) ∧ Below W.heap.size W W' from fun W u h hu => by
                  refine (span_ok n e (.slice v1 v2 v3) u zs (lst n q ++ lst n r) p W ((hv.below hVq.bel).below h) hg hu (fun x hx => ?_) ?_ hp).mono ?_
                  · rcases List.mem_append.1 hx with h9 | h9
                    · exact (mem_lst.1 h9).1
                    · exact (mem_lst.1 h9).1
                  · rw [List.length_append]
                    have := lst_len n q
                    have := lst_len n r
                    omega
                  · rintro x W' ⟨r9, rfl, hr9, hb9⟩
                    obtain ⟨a9, cap9, rfl⟩ := own_slice hr9
                    exact ⟨_, _, _, rfl, hr9, hb9⟩)
                have HUN := hide (show ∀ (W : World) (gg cc : Nat), W.ownsRow wq.heap.size 3 1 (.slice (some ⟨gg, 0, none⟩) ((li (lst n q)).length + (li (lst n r)).length) cc) ((li (lst n q)).length + (li (lst n r)).length) ((li (lst n q)).map (Value.int .i64) ++ (li (lst n r)).map (Value.int .i64)) → Below wq.heap.size wq W → Sl W (.slice (some ⟨gg, 0, none⟩) ((li (lst n q)).length + (li (lst n r)).length) cc) (li (lst n q ++ lst n r)) from fun W gg cc hw hb => by
                  have hlen : (li (lst n q ++ lst n r)).length = (li (lst n q)).length + (li (lst n r)).length := by
                    simp [li]
                  refine Sl.of_own (base := wq.heap.size) ?_ (by have := hVq.sz; have := hb.size; omega)
                  rw [hlen]
                  have hm : (li (lst n q ++ lst n r)).map (Value.int .i64) = (li (lst n q)).map (Value.int .i64) ++ (li (lst n r)).map (Value.int .i64) := by simp [li]
                  rw [hm]
                  exact hw)
                have HAD := hide (show ∀ (W U : World) (s : Value), wq.heap.size ≤ W.heap.size → Below wq.heap.size wq U → Row U W.heap.size s (li (lst n p)) → Calls Tryz.prog 37 (#[s] ++ #[.pointer (some ⟨w.heap.size + 1, 0, none⟩)]) U fun x U' => (∃ b, x = .returned (.bool b)) ∧ SgV w U' n (.slice v1 v2 v3) (LL n (put n P p)) from fun W U s h1 h2 h3 => by
                  have h9 := add_ok n W.heap.size (.slice v1 v2 v3) s (LL n P) (li (lst n p)) w U (hVq.below h2) h3 (lst_pos hg (mk_sub hg hp)) (by have := hVq.sz; omega) (fun r hr t ht => by
                    have := hVq.own_lt ((h2.block _ (by have := hVq.sz; omega)).symm.trans hr) ht
                    omega) (by rw [LL_len]; exact hPl)
                  rw [putL_put] at h9
                  exact h9)
                have HDS := hide (HD.out.step hg HQ.out HR.out hp)
                have HIL := hide (show i < (put n P p).length from Nat.lt_of_lt_of_le HIL0.out put_len)
                clear hp hxn hyn hVq k0 cx cy HPT
                go_wp2_with fail
                refine wp_region_held_drew (S := (fun U => U.cell? ⟨w.heap.size, 0, none⟩ = some (.int .i64 n) ∧ U.cell? ⟨w.heap.size, 1, none⟩ = some (.slice v1 v2 v3))) (by kernel_rfl) ⟨g0, g1⟩ (fun hHeld => ?_)
                refine wpAnyH_take (i := 0) (oi := ({ dst := some 47, op := Go.Op.move (Go.Operand.tmp 4), type := 60, pos := _, after := #[], guard := none } : Oper)) (v := ?_) rfl (by kernel_rfl) (by kernel_rfl) (by kernel_rfl) (fun _ _ _ h => h) (Or.inl ⟨by rfl, ?_⟩) (by assumption) ?_
                rotate_left
                · (intro w hSw; (try dsimp only at hSw); go_simp; try with_reducible rfl)
                simp only [Act.put, List.setIfInBounds_toArray, List.set_cons_zero, List.set_cons_succ]
                refine wpAnyH_take (i := 1) (oi := ({ dst := some 48, op := Go.Op.load 24 (Go.Operand.tmp 1), type := 24, pos := _, after := #[], guard := none } : Oper)) (v := ?_) rfl (by kernel_rfl) (by kernel_rfl) (by kernel_rfl) (fun _ _ _ h => h) (Or.inl ⟨by rfl, ?_⟩) (by assumption) ?_
                rotate_left
                · (intro w hSw; (try dsimp only at hSw); go_simp; try with_reducible rfl)
                simp only [Act.put, List.setIfInBounds_toArray, List.set_cons_zero, List.set_cons_succ]
                refine wpAnyH_take (i := 3) (oi := ({ dst := some 50, op := Go.Op.move (Go.Operand.tmp 7), type := 3, pos := _, after := #[], guard := none } : Oper)) (v := ?_) rfl (by kernel_rfl) (by kernel_rfl) (by kernel_rfl) (fun _ _ _ h => h) (Or.inl ⟨by rfl, ?_⟩) (by assumption) ?_
                rotate_left
                · (intro w hSw; (try dsimp only at hSw); go_simp; try with_reducible rfl)
                simp only [Act.put, List.setIfInBounds_toArray, List.set_cons_zero, List.set_cons_succ]
                refine wpAnyH_take (i := 8) (oi := ({ dst := some 55, op := Go.Op.move (Go.Operand.tmp 8), type := 3, pos := _, after := #[], guard := none } : Oper)) (v := ?_) rfl (by kernel_rfl) (by kernel_rfl) (by kernel_rfl) (fun _ _ _ h => h) (Or.inl ⟨by rfl, ?_⟩) (by assumption) ?_
                rotate_left
                · (intro w hSw; (try dsimp only at hSw); go_simp; try with_reducible rfl)
                simp only [Act.put, List.setIfInBounds_toArray, List.set_cons_zero, List.set_cons_succ]
                refine wpAnyH_ready (rs := [2, 7]) (by kernel_rfl) (by simp) (AllReadyH.cons (o := ({ dst := some 49, op := Go.Op.load 25 (Go.Operand.tmp 3), type := 25, pos := _, after := #[], guard := none } : Oper)) rfl (fun KK hK => ?_) (AllReadyH.cons (o := ({ dst := some 54, op := Go.Op.load 25 (Go.Operand.tmp 3), type := 25, pos := _, after := #[], guard := none } : Oper)) rfl (fun KK hK => ?_) AllReadyH.nil))
                · go_simp
                  refine hK.out _ _ hHeld (fun hHeld => ?_)
                  clear hK
                  try simp only [Act.put, List.setIfInBounds_toArray, List.set_cons_zero, List.set_cons_succ]
                  refine wpAnyH_take (i := 4) (oi := ({ dst := some 51, op := Go.Op.indexAddr 25 (Go.Operand.tmp 49) (Go.Operand.tmp 50), type := 0, pos := _, after := #[{ on := 2, ground := Go.Ground.data }, { on := 3, ground := Go.Ground.data }], guard := none } : Oper)) (v := ?_) rfl (by kernel_rfl) (by kernel_rfl) (by kernel_rfl) (fun _ _ _ h => h) (Or.inl ⟨by rfl, ?_⟩) (by assumption) ?_
                  rotate_left
                  · (intro w hSw; (try dsimp only at hSw); go_simp; try with_reducible rfl)
                  simp only [Act.put, List.setIfInBounds_toArray, List.set_cons_zero, List.set_cons_succ]
                  refine wpAnyH_ready (rs := [5, 7]) (by kernel_rfl) (by simp) (AllReadyH.cons (o := ({ dst := some 52, op := Go.Op.load 22 (Go.Operand.tmp 51), type := 22, pos := _, after := #[{ on := 4, ground := Go.Ground.data }], guard := none } : Oper)) rfl (fun KK hK => ?_) (AllReadyH.cons (o := ({ dst := some 54, op := Go.Op.load 25 (Go.Operand.tmp 3), type := 25, pos := _, after := #[], guard := none } : Oper)) rfl (fun KK hK => ?_) AllReadyH.nil))
                  · go_simp
                    refine hK.out _ _ hHeld (fun hHeld => ?_)
                    clear hK
                    try simp only [Act.put, List.setIfInBounds_toArray, List.set_cons_zero, List.set_cons_succ]
                    refine wpAnyH_ready (rs := [6, 7]) (by kernel_rfl) (by simp) (AllReadyH.cons (o := ({ dst := some 53, op := Go.Op.call { callee := Go.Callee.builtin Go.Builtin.append, args := #[Go.Operand.const (Go.Value.slice none 0 0), Go.Operand.tmp 52], argTypes := #[22, 22] }, type := 22, pos := _, after := #[{ on := 5, ground := Go.Ground.data }], guard := none } : Oper)) rfl (fun KK hK => ?_) (AllReadyH.cons (o := ({ dst := some 54, op := Go.Op.load 25 (Go.Operand.tmp 3), type := 25, pos := _, after := #[], guard := none } : Oper)) rfl (fun KK hK => ?_) AllReadyH.nil))
                    · refine step_append_lies _ rfl _ _ 22 rfl wq.heap.size 3 i0 (.int .i64 0) 1 8 under22b hi0 hz0 hz1 hz2 rfl (by decide) (.slice none 0 0) 0 [] rfl (World.ownsRow_nil _ _ _ _) ⟨xpb, xpo, none⟩ (li (lst n q)).length x3 ((li (lst n q)).map (Value.int .i64)) rfl HXM.out (HXN.out _ (bdrew (Below.refl _ wq))) HX1.out hxl0 HXL.out HXB.out (Nat.le_refl _) _ rfl ?_
                      intro g9 cap9 w9 hown9 hgrow9 hloc9 hlt9
                      have hB9 : Below wq.heap.size wq w9 := (bdrew (Below.refl _ wq)).grown hgrow9 (Nat.le_refl _) (by simp [Value.ownBlock])
                      rw [Nat.zero_add, List.nil_append] at hown9
                      have cob := below_cell hB9 cob
                      have ck := below_cell hB9 ck
                      refine hK.out _ _ ⟨below_cell hB9 g0, below_cell hB9 g1⟩ (fun hHeld => ?_)
                      clear hK hgrow9 hloc9 hlt9
                      try simp only [Act.put, List.setIfInBounds_toArray, List.set_cons_zero, List.set_cons_succ]
                      try simp only [Nat.zero_add]
                      refine wpAnyH_ready (rs := [7]) (by kernel_rfl) (by simp) (AllReadyH.cons (o := ({ dst := some 54, op := Go.Op.load 25 (Go.Operand.tmp 3), type := 25, pos := _, after := #[], guard := none } : Oper)) rfl (fun KK hK => ?_) AllReadyH.nil)
                      go_simp
                      refine hK.out _ _ hHeld (fun hHeld => ?_)
                      clear hK
                      try simp only [Act.put, List.setIfInBounds_toArray, List.set_cons_zero, List.set_cons_succ]
                      refine wpAnyH_take (i := 9) (oi := ({ dst := some 56, op := Go.Op.indexAddr 25 (Go.Operand.tmp 54) (Go.Operand.tmp 55), type := 0, pos := _, after := #[{ on := 7, ground := Go.Ground.data }, { on := 8, ground := Go.Ground.data }], guard := none } : Oper)) (v := ?_) rfl (by kernel_rfl) (by kernel_rfl) (by kernel_rfl) (fun _ _ _ h => h) (Or.inl ⟨by rfl, ?_⟩) (by assumption) ?_
                      rotate_left
                      · (intro w hSw; (try dsimp only at hSw); go_simp; try with_reducible rfl)
                      simp only [Act.put, List.setIfInBounds_toArray, List.set_cons_zero, List.set_cons_succ]
                      refine wpAnyH_ready (rs := [10]) (by kernel_rfl) (by simp) (AllReadyH.cons (o := ({ dst := some 57, op := Go.Op.load 22 (Go.Operand.tmp 56), type := 22, pos := _, after := #[{ on := 9, ground := Go.Ground.data }], guard := none } : Oper)) rfl (fun KK hK => ?_) AllReadyH.nil)
                      go_simp
                      refine hK.out _ _ hHeld (fun hHeld => ?_)
                      clear hK
                      try simp only [Act.put, List.setIfInBounds_toArray, List.set_cons_zero, List.set_cons_succ]
                      refine wpAnyH_ready (rs := [11]) (by kernel_rfl) (by simp) (AllReadyH.cons (o := ({ dst := some 58, op := Go.Op.call { callee := Go.Callee.builtin Go.Builtin.append, args := #[Go.Operand.tmp 53, Go.Operand.tmp 57], argTypes := #[22, 22] }, type := 22, pos := _, after := #[{ on := 6, ground := Go.Ground.data }, { on := 10, ground := Go.Ground.data }, { on := 6, ground := Go.Ground.chain }], guard := none } : Oper)) rfl (fun KK hK => ?_) AllReadyH.nil)
                      refine step_append_lies _ rfl _ _ 22 rfl wq.heap.size 3 i0 (.int .i64 0) 1 8 under22b hi0 hz0 hz1 hz2 rfl (by decide) (.slice (some ⟨g9, 0, none⟩) (li (lst n q)).length cap9) (li (lst n q)).length _ rfl hown9 ⟨ypb, ypo, none⟩ (li (lst n r)).length y3 ((li (lst n r)).map (Value.int .i64)) rfl HYM.out (HYN.out _ hB9) HY1.out hyl0 HYL.out HYB.out hB9.size _ rfl ?_
                      intro gA capA wA hownA hgrowA hlocA hltA
                      have hBA : Below wq.heap.size wq wA := hB9.grown hgrowA hB9.size (fun j e => owns_ge hown9 j e)
                      refine hK.out _ _ ⟨below_cell hBA g0, below_cell hBA g1⟩ (fun hHeld => ?_)
                      clear hK
                      try simp only [Act.put, List.setIfInBounds_toArray, List.set_cons_zero, List.set_cons_succ]
                      refine wpAnyH_ready (rs := [12]) (by kernel_rfl) (by simp) (AllReadyH.cons (o := ({ dst := some 59, op := Go.Op.call { callee := Go.Callee.value (Go.Operand.func 15), args := #[Go.Operand.tmp 48, Go.Operand.tmp 58], argTypes := #[24, 22] }, type := 22, pos := _, after := #[{ on := 1, ground := Go.Ground.data }, { on := 11, ground := Go.Ground.data }, { on := 11, ground := Go.Ground.chain }], guard := none } : Oper)) rfl (fun KK hK => ?_) AllReadyH.nil)
                      go_simp
                      refine (HSP.out _ _ hBA (HUN.out _ _ _ hownA hBA)).mono ?_
                      rintro e1 U1 ⟨s1, s2, s3, rfl, hrowS, hl1⟩
                      try go_wp2_with fail
                      have hBU := bcat2 hBA hl1
                      refine hK.out _ _ ⟨below_cell hBU g0, below_cell hBU g1⟩ (fun hHeld => ?_)
                      clear hK
                      try simp only [Act.put, List.setIfInBounds_toArray, List.set_cons_zero, List.set_cons_succ]
                      refine wpAnyH_ready (rs := [13]) (by kernel_rfl) (by simp) (AllReadyH.cons (o := ({ dst := some 60, op := Go.Op.call { callee := Go.Callee.value (Go.Operand.tmp 47), args := #[Go.Operand.tmp 59], argTypes := #[22] }, type := 4, pos := _, after := #[{ on := 0, ground := Go.Ground.data }, { on := 12, ground := Go.Ground.data }, { on := 12, ground := Go.Ground.chain }], guard := none } : Oper)) rfl (fun KK hK => ?_) AllReadyH.nil)
                      go_simp
                      refine (HAD.out _ _ _ hBA.size hBU hrowS).mono ?_
                      rintro e2 U2 ⟨⟨bb, rfl⟩, hV2⟩
                      try go_wp2_with fail
                      refine hK.out _ _ ⟨hV2.box.two.1, hV2.box.two.2.1⟩ (fun hHeld => ?_)
                      clear hK
                      try simp only [Act.put, List.setIfInBounds_toArray, List.set_cons_zero, List.set_cons_succ]
                      refine wpAnyH_done (by kernel_rfl) ?_ _
                      have HV2 := hide hV2
                      clear hV2
                      go_wp2
                      go_roundw
                      case rel => exact ⟨k + 1, _, by omega, by go_num, HV2.out, HDS.out, HIL.out⟩
                      case measure => simp [intOf]; omega
                    · go_simp
                      refine hK.out _ _ hHeld (fun hHeld => ?_)
                      clear hK
                      try simp only [Act.put, List.setIfInBounds_toArray, List.set_cons_zero, List.set_cons_succ]
                      refine wpAnyH_take (i := 9) (oi := ({ dst := some 56, op := Go.Op.indexAddr 25 (Go.Operand.tmp 54) (Go.Operand.tmp 55), type := 0, pos := _, after := #[{ on := 7, ground := Go.Ground.data }, { on := 8, ground := Go.Ground.data }], guard := none } : Oper)) (v := ?_) rfl (by kernel_rfl) (by kernel_rfl) (by kernel_rfl) (fun _ _ _ h => h) (Or.inl ⟨by rfl, ?_⟩) (by assumption) ?_
                      rotate_left
                      · (intro w hSw; (try dsimp only at hSw); go_simp; try with_reducible rfl)
                      simp only [Act.put, List.setIfInBounds_toArray, List.set_cons_zero, List.set_cons_succ]
                      refine wpAnyH_ready (rs := [6, 10]) (by kernel_rfl) (by simp) (AllReadyH.cons (o := ({ dst := some 53, op := Go.Op.call { callee := Go.Callee.builtin Go.Builtin.append, args := #[Go.Operand.const (Go.Value.slice none 0 0), Go.Operand.tmp 52], argTypes := #[22, 22] }, type := 22, pos := _, after := #[{ on := 5, ground := Go.Ground.data }], guard := none } : Oper)) rfl (fun KK hK => ?_) (AllReadyH.cons (o := ({ dst := some 57, op := Go.Op.load 22 (Go.Operand.tmp 56), type := 22, pos := _, after := #[{ on := 9, ground := Go.Ground.data }], guard := none } : Oper)) rfl (fun KK hK => ?_) AllReadyH.nil))
                      · refine step_append_lies _ rfl _ _ 22 rfl wq.heap.size 3 i0 (.int .i64 0) 1 8 under22b hi0 hz0 hz1 hz2 rfl (by decide) (.slice none 0 0) 0 [] rfl (World.ownsRow_nil _ _ _ _) ⟨xpb, xpo, none⟩ (li (lst n q)).length x3 ((li (lst n q)).map (Value.int .i64)) rfl HXM.out (HXN.out _ (bdrew (Below.refl _ wq))) HX1.out hxl0 HXL.out HXB.out (Nat.le_refl _) _ rfl ?_
                        intro g9 cap9 w9 hown9 hgrow9 hloc9 hlt9
                        have hB9 : Below wq.heap.size wq w9 := (bdrew (Below.refl _ wq)).grown hgrow9 (Nat.le_refl _) (by simp [Value.ownBlock])
                        rw [Nat.zero_add, List.nil_append] at hown9
                        have cob := below_cell hB9 cob
                        have ck := below_cell hB9 ck
                        refine hK.out _ _ ⟨below_cell hB9 g0, below_cell hB9 g1⟩ (fun hHeld => ?_)
                        clear hK hgrow9 hloc9 hlt9
                        try simp only [Act.put, List.setIfInBounds_toArray, List.set_cons_zero, List.set_cons_succ]
                        try simp only [Nat.zero_add]
                        refine wpAnyH_ready (rs := [10]) (by kernel_rfl) (by simp) (AllReadyH.cons (o := ({ dst := some 57, op := Go.Op.load 22 (Go.Operand.tmp 56), type := 22, pos := _, after := #[{ on := 9, ground := Go.Ground.data }], guard := none } : Oper)) rfl (fun KK hK => ?_) AllReadyH.nil)
                        go_simp
                        refine hK.out _ _ hHeld (fun hHeld => ?_)
                        clear hK
                        try simp only [Act.put, List.setIfInBounds_toArray, List.set_cons_zero, List.set_cons_succ]
                        refine wpAnyH_ready (rs := [11]) (by kernel_rfl) (by simp) (AllReadyH.cons (o := ({ dst := some 58, op := Go.Op.call { callee := Go.Callee.builtin Go.Builtin.append, args := #[Go.Operand.tmp 53, Go.Operand.tmp 57], argTypes := #[22, 22] }, type := 22, pos := _, after := #[{ on := 6, ground := Go.Ground.data }, { on := 10, ground := Go.Ground.data }, { on := 6, ground := Go.Ground.chain }], guard := none } : Oper)) rfl (fun KK hK => ?_) AllReadyH.nil)
                        refine step_append_lies _ rfl _ _ 22 rfl wq.heap.size 3 i0 (.int .i64 0) 1 8 under22b hi0 hz0 hz1 hz2 rfl (by decide) (.slice (some ⟨g9, 0, none⟩) (li (lst n q)).length cap9) (li (lst n q)).length _ rfl hown9 ⟨ypb, ypo, none⟩ (li (lst n r)).length y3 ((li (lst n r)).map (Value.int .i64)) rfl HYM.out (HYN.out _ hB9) HY1.out hyl0 HYL.out HYB.out hB9.size _ rfl ?_
                        intro gA capA wA hownA hgrowA hlocA hltA
                        have hBA : Below wq.heap.size wq wA := hB9.grown hgrowA hB9.size (fun j e => owns_ge hown9 j e)
                        refine hK.out _ _ ⟨below_cell hBA g0, below_cell hBA g1⟩ (fun hHeld => ?_)
                        clear hK
                        try simp only [Act.put, List.setIfInBounds_toArray, List.set_cons_zero, List.set_cons_succ]
                        refine wpAnyH_ready (rs := [12]) (by kernel_rfl) (by simp) (AllReadyH.cons (o := ({ dst := some 59, op := Go.Op.call { callee := Go.Callee.value (Go.Operand.func 15), args := #[Go.Operand.tmp 48, Go.Operand.tmp 58], argTypes := #[24, 22] }, type := 22, pos := _, after := #[{ on := 1, ground := Go.Ground.data }, { on := 11, ground := Go.Ground.data }, { on := 11, ground := Go.Ground.chain }], guard := none } : Oper)) rfl (fun KK hK => ?_) AllReadyH.nil)
                        go_simp
                        refine (HSP.out _ _ hBA (HUN.out _ _ _ hownA hBA)).mono ?_
                        rintro e1 U1 ⟨s1, s2, s3, rfl, hrowS, hl1⟩
                        try go_wp2_with fail
                        have hBU := bcat2 hBA hl1
                        refine hK.out _ _ ⟨below_cell hBU g0, below_cell hBU g1⟩ (fun hHeld => ?_)
                        clear hK
                        try simp only [Act.put, List.setIfInBounds_toArray, List.set_cons_zero, List.set_cons_succ]
                        refine wpAnyH_ready (rs := [13]) (by kernel_rfl) (by simp) (AllReadyH.cons (o := ({ dst := some 60, op := Go.Op.call { callee := Go.Callee.value (Go.Operand.tmp 47), args := #[Go.Operand.tmp 59], argTypes := #[22] }, type := 4, pos := _, after := #[{ on := 0, ground := Go.Ground.data }, { on := 12, ground := Go.Ground.data }, { on := 12, ground := Go.Ground.chain }], guard := none } : Oper)) rfl (fun KK hK => ?_) AllReadyH.nil)
                        go_simp
                        refine (HAD.out _ _ _ hBA.size hBU hrowS).mono ?_
                        rintro e2 U2 ⟨⟨bb, rfl⟩, hV2⟩
                        try go_wp2_with fail
                        refine hK.out _ _ ⟨hV2.box.two.1, hV2.box.two.2.1⟩ (fun hHeld => ?_)
                        clear hK
                        try simp only [Act.put, List.setIfInBounds_toArray, List.set_cons_zero, List.set_cons_succ]
                        refine wpAnyH_done (by kernel_rfl) ?_ _
                        have HV2 := hide hV2
                        clear hV2
                        go_wp2
                        go_roundw
                        case rel => exact ⟨k + 1, _, by omega, by go_num, HV2.out, HDS.out, HIL.out⟩
                        case measure => simp [intOf]; omega
                      · go_simp
                        refine hK.out _ _ hHeld (fun hHeld => ?_)
                        clear hK
                        try simp only [Act.put, List.setIfInBounds_toArray, List.set_cons_zero, List.set_cons_succ]
                        refine wpAnyH_ready (rs := [6]) (by kernel_rfl) (by simp) (AllReadyH.cons (o := ({ dst := some 53, op := Go.Op.call { callee := Go.Callee.builtin Go.Builtin.append, args := #[Go.Operand.const (Go.Value.slice none 0 0), Go.Operand.tmp 52], argTypes := #[22, 22] }, type := 22, pos := _, after := #[{ on := 5, ground := Go.Ground.data }], guard := none } : Oper)) rfl (fun KK hK => ?_) AllReadyH.nil)
                        refine step_append_lies _ rfl _ _ 22 rfl wq.heap.size 3 i0 (.int .i64 0) 1 8 under22b hi0 hz0 hz1 hz2 rfl (by decide) (.slice none 0 0) 0 [] rfl (World.ownsRow_nil _ _ _ _) ⟨xpb, xpo, none⟩ (li (lst n q)).length x3 ((li (lst n q)).map (Value.int .i64)) rfl HXM.out (HXN.out _ (bdrew (Below.refl _ wq))) HX1.out hxl0 HXL.out HXB.out (Nat.le_refl _) _ rfl ?_
                        intro g9 cap9 w9 hown9 hgrow9 hloc9 hlt9
                        have hB9 : Below wq.heap.size wq w9 := (bdrew (Below.refl _ wq)).grown hgrow9 (Nat.le_refl _) (by simp [Value.ownBlock])
                        rw [Nat.zero_add, List.nil_append] at hown9
                        have cob := below_cell hB9 cob
                        have ck := below_cell hB9 ck
                        refine hK.out _ _ ⟨below_cell hB9 g0, below_cell hB9 g1⟩ (fun hHeld => ?_)
                        clear hK hgrow9 hloc9 hlt9
                        try simp only [Act.put, List.setIfInBounds_toArray, List.set_cons_zero, List.set_cons_succ]
                        try simp only [Nat.zero_add]
                        refine wpAnyH_ready (rs := [11]) (by kernel_rfl) (by simp) (AllReadyH.cons (o := ({ dst := some 58, op := Go.Op.call { callee := Go.Callee.builtin Go.Builtin.append, args := #[Go.Operand.tmp 53, Go.Operand.tmp 57], argTypes := #[22, 22] }, type := 22, pos := _, after := #[{ on := 6, ground := Go.Ground.data }, { on := 10, ground := Go.Ground.data }, { on := 6, ground := Go.Ground.chain }], guard := none } : Oper)) rfl (fun KK hK => ?_) AllReadyH.nil)
                        refine step_append_lies _ rfl _ _ 22 rfl wq.heap.size 3 i0 (.int .i64 0) 1 8 under22b hi0 hz0 hz1 hz2 rfl (by decide) (.slice (some ⟨g9, 0, none⟩) (li (lst n q)).length cap9) (li (lst n q)).length _ rfl hown9 ⟨ypb, ypo, none⟩ (li (lst n r)).length y3 ((li (lst n r)).map (Value.int .i64)) rfl HYM.out (HYN.out _ hB9) HY1.out hyl0 HYL.out HYB.out hB9.size _ rfl ?_
                        intro gA capA wA hownA hgrowA hlocA hltA
                        have hBA : Below wq.heap.size wq wA := hB9.grown hgrowA hB9.size (fun j e => owns_ge hown9 j e)
                        refine hK.out _ _ ⟨below_cell hBA g0, below_cell hBA g1⟩ (fun hHeld => ?_)
                        clear hK
                        try simp only [Act.put, List.setIfInBounds_toArray, List.set_cons_zero, List.set_cons_succ]
                        refine wpAnyH_ready (rs := [12]) (by kernel_rfl) (by simp) (AllReadyH.cons (o := ({ dst := some 59, op := Go.Op.call { callee := Go.Callee.value (Go.Operand.func 15), args := #[Go.Operand.tmp 48, Go.Operand.tmp 58], argTypes := #[24, 22] }, type := 22, pos := _, after := #[{ on := 1, ground := Go.Ground.data }, { on := 11, ground := Go.Ground.data }, { on := 11, ground := Go.Ground.chain }], guard := none } : Oper)) rfl (fun KK hK => ?_) AllReadyH.nil)
                        go_simp
                        refine (HSP.out _ _ hBA (HUN.out _ _ _ hownA hBA)).mono ?_
                        rintro e1 U1 ⟨s1, s2, s3, rfl, hrowS, hl1⟩
                        try go_wp2_with fail
                        have hBU := bcat2 hBA hl1
                        refine hK.out _ _ ⟨below_cell hBU g0, below_cell hBU g1⟩ (fun hHeld => ?_)
                        clear hK
                        try simp only [Act.put, List.setIfInBounds_toArray, List.set_cons_zero, List.set_cons_succ]
                        refine wpAnyH_ready (rs := [13]) (by kernel_rfl) (by simp) (AllReadyH.cons (o := ({ dst := some 60, op := Go.Op.call { callee := Go.Callee.value (Go.Operand.tmp 47), args := #[Go.Operand.tmp 59], argTypes := #[22] }, type := 4, pos := _, after := #[{ on := 0, ground := Go.Ground.data }, { on := 12, ground := Go.Ground.data }, { on := 12, ground := Go.Ground.chain }], guard := none } : Oper)) rfl (fun KK hK => ?_) AllReadyH.nil)
                        go_simp
                        refine (HAD.out _ _ _ hBA.size hBU hrowS).mono ?_
                        rintro e2 U2 ⟨⟨bb, rfl⟩, hV2⟩
                        try go_wp2_with fail
                        refine hK.out _ _ ⟨hV2.box.two.1, hV2.box.two.2.1⟩ (fun hHeld => ?_)
                        clear hK
                        try simp only [Act.put, List.setIfInBounds_toArray, List.set_cons_zero, List.set_cons_succ]
                        refine wpAnyH_done (by kernel_rfl) ?_ _
                        have HV2 := hide hV2
                        clear hV2
                        go_wp2
                        go_roundw
                        case rel => exact ⟨k + 1, _, by omega, by go_num, HV2.out, HDS.out, HIL.out⟩
                        case measure => simp [intOf]; omega
                  · go_simp
                    refine hK.out _ _ hHeld (fun hHeld => ?_)
                    clear hK
                    try simp only [Act.put, List.setIfInBounds_toArray, List.set_cons_zero, List.set_cons_succ]
                    refine wpAnyH_take (i := 9) (oi := ({ dst := some 56, op := Go.Op.indexAddr 25 (Go.Operand.tmp 54) (Go.Operand.tmp 55), type := 0, pos := _, after := #[{ on := 7, ground := Go.Ground.data }, { on := 8, ground := Go.Ground.data }], guard := none } : Oper)) (v := ?_) rfl (by kernel_rfl) (by kernel_rfl) (by kernel_rfl) (fun _ _ _ h => h) (Or.inl ⟨by rfl, ?_⟩) (by assumption) ?_
                    rotate_left
                    · (intro w hSw; (try dsimp only at hSw); go_simp; try with_reducible rfl)
                    simp only [Act.put, List.setIfInBounds_toArray, List.set_cons_zero, List.set_cons_succ]
                    refine wpAnyH_ready (rs := [5, 10]) (by kernel_rfl) (by simp) (AllReadyH.cons (o := ({ dst := some 52, op := Go.Op.load 22 (Go.Operand.tmp 51), type := 22, pos := _, after := #[{ on := 4, ground := Go.Ground.data }], guard := none } : Oper)) rfl (fun KK hK => ?_) (AllReadyH.cons (o := ({ dst := some 57, op := Go.Op.load 22 (Go.Operand.tmp 56), type := 22, pos := _, after := #[{ on := 9, ground := Go.Ground.data }], guard := none } : Oper)) rfl (fun KK hK => ?_) AllReadyH.nil))
                    · go_simp
                      refine hK.out _ _ hHeld (fun hHeld => ?_)
                      clear hK
                      try simp only [Act.put, List.setIfInBounds_toArray, List.set_cons_zero, List.set_cons_succ]
                      refine wpAnyH_ready (rs := [6, 10]) (by kernel_rfl) (by simp) (AllReadyH.cons (o := ({ dst := some 53, op := Go.Op.call { callee := Go.Callee.builtin Go.Builtin.append, args := #[Go.Operand.const (Go.Value.slice none 0 0), Go.Operand.tmp 52], argTypes := #[22, 22] }, type := 22, pos := _, after := #[{ on := 5, ground := Go.Ground.data }], guard := none } : Oper)) rfl (fun KK hK => ?_) (AllReadyH.cons (o := ({ dst := some 57, op := Go.Op.load 22 (Go.Operand.tmp 56), type := 22, pos := _, after := #[{ on := 9, ground := Go.Ground.data }], guard := none } : Oper)) rfl (fun KK hK => ?_) AllReadyH.nil))
                      · refine step_append_lies _ rfl _ _ 22 rfl wq.heap.size 3 i0 (.int .i64 0) 1 8 under22b hi0 hz0 hz1 hz2 rfl (by decide) (.slice none 0 0) 0 [] rfl (World.ownsRow_nil _ _ _ _) ⟨xpb, xpo, none⟩ (li (lst n q)).length x3 ((li (lst n q)).map (Value.int .i64)) rfl HXM.out (HXN.out _ (bdrew (Below.refl _ wq))) HX1.out hxl0 HXL.out HXB.out (Nat.le_refl _) _ rfl ?_
                        intro g9 cap9 w9 hown9 hgrow9 hloc9 hlt9
                        have hB9 : Below wq.heap.size wq w9 := (bdrew (Below.refl _ wq)).grown hgrow9 (Nat.le_refl _) (by simp [Value.ownBlock])
                        rw [Nat.zero_add, List.nil_append] at hown9
                        have cob := below_cell hB9 cob
                        have ck := below_cell hB9 ck
                        refine hK.out _ _ ⟨below_cell hB9 g0, below_cell hB9 g1⟩ (fun hHeld => ?_)
                        clear hK hgrow9 hloc9 hlt9
                        try simp only [Act.put, List.setIfInBounds_toArray, List.set_cons_zero, List.set_cons_succ]
                        try simp only [Nat.zero_add]
                        refine wpAnyH_ready (rs := [10]) (by kernel_rfl) (by simp) (AllReadyH.cons (o := ({ dst := some 57, op := Go.Op.load 22 (Go.Operand.tmp 56), type := 22, pos := _, after := #[{ on := 9, ground := Go.Ground.data }], guard := none } : Oper)) rfl (fun KK hK => ?_) AllReadyH.nil)
                        go_simp
                        refine hK.out _ _ hHeld (fun hHeld => ?_)
                        clear hK
                        try simp only [Act.put, List.setIfInBounds_toArray, List.set_cons_zero, List.set_cons_succ]
                        refine wpAnyH_ready (rs := [11]) (by kernel_rfl) (by simp) (AllReadyH.cons (o := ({ dst := some 58, op := Go.Op.call { callee := Go.Callee.builtin Go.Builtin.append, args := #[Go.Operand.tmp 53, Go.Operand.tmp 57], argTypes := #[22, 22] }, type := 22, pos := _, after := #[{ on := 6, ground := Go.Ground.data }, { on := 10, ground := Go.Ground.data }, { on := 6, ground := Go.Ground.chain }], guard := none } : Oper)) rfl (fun KK hK => ?_) AllReadyH.nil)
                        refine step_append_lies _ rfl _ _ 22 rfl wq.heap.size 3 i0 (.int .i64 0) 1 8 under22b hi0 hz0 hz1 hz2 rfl (by decide) (.slice (some ⟨g9, 0, none⟩) (li (lst n q)).length cap9) (li (lst n q)).length _ rfl hown9 ⟨ypb, ypo, none⟩ (li (lst n r)).length y3 ((li (lst n r)).map (Value.int .i64)) rfl HYM.out (HYN.out _ hB9) HY1.out hyl0 HYL.out HYB.out hB9.size _ rfl ?_
                        intro gA capA wA hownA hgrowA hlocA hltA
                        have hBA : Below wq.heap.size wq wA := hB9.grown hgrowA hB9.size (fun j e => owns_ge hown9 j e)
                        refine hK.out _ _ ⟨below_cell hBA g0, below_cell hBA g1⟩ (fun hHeld => ?_)
                        clear hK
                        try simp only [Act.put, List.setIfInBounds_toArray, List.set_cons_zero, List.set_cons_succ]
                        refine wpAnyH_ready (rs := [12]) (by kernel_rfl) (by simp) (AllReadyH.cons (o := ({ dst := some 59, op := Go.Op.call { callee := Go.Callee.value (Go.Operand.func 15), args := #[Go.Operand.tmp 48, Go.Operand.tmp 58], argTypes := #[24, 22] }, type := 22, pos := _, after := #[{ on := 1, ground := Go.Ground.data }, { on := 11, ground := Go.Ground.data }, { on := 11, ground := Go.Ground.chain }], guard := none } : Oper)) rfl (fun KK hK => ?_) AllReadyH.nil)
                        go_simp
                        refine (HSP.out _ _ hBA (HUN.out _ _ _ hownA hBA)).mono ?_
                        rintro e1 U1 ⟨s1, s2, s3, rfl, hrowS, hl1⟩
                        try go_wp2_with fail
                        have hBU := bcat2 hBA hl1
                        refine hK.out _ _ ⟨below_cell hBU g0, below_cell hBU g1⟩ (fun hHeld => ?_)
                        clear hK
                        try simp only [Act.put, List.setIfInBounds_toArray, List.set_cons_zero, List.set_cons_succ]
                        refine wpAnyH_ready (rs := [13]) (by kernel_rfl) (by simp) (AllReadyH.cons (o := ({ dst := some 60, op := Go.Op.call { callee := Go.Callee.value (Go.Operand.tmp 47), args := #[Go.Operand.tmp 59], argTypes := #[22] }, type := 4, pos := _, after := #[{ on := 0, ground := Go.Ground.data }, { on := 12, ground := Go.Ground.data }, { on := 12, ground := Go.Ground.chain }], guard := none } : Oper)) rfl (fun KK hK => ?_) AllReadyH.nil)
                        go_simp
                        refine (HAD.out _ _ _ hBA.size hBU hrowS).mono ?_
                        rintro e2 U2 ⟨⟨bb, rfl⟩, hV2⟩
                        try go_wp2_with fail
                        refine hK.out _ _ ⟨hV2.box.two.1, hV2.box.two.2.1⟩ (fun hHeld => ?_)
                        clear hK
                        try simp only [Act.put, List.setIfInBounds_toArray, List.set_cons_zero, List.set_cons_succ]
                        refine wpAnyH_done (by kernel_rfl) ?_ _
                        have HV2 := hide hV2
                        clear hV2
                        go_wp2
                        go_roundw
                        case rel => exact ⟨k + 1, _, by omega, by go_num, HV2.out, HDS.out, HIL.out⟩
                        case measure => simp [intOf]; omega
                      · go_simp
                        refine hK.out _ _ hHeld (fun hHeld => ?_)
                        clear hK
                        try simp only [Act.put, List.setIfInBounds_toArray, List.set_cons_zero, List.set_cons_succ]
                        refine wpAnyH_ready (rs := [6]) (by kernel_rfl) (by simp) (AllReadyH.cons (o := ({ dst := some 53, op := Go.Op.call { callee := Go.Callee.builtin Go.Builtin.append, args := #[Go.Operand.const (Go.Value.slice none 0 0), Go.Operand.tmp 52], argTypes := #[22, 22] }, type := 22, pos := _, after := #[{ on := 5, ground := Go.Ground.data }], guard := none } : Oper)) rfl (fun KK hK => ?_) AllReadyH.nil)
                        refine step_append_lies _ rfl _ _ 22 rfl wq.heap.size 3 i0 (.int .i64 0) 1 8 under22b hi0 hz0 hz1 hz2 rfl (by decide) (.slice none 0 0) 0 [] rfl (World.ownsRow_nil _ _ _ _) ⟨xpb, xpo, none⟩ (li (lst n q)).length x3 ((li (lst n q)).map (Value.int .i64)) rfl HXM.out (HXN.out _ (bdrew (Below.refl _ wq))) HX1.out hxl0 HXL.out HXB.out (Nat.le_refl _) _ rfl ?_
                        intro g9 cap9 w9 hown9 hgrow9 hloc9 hlt9
                        have hB9 : Below wq.heap.size wq w9 := (bdrew (Below.refl _ wq)).grown hgrow9 (Nat.le_refl _) (by simp [Value.ownBlock])
                        rw [Nat.zero_add, List.nil_append] at hown9
                        have cob := below_cell hB9 cob
                        have ck := below_cell hB9 ck
                        refine hK.out _ _ ⟨below_cell hB9 g0, below_cell hB9 g1⟩ (fun hHeld => ?_)
                        clear hK hgrow9 hloc9 hlt9
                        try simp only [Act.put, List.setIfInBounds_toArray, List.set_cons_zero, List.set_cons_succ]
                        try simp only [Nat.zero_add]
                        refine wpAnyH_ready (rs := [11]) (by kernel_rfl) (by simp) (AllReadyH.cons (o := ({ dst := some 58, op := Go.Op.call { callee := Go.Callee.builtin Go.Builtin.append, args := #[Go.Operand.tmp 53, Go.Operand.tmp 57], argTypes := #[22, 22] }, type := 22, pos := _, after := #[{ on := 6, ground := Go.Ground.data }, { on := 10, ground := Go.Ground.data }, { on := 6, ground := Go.Ground.chain }], guard := none } : Oper)) rfl (fun KK hK => ?_) AllReadyH.nil)
                        refine step_append_lies _ rfl _ _ 22 rfl wq.heap.size 3 i0 (.int .i64 0) 1 8 under22b hi0 hz0 hz1 hz2 rfl (by decide) (.slice (some ⟨g9, 0, none⟩) (li (lst n q)).length cap9) (li (lst n q)).length _ rfl hown9 ⟨ypb, ypo, none⟩ (li (lst n r)).length y3 ((li (lst n r)).map (Value.int .i64)) rfl HYM.out (HYN.out _ hB9) HY1.out hyl0 HYL.out HYB.out hB9.size _ rfl ?_
                        intro gA capA wA hownA hgrowA hlocA hltA
                        have hBA : Below wq.heap.size wq wA := hB9.grown hgrowA hB9.size (fun j e => owns_ge hown9 j e)
                        refine hK.out _ _ ⟨below_cell hBA g0, below_cell hBA g1⟩ (fun hHeld => ?_)
                        clear hK
                        try simp only [Act.put, List.setIfInBounds_toArray, List.set_cons_zero, List.set_cons_succ]
                        refine wpAnyH_ready (rs := [12]) (by kernel_rfl) (by simp) (AllReadyH.cons (o := ({ dst := some 59, op := Go.Op.call { callee := Go.Callee.value (Go.Operand.func 15), args := #[Go.Operand.tmp 48, Go.Operand.tmp 58], argTypes := #[24, 22] }, type := 22, pos := _, after := #[{ on := 1, ground := Go.Ground.data }, { on := 11, ground := Go.Ground.data }, { on := 11, ground := Go.Ground.chain }], guard := none } : Oper)) rfl (fun KK hK => ?_) AllReadyH.nil)
                        go_simp
                        refine (HSP.out _ _ hBA (HUN.out _ _ _ hownA hBA)).mono ?_
                        rintro e1 U1 ⟨s1, s2, s3, rfl, hrowS, hl1⟩
                        try go_wp2_with fail
                        have hBU := bcat2 hBA hl1
                        refine hK.out _ _ ⟨below_cell hBU g0, below_cell hBU g1⟩ (fun hHeld => ?_)
                        clear hK
                        try simp only [Act.put, List.setIfInBounds_toArray, List.set_cons_zero, List.set_cons_succ]
                        refine wpAnyH_ready (rs := [13]) (by kernel_rfl) (by simp) (AllReadyH.cons (o := ({ dst := some 60, op := Go.Op.call { callee := Go.Callee.value (Go.Operand.tmp 47), args := #[Go.Operand.tmp 59], argTypes := #[22] }, type := 4, pos := _, after := #[{ on := 0, ground := Go.Ground.data }, { on := 12, ground := Go.Ground.data }, { on := 12, ground := Go.Ground.chain }], guard := none } : Oper)) rfl (fun KK hK => ?_) AllReadyH.nil)
                        go_simp
                        refine (HAD.out _ _ _ hBA.size hBU hrowS).mono ?_
                        rintro e2 U2 ⟨⟨bb, rfl⟩, hV2⟩
                        try go_wp2_with fail
                        refine hK.out _ _ ⟨hV2.box.two.1, hV2.box.two.2.1⟩ (fun hHeld => ?_)
                        clear hK
                        try simp only [Act.put, List.setIfInBounds_toArray, List.set_cons_zero, List.set_cons_succ]
                        refine wpAnyH_done (by kernel_rfl) ?_ _
                        have HV2 := hide hV2
                        clear hV2
                        go_wp2
                        go_roundw
                        case rel => exact ⟨k + 1, _, by omega, by go_num, HV2.out, HDS.out, HIL.out⟩
                        case measure => simp [intOf]; omega
                    · go_simp
                      refine hK.out _ _ hHeld (fun hHeld => ?_)
                      clear hK
                      try simp only [Act.put, List.setIfInBounds_toArray, List.set_cons_zero, List.set_cons_succ]
                      refine wpAnyH_ready (rs := [5]) (by kernel_rfl) (by simp) (AllReadyH.cons (o := ({ dst := some 52, op := Go.Op.load 22 (Go.Operand.tmp 51), type := 22, pos := _, after := #[{ on := 4, ground := Go.Ground.data }], guard := none } : Oper)) rfl (fun KK hK => ?_) AllReadyH.nil)
                      go_simp
                      refine hK.out _ _ hHeld (fun hHeld => ?_)
                      clear hK
                      try simp only [Act.put, List.setIfInBounds_toArray, List.set_cons_zero, List.set_cons_succ]
                      refine wpAnyH_ready (rs := [6]) (by kernel_rfl) (by simp) (AllReadyH.cons (o := ({ dst := some 53, op := Go.Op.call { callee := Go.Callee.builtin Go.Builtin.append, args := #[Go.Operand.const (Go.Value.slice none 0 0), Go.Operand.tmp 52], argTypes := #[22, 22] }, type := 22, pos := _, after := #[{ on := 5, ground := Go.Ground.data }], guard := none } : Oper)) rfl (fun KK hK => ?_) AllReadyH.nil)
                      refine step_append_lies _ rfl _ _ 22 rfl wq.heap.size 3 i0 (.int .i64 0) 1 8 under22b hi0 hz0 hz1 hz2 rfl (by decide) (.slice none 0 0) 0 [] rfl (World.ownsRow_nil _ _ _ _) ⟨xpb, xpo, none⟩ (li (lst n q)).length x3 ((li (lst n q)).map (Value.int .i64)) rfl HXM.out (HXN.out _ (bdrew (Below.refl _ wq))) HX1.out hxl0 HXL.out HXB.out (Nat.le_refl _) _ rfl ?_
                      intro g9 cap9 w9 hown9 hgrow9 hloc9 hlt9
                      have hB9 : Below wq.heap.size wq w9 := (bdrew (Below.refl _ wq)).grown hgrow9 (Nat.le_refl _) (by simp [Value.ownBlock])
                      rw [Nat.zero_add, List.nil_append] at hown9
                      have cob := below_cell hB9 cob
                      have ck := below_cell hB9 ck
                      refine hK.out _ _ ⟨below_cell hB9 g0, below_cell hB9 g1⟩ (fun hHeld => ?_)
                      clear hK hgrow9 hloc9 hlt9
                      try simp only [Act.put, List.setIfInBounds_toArray, List.set_cons_zero, List.set_cons_succ]
                      try simp only [Nat.zero_add]
                      refine wpAnyH_ready (rs := [11]) (by kernel_rfl) (by simp) (AllReadyH.cons (o := ({ dst := some 58, op := Go.Op.call { callee := Go.Callee.builtin Go.Builtin.append, args := #[Go.Operand.tmp 53, Go.Operand.tmp 57], argTypes := #[22, 22] }, type := 22, pos := _, after := #[{ on := 6, ground := Go.Ground.data }, { on := 10, ground := Go.Ground.data }, { on := 6, ground := Go.Ground.chain }], guard := none } : Oper)) rfl (fun KK hK => ?_) AllReadyH.nil)
                      refine step_append_lies _ rfl _ _ 22 rfl wq.heap.size 3 i0 (.int .i64 0) 1 8 under22b hi0 hz0 hz1 hz2 rfl (by decide) (.slice (some ⟨g9, 0, none⟩) (li (lst n q)).length cap9) (li (lst n q)).length _ rfl hown9 ⟨ypb, ypo, none⟩ (li (lst n r)).length y3 ((li (lst n r)).map (Value.int .i64)) rfl HYM.out (HYN.out _ hB9) HY1.out hyl0 HYL.out HYB.out hB9.size _ rfl ?_
                      intro gA capA wA hownA hgrowA hlocA hltA
                      have hBA : Below wq.heap.size wq wA := hB9.grown hgrowA hB9.size (fun j e => owns_ge hown9 j e)
                      refine hK.out _ _ ⟨below_cell hBA g0, below_cell hBA g1⟩ (fun hHeld => ?_)
                      clear hK
                      try simp only [Act.put, List.setIfInBounds_toArray, List.set_cons_zero, List.set_cons_succ]
                      refine wpAnyH_ready (rs := [12]) (by kernel_rfl) (by simp) (AllReadyH.cons (o := ({ dst := some 59, op := Go.Op.call { callee := Go.Callee.value (Go.Operand.func 15), args := #[Go.Operand.tmp 48, Go.Operand.tmp 58], argTypes := #[24, 22] }, type := 22, pos := _, after := #[{ on := 1, ground := Go.Ground.data }, { on := 11, ground := Go.Ground.data }, { on := 11, ground := Go.Ground.chain }], guard := none } : Oper)) rfl (fun KK hK => ?_) AllReadyH.nil)
                      go_simp
                      refine (HSP.out _ _ hBA (HUN.out _ _ _ hownA hBA)).mono ?_
                      rintro e1 U1 ⟨s1, s2, s3, rfl, hrowS, hl1⟩
                      try go_wp2_with fail
                      have hBU := bcat2 hBA hl1
                      refine hK.out _ _ ⟨below_cell hBU g0, below_cell hBU g1⟩ (fun hHeld => ?_)
                      clear hK
                      try simp only [Act.put, List.setIfInBounds_toArray, List.set_cons_zero, List.set_cons_succ]
                      refine wpAnyH_ready (rs := [13]) (by kernel_rfl) (by simp) (AllReadyH.cons (o := ({ dst := some 60, op := Go.Op.call { callee := Go.Callee.value (Go.Operand.tmp 47), args := #[Go.Operand.tmp 59], argTypes := #[22] }, type := 4, pos := _, after := #[{ on := 0, ground := Go.Ground.data }, { on := 12, ground := Go.Ground.data }, { on := 12, ground := Go.Ground.chain }], guard := none } : Oper)) rfl (fun KK hK => ?_) AllReadyH.nil)
                      go_simp
                      refine (HAD.out _ _ _ hBA.size hBU hrowS).mono ?_
                      rintro e2 U2 ⟨⟨bb, rfl⟩, hV2⟩
                      try go_wp2_with fail
                      refine hK.out _ _ ⟨hV2.box.two.1, hV2.box.two.2.1⟩ (fun hHeld => ?_)
                      clear hK
                      try simp only [Act.put, List.setIfInBounds_toArray, List.set_cons_zero, List.set_cons_succ]
                      refine wpAnyH_done (by kernel_rfl) ?_ _
                      have HV2 := hide hV2
                      clear hV2
                      go_wp2
                      go_roundw
                      case rel => exact ⟨k + 1, _, by omega, by go_num, HV2.out, HDS.out, HIL.out⟩
                      case measure => simp [intOf]; omega
                · go_simp
                  refine hK.out _ _ hHeld (fun hHeld => ?_)
                  clear hK
                  try simp only [Act.put, List.setIfInBounds_toArray, List.set_cons_zero, List.set_cons_succ]
                  refine wpAnyH_take (i := 9) (oi := ({ dst := some 56, op := Go.Op.indexAddr 25 (Go.Operand.tmp 54) (Go.Operand.tmp 55), type := 0, pos := _, after := #[{ on := 7, ground := Go.Ground.data }, { on := 8, ground := Go.Ground.data }], guard := none } : Oper)) (v := ?_) rfl (by kernel_rfl) (by kernel_rfl) (by kernel_rfl) (fun _ _ _ h => h) (Or.inl ⟨by rfl, ?_⟩) (by assumption) ?_
                  rotate_left
                  · (intro w hSw; (try dsimp only at hSw); go_simp; try with_reducible rfl)
                  simp only [Act.put, List.setIfInBounds_toArray, List.set_cons_zero, List.set_cons_succ]
                  refine wpAnyH_ready (rs := [2, 10]) (by kernel_rfl) (by simp) (AllReadyH.cons (o := ({ dst := some 49, op := Go.Op.load 25 (Go.Operand.tmp 3), type := 25, pos := _, after := #[], guard := none } : Oper)) rfl (fun KK hK => ?_) (AllReadyH.cons (o := ({ dst := some 57, op := Go.Op.load 22 (Go.Operand.tmp 56), type := 22, pos := _, after := #[{ on := 9, ground := Go.Ground.data }], guard := none } : Oper)) rfl (fun KK hK => ?_) AllReadyH.nil))
                  · go_simp
                    refine hK.out _ _ hHeld (fun hHeld => ?_)
                    clear hK
                    try simp only [Act.put, List.setIfInBounds_toArray, List.set_cons_zero, List.set_cons_succ]
                    refine wpAnyH_take (i := 4) (oi := ({ dst := some 51, op := Go.Op.indexAddr 25 (Go.Operand.tmp 49) (Go.Operand.tmp 50), type := 0, pos := _, after := #[{ on := 2, ground := Go.Ground.data }, { on := 3, ground := Go.Ground.data }], guard := none } : Oper)) (v := ?_) rfl (by kernel_rfl) (by kernel_rfl) (by kernel_rfl) (fun _ _ _ h => h) (Or.inl ⟨by rfl, ?_⟩) (by assumption) ?_
                    rotate_left
                    · (intro w hSw; (try dsimp only at hSw); go_simp; try with_reducible rfl)
                    simp only [Act.put, List.setIfInBounds_toArray, List.set_cons_zero, List.set_cons_succ]
                    refine wpAnyH_ready (rs := [5, 10]) (by kernel_rfl) (by simp) (AllReadyH.cons (o := ({ dst := some 52, op := Go.Op.load 22 (Go.Operand.tmp 51), type := 22, pos := _, after := #[{ on := 4, ground := Go.Ground.data }], guard := none } : Oper)) rfl (fun KK hK => ?_) (AllReadyH.cons (o := ({ dst := some 57, op := Go.Op.load 22 (Go.Operand.tmp 56), type := 22, pos := _, after := #[{ on := 9, ground := Go.Ground.data }], guard := none } : Oper)) rfl (fun KK hK => ?_) AllReadyH.nil))
                    · go_simp
                      refine hK.out _ _ hHeld (fun hHeld => ?_)
                      clear hK
                      try simp only [Act.put, List.setIfInBounds_toArray, List.set_cons_zero, List.set_cons_succ]
                      refine wpAnyH_ready (rs := [6, 10]) (by kernel_rfl) (by simp) (AllReadyH.cons (o := ({ dst := some 53, op := Go.Op.call { callee := Go.Callee.builtin Go.Builtin.append, args := #[Go.Operand.const (Go.Value.slice none 0 0), Go.Operand.tmp 52], argTypes := #[22, 22] }, type := 22, pos := _, after := #[{ on := 5, ground := Go.Ground.data }], guard := none } : Oper)) rfl (fun KK hK => ?_) (AllReadyH.cons (o := ({ dst := some 57, op := Go.Op.load 22 (Go.Operand.tmp 56), type := 22, pos := _, after := #[{ on := 9, ground := Go.Ground.data }], guard := none } : Oper)) rfl (fun KK hK => ?_) AllReadyH.nil))
                      · refine step_append_lies _ rfl _ _ 22 rfl wq.heap.size 3 i0 (.int .i64 0) 1 8 under22b hi0 hz0 hz1 hz2 rfl (by decide) (.slice none 0 0) 0 [] rfl (World.ownsRow_nil _ _ _ _) ⟨xpb, xpo, none⟩ (li (lst n q)).length x3 ((li (lst n q)).map (Value.int .i64)) rfl HXM.out (HXN.out _ (bdrew (Below.refl _ wq))) HX1.out hxl0 HXL.out HXB.out (Nat.le_refl _) _ rfl ?_
                        intro g9 cap9 w9 hown9 hgrow9 hloc9 hlt9
                        have hB9 : Below wq.heap.size wq w9 := (bdrew (Below.refl _ wq)).grown hgrow9 (Nat.le_refl _) (by simp [Value.ownBlock])
                        rw [Nat.zero_add, List.nil_append] at hown9
                        have cob := below_cell hB9 cob
                        have ck := below_cell hB9 ck
                        refine hK.out _ _ ⟨below_cell hB9 g0, below_cell hB9 g1⟩ (fun hHeld => ?_)
                        clear hK hgrow9 hloc9 hlt9
                        try simp only [Act.put, List.setIfInBounds_toArray, List.set_cons_zero, List.set_cons_succ]
                        try simp only [Nat.zero_add]
                        refine wpAnyH_ready (rs := [10]) (by kernel_rfl) (by simp) (AllReadyH.cons (o := ({ dst := some 57, op := Go.Op.load 22 (Go.Operand.tmp 56), type := 22, pos := _, after := #[{ on := 9, ground := Go.Ground.data }], guard := none } : Oper)) rfl (fun KK hK => ?_) AllReadyH.nil)
                        go_simp
                        refine hK.out _ _ hHeld (fun hHeld => ?_)
                        clear hK
                        try simp only [Act.put, List.setIfInBounds_toArray, List.set_cons_zero, List.set_cons_succ]
                        refine wpAnyH_ready (rs := [11]) (by kernel_rfl) (by simp) (AllReadyH.cons (o := ({ dst := some 58, op := Go.Op.call { callee := Go.Callee.builtin Go.Builtin.append, args := #[Go.Operand.tmp 53, Go.Operand.tmp 57], argTypes := #[22, 22] }, type := 22, pos := _, after := #[{ on := 6, ground := Go.Ground.data }, { on := 10, ground := Go.Ground.data }, { on := 6, ground := Go.Ground.chain }], guard := none } : Oper)) rfl (fun KK hK => ?_) AllReadyH.nil)
                        refine step_append_lies _ rfl _ _ 22 rfl wq.heap.size 3 i0 (.int .i64 0) 1 8 under22b hi0 hz0 hz1 hz2 rfl (by decide) (.slice (some ⟨g9, 0, none⟩) (li (lst n q)).length cap9) (li (lst n q)).length _ rfl hown9 ⟨ypb, ypo, none⟩ (li (lst n r)).length y3 ((li (lst n r)).map (Value.int .i64)) rfl HYM.out (HYN.out _ hB9) HY1.out hyl0 HYL.out HYB.out hB9.size _ rfl ?_
                        intro gA capA wA hownA hgrowA hlocA hltA
                        have hBA : Below wq.heap.size wq wA := hB9.grown hgrowA hB9.size (fun j e => owns_ge hown9 j e)
                        refine hK.out _ _ ⟨below_cell hBA g0, below_cell hBA g1⟩ (fun hHeld => ?_)
                        clear hK
                        try simp only [Act.put, List.setIfInBounds_toArray, List.set_cons_zero, List.set_cons_succ]
                        refine wpAnyH_ready (rs := [12]) (by kernel_rfl) (by simp) (AllReadyH.cons (o := ({ dst := some 59, op := Go.Op.call { callee := Go.Callee.value (Go.Operand.func 15), args := #[Go.Operand.tmp 48, Go.Operand.tmp 58], argTypes := #[24, 22] }, type := 22, pos := _, after := #[{ on := 1, ground := Go.Ground.data }, { on := 11, ground := Go.Ground.data }, { on := 11, ground := Go.Ground.chain }], guard := none } : Oper)) rfl (fun KK hK => ?_) AllReadyH.nil)
                        go_simp
                        refine (HSP.out _ _ hBA (HUN.out _ _ _ hownA hBA)).mono ?_
                        rintro e1 U1 ⟨s1, s2, s3, rfl, hrowS, hl1⟩
                        try go_wp2_with fail
                        have hBU := bcat2 hBA hl1
                        refine hK.out _ _ ⟨below_cell hBU g0, below_cell hBU g1⟩ (fun hHeld => ?_)
                        clear hK
                        try simp only [Act.put, List.setIfInBounds_toArray, List.set_cons_zero, List.set_cons_succ]
                        refine wpAnyH_ready (rs := [13]) (by kernel_rfl) (by simp) (AllReadyH.cons (o := ({ dst := some 60, op := Go.Op.call { callee := Go.Callee.value (Go.Operand.tmp 47), args := #[Go.Operand.tmp 59], argTypes := #[22] }, type := 4, pos := _, after := #[{ on := 0, ground := Go.Ground.data }, { on := 12, ground := Go.Ground.data }, { on := 12, ground := Go.Ground.chain }], guard := none } : Oper)) rfl (fun KK hK => ?_) AllReadyH.nil)
                        go_simp
                        refine (HAD.out _ _ _ hBA.size hBU hrowS).mono ?_
                        rintro e2 U2 ⟨⟨bb, rfl⟩, hV2⟩
                        try go_wp2_with fail
                        refine hK.out _ _ ⟨hV2.box.two.1, hV2.box.two.2.1⟩ (fun hHeld => ?_)
                        clear hK
                        try simp only [Act.put, List.setIfInBounds_toArray, List.set_cons_zero, List.set_cons_succ]
                        refine wpAnyH_done (by kernel_rfl) ?_ _
                        have HV2 := hide hV2
                        clear hV2
                        go_wp2
                        go_roundw
                        case rel => exact ⟨k + 1, _, by omega, by go_num, HV2.out, HDS.out, HIL.out⟩
                        case measure => simp [intOf]; omega
                      · go_simp
                        refine hK.out _ _ hHeld (fun hHeld => ?_)
                        clear hK
                        try simp only [Act.put, List.setIfInBounds_toArray, List.set_cons_zero, List.set_cons_succ]
                        refine wpAnyH_ready (rs := [6]) (by kernel_rfl) (by simp) (AllReadyH.cons (o := ({ dst := some 53, op := Go.Op.call { callee := Go.Callee.builtin Go.Builtin.append, args := #[Go.Operand.const (Go.Value.slice none 0 0), Go.Operand.tmp 52], argTypes := #[22, 22] }, type := 22, pos := _, after := #[{ on := 5, ground := Go.Ground.data }], guard := none } : Oper)) rfl (fun KK hK => ?_) AllReadyH.nil)
                        refine step_append_lies _ rfl _ _ 22 rfl wq.heap.size 3 i0 (.int .i64 0) 1 8 under22b hi0 hz0 hz1 hz2 rfl (by decide) (.slice none 0 0) 0 [] rfl (World.ownsRow_nil _ _ _ _) ⟨xpb, xpo, none⟩ (li (lst n q)).length x3 ((li (lst n q)).map (Value.int .i64)) rfl HXM.out (HXN.out _ (bdrew (Below.refl _ wq))) HX1.out hxl0 HXL.out HXB.out (Nat.le_refl _) _ rfl ?_
                        intro g9 cap9 w9 hown9 hgrow9 hloc9 hlt9
                        have hB9 : Below wq.heap.size wq w9 := (bdrew (Below.refl _ wq)).grown hgrow9 (Nat.le_refl _) (by simp [Value.ownBlock])
                        rw [Nat.zero_add, List.nil_append] at hown9
                        have cob := below_cell hB9 cob
                        have ck := below_cell hB9 ck
                        refine hK.out _ _ ⟨below_cell hB9 g0, below_cell hB9 g1⟩ (fun hHeld => ?_)
                        clear hK hgrow9 hloc9 hlt9
                        try simp only [Act.put, List.setIfInBounds_toArray, List.set_cons_zero, List.set_cons_succ]
                        try simp only [Nat.zero_add]
                        refine wpAnyH_ready (rs := [11]) (by kernel_rfl) (by simp) (AllReadyH.cons (o := ({ dst := some 58, op := Go.Op.call { callee := Go.Callee.builtin Go.Builtin.append, args := #[Go.Operand.tmp 53, Go.Operand.tmp 57], argTypes := #[22, 22] }, type := 22, pos := _, after := #[{ on := 6, ground := Go.Ground.data }, { on := 10, ground := Go.Ground.data }, { on := 6, ground := Go.Ground.chain }], guard := none } : Oper)) rfl (fun KK hK => ?_) AllReadyH.nil)
                        refine step_append_lies _ rfl _ _ 22 rfl wq.heap.size 3 i0 (.int .i64 0) 1 8 under22b hi0 hz0 hz1 hz2 rfl (by decide) (.slice (some ⟨g9, 0, none⟩) (li (lst n q)).length cap9) (li (lst n q)).length _ rfl hown9 ⟨ypb, ypo, none⟩ (li (lst n r)).length y3 ((li (lst n r)).map (Value.int .i64)) rfl HYM.out (HYN.out _ hB9) HY1.out hyl0 HYL.out HYB.out hB9.size _ rfl ?_
                        intro gA capA wA hownA hgrowA hlocA hltA
                        have hBA : Below wq.heap.size wq wA := hB9.grown hgrowA hB9.size (fun j e => owns_ge hown9 j e)
                        refine hK.out _ _ ⟨below_cell hBA g0, below_cell hBA g1⟩ (fun hHeld => ?_)
                        clear hK
                        try simp only [Act.put, List.setIfInBounds_toArray, List.set_cons_zero, List.set_cons_succ]
                        refine wpAnyH_ready (rs := [12]) (by kernel_rfl) (by simp) (AllReadyH.cons (o := ({ dst := some 59, op := Go.Op.call { callee := Go.Callee.value (Go.Operand.func 15), args := #[Go.Operand.tmp 48, Go.Operand.tmp 58], argTypes := #[24, 22] }, type := 22, pos := _, after := #[{ on := 1, ground := Go.Ground.data }, { on := 11, ground := Go.Ground.data }, { on := 11, ground := Go.Ground.chain }], guard := none } : Oper)) rfl (fun KK hK => ?_) AllReadyH.nil)
                        go_simp
                        refine (HSP.out _ _ hBA (HUN.out _ _ _ hownA hBA)).mono ?_
                        rintro e1 U1 ⟨s1, s2, s3, rfl, hrowS, hl1⟩
                        try go_wp2_with fail
                        have hBU := bcat2 hBA hl1
                        refine hK.out _ _ ⟨below_cell hBU g0, below_cell hBU g1⟩ (fun hHeld => ?_)
                        clear hK
                        try simp only [Act.put, List.setIfInBounds_toArray, List.set_cons_zero, List.set_cons_succ]
                        refine wpAnyH_ready (rs := [13]) (by kernel_rfl) (by simp) (AllReadyH.cons (o := ({ dst := some 60, op := Go.Op.call { callee := Go.Callee.value (Go.Operand.tmp 47), args := #[Go.Operand.tmp 59], argTypes := #[22] }, type := 4, pos := _, after := #[{ on := 0, ground := Go.Ground.data }, { on := 12, ground := Go.Ground.data }, { on := 12, ground := Go.Ground.chain }], guard := none } : Oper)) rfl (fun KK hK => ?_) AllReadyH.nil)
                        go_simp
                        refine (HAD.out _ _ _ hBA.size hBU hrowS).mono ?_
                        rintro e2 U2 ⟨⟨bb, rfl⟩, hV2⟩
                        try go_wp2_with fail
                        refine hK.out _ _ ⟨hV2.box.two.1, hV2.box.two.2.1⟩ (fun hHeld => ?_)
                        clear hK
                        try simp only [Act.put, List.setIfInBounds_toArray, List.set_cons_zero, List.set_cons_succ]
                        refine wpAnyH_done (by kernel_rfl) ?_ _
                        have HV2 := hide hV2
                        clear hV2
                        go_wp2
                        go_roundw
                        case rel => exact ⟨k + 1, _, by omega, by go_num, HV2.out, HDS.out, HIL.out⟩
                        case measure => simp [intOf]; omega
                    · go_simp
                      refine hK.out _ _ hHeld (fun hHeld => ?_)
                      clear hK
                      try simp only [Act.put, List.setIfInBounds_toArray, List.set_cons_zero, List.set_cons_succ]
                      refine wpAnyH_ready (rs := [5]) (by kernel_rfl) (by simp) (AllReadyH.cons (o := ({ dst := some 52, op := Go.Op.load 22 (Go.Operand.tmp 51), type := 22, pos := _, after := #[{ on := 4, ground := Go.Ground.data }], guard := none } : Oper)) rfl (fun KK hK => ?_) AllReadyH.nil)
                      go_simp
                      refine hK.out _ _ hHeld (fun hHeld => ?_)
                      clear hK
                      try simp only [Act.put, List.setIfInBounds_toArray, List.set_cons_zero, List.set_cons_succ]
                      refine wpAnyH_ready (rs := [6]) (by kernel_rfl) (by simp) (AllReadyH.cons (o := ({ dst := some 53, op := Go.Op.call { callee := Go.Callee.builtin Go.Builtin.append, args := #[Go.Operand.const (Go.Value.slice none 0 0), Go.Operand.tmp 52], argTypes := #[22, 22] }, type := 22, pos := _, after := #[{ on := 5, ground := Go.Ground.data }], guard := none } : Oper)) rfl (fun KK hK => ?_) AllReadyH.nil)
                      refine step_append_lies _ rfl _ _ 22 rfl wq.heap.size 3 i0 (.int .i64 0) 1 8 under22b hi0 hz0 hz1 hz2 rfl (by decide) (.slice none 0 0) 0 [] rfl (World.ownsRow_nil _ _ _ _) ⟨xpb, xpo, none⟩ (li (lst n q)).length x3 ((li (lst n q)).map (Value.int .i64)) rfl HXM.out (HXN.out _ (bdrew (Below.refl _ wq))) HX1.out hxl0 HXL.out HXB.out (Nat.le_refl _) _ rfl ?_
                      intro g9 cap9 w9 hown9 hgrow9 hloc9 hlt9
                      have hB9 : Below wq.heap.size wq w9 := (bdrew (Below.refl _ wq)).grown hgrow9 (Nat.le_refl _) (by simp [Value.ownBlock])
                      rw [Nat.zero_add, List.nil_append] at hown9
                      have cob := below_cell hB9 cob
                      have ck := below_cell hB9 ck
                      refine hK.out _ _ ⟨below_cell hB9 g0, below_cell hB9 g1⟩ (fun hHeld => ?_)
                      clear hK hgrow9 hloc9 hlt9
                      try simp only [Act.put, List.setIfInBounds_toArray, List.set_cons_zero, List.set_cons_succ]
                      try simp only [Nat.zero_add]
                      refine wpAnyH_ready (rs := [11]) (by kernel_rfl) (by simp) (AllReadyH.cons (o := ({ dst := some 58, op := Go.Op.call { callee := Go.Callee.builtin Go.Builtin.append, args := #[Go.Operand.tmp 53, Go.Operand.tmp 57], argTypes := #[22, 22] }, type := 22, pos := _, after := #[{ on := 6, ground := Go.Ground.data }, { on := 10, ground := Go.Ground.data }, { on := 6, ground := Go.Ground.chain }], guard := none } : Oper)) rfl (fun KK hK => ?_) AllReadyH.nil)
                      refine step_append_lies _ rfl _ _ 22 rfl wq.heap.size 3 i0 (.int .i64 0) 1 8 under22b hi0 hz0 hz1 hz2 rfl (by decide) (.slice (some ⟨g9, 0, none⟩) (li (lst n q)).length cap9) (li (lst n q)).length _ rfl hown9 ⟨ypb, ypo, none⟩ (li (lst n r)).length y3 ((li (lst n r)).map (Value.int .i64)) rfl HYM.out (HYN.out _ hB9) HY1.out hyl0 HYL.out HYB.out hB9.size _ rfl ?_
                      intro gA capA wA hownA hgrowA hlocA hltA
                      have hBA : Below wq.heap.size wq wA := hB9.grown hgrowA hB9.size (fun j e => owns_ge hown9 j e)
                      refine hK.out _ _ ⟨below_cell hBA g0, below_cell hBA g1⟩ (fun hHeld => ?_)
                      clear hK
                      try simp only [Act.put, List.setIfInBounds_toArray, List.set_cons_zero, List.set_cons_succ]
                      refine wpAnyH_ready (rs := [12]) (by kernel_rfl) (by simp) (AllReadyH.cons (o := ({ dst := some 59, op := Go.Op.call { callee := Go.Callee.value (Go.Operand.func 15), args := #[Go.Operand.tmp 48, Go.Operand.tmp 58], argTypes := #[24, 22] }, type := 22, pos := _, after := #[{ on := 1, ground := Go.Ground.data }, { on := 11, ground := Go.Ground.data }, { on := 11, ground := Go.Ground.chain }], guard := none } : Oper)) rfl (fun KK hK => ?_) AllReadyH.nil)
                      go_simp
                      refine (HSP.out _ _ hBA (HUN.out _ _ _ hownA hBA)).mono ?_
                      rintro e1 U1 ⟨s1, s2, s3, rfl, hrowS, hl1⟩
                      try go_wp2_with fail
                      have hBU := bcat2 hBA hl1
                      refine hK.out _ _ ⟨below_cell hBU g0, below_cell hBU g1⟩ (fun hHeld => ?_)
                      clear hK
                      try simp only [Act.put, List.setIfInBounds_toArray, List.set_cons_zero, List.set_cons_succ]
                      refine wpAnyH_ready (rs := [13]) (by kernel_rfl) (by simp) (AllReadyH.cons (o := ({ dst := some 60, op := Go.Op.call { callee := Go.Callee.value (Go.Operand.tmp 47), args := #[Go.Operand.tmp 59], argTypes := #[22] }, type := 4, pos := _, after := #[{ on := 0, ground := Go.Ground.data }, { on := 12, ground := Go.Ground.data }, { on := 12, ground := Go.Ground.chain }], guard := none } : Oper)) rfl (fun KK hK => ?_) AllReadyH.nil)
                      go_simp
                      refine (HAD.out _ _ _ hBA.size hBU hrowS).mono ?_
                      rintro e2 U2 ⟨⟨bb, rfl⟩, hV2⟩
                      try go_wp2_with fail
                      refine hK.out _ _ ⟨hV2.box.two.1, hV2.box.two.2.1⟩ (fun hHeld => ?_)
                      clear hK
                      try simp only [Act.put, List.setIfInBounds_toArray, List.set_cons_zero, List.set_cons_succ]
                      refine wpAnyH_done (by kernel_rfl) ?_ _
                      have HV2 := hide hV2
                      clear hV2
                      go_wp2
                      go_roundw
                      case rel => exact ⟨k + 1, _, by omega, by go_num, HV2.out, HDS.out, HIL.out⟩
                      case measure => simp [intOf]; omega
                  · go_simp
                    refine hK.out _ _ hHeld (fun hHeld => ?_)
                    clear hK
                    try simp only [Act.put, List.setIfInBounds_toArray, List.set_cons_zero, List.set_cons_succ]
                    refine wpAnyH_ready (rs := [2]) (by kernel_rfl) (by simp) (AllReadyH.cons (o := ({ dst := some 49, op := Go.Op.load 25 (Go.Operand.tmp 3), type := 25, pos := _, after := #[], guard := none } : Oper)) rfl (fun KK hK => ?_) AllReadyH.nil)
                    go_simp
                    refine hK.out _ _ hHeld (fun hHeld => ?_)
                    clear hK
                    try simp only [Act.put, List.setIfInBounds_toArray, List.set_cons_zero, List.set_cons_succ]
                    refine wpAnyH_take (i := 4) (oi := ({ dst := some 51, op := Go.Op.indexAddr 25 (Go.Operand.tmp 49) (Go.Operand.tmp 50), type := 0, pos := _, after := #[{ on := 2, ground := Go.Ground.data }, { on := 3, ground := Go.Ground.data }], guard := none } : Oper)) (v := ?_) rfl (by kernel_rfl) (by kernel_rfl) (by kernel_rfl) (fun _ _ _ h => h) (Or.inl ⟨by rfl, ?_⟩) (by assumption) ?_
                    rotate_left
                    · (intro w hSw; (try dsimp only at hSw); go_simp; try with_reducible rfl)
                    simp only [Act.put, List.setIfInBounds_toArray, List.set_cons_zero, List.set_cons_succ]
                    refine wpAnyH_ready (rs := [5]) (by kernel_rfl) (by simp) (AllReadyH.cons (o := ({ dst := some 52, op := Go.Op.load 22 (Go.Operand.tmp 51), type := 22, pos := _, after := #[{ on := 4, ground := Go.Ground.data }], guard := none } : Oper)) rfl (fun KK hK => ?_) AllReadyH.nil)
                    go_simp
                    refine hK.out _ _ hHeld (fun hHeld => ?_)
                    clear hK
                    try simp only [Act.put, List.setIfInBounds_toArray, List.set_cons_zero, List.set_cons_succ]
                    refine wpAnyH_ready (rs := [6]) (by kernel_rfl) (by simp) (AllReadyH.cons (o := ({ dst := some 53, op := Go.Op.call { callee := Go.Callee.builtin Go.Builtin.append, args := #[Go.Operand.const (Go.Value.slice none 0 0), Go.Operand.tmp 52], argTypes := #[22, 22] }, type := 22, pos := _, after := #[{ on := 5, ground := Go.Ground.data }], guard := none } : Oper)) rfl (fun KK hK => ?_) AllReadyH.nil)
                    refine step_append_lies _ rfl _ _ 22 rfl wq.heap.size 3 i0 (.int .i64 0) 1 8 under22b hi0 hz0 hz1 hz2 rfl (by decide) (.slice none 0 0) 0 [] rfl (World.ownsRow_nil _ _ _ _) ⟨xpb, xpo, none⟩ (li (lst n q)).length x3 ((li (lst n q)).map (Value.int .i64)) rfl HXM.out (HXN.out _ (bdrew (Below.refl _ wq))) HX1.out hxl0 HXL.out HXB.out (Nat.le_refl _) _ rfl ?_
                    intro g9 cap9 w9 hown9 hgrow9 hloc9 hlt9
                    have hB9 : Below wq.heap.size wq w9 := (bdrew (Below.refl _ wq)).grown hgrow9 (Nat.le_refl _) (by simp [Value.ownBlock])
                    rw [Nat.zero_add, List.nil_append] at hown9
                    have cob := below_cell hB9 cob
                    have ck := below_cell hB9 ck
                    refine hK.out _ _ ⟨below_cell hB9 g0, below_cell hB9 g1⟩ (fun hHeld => ?_)
                    clear hK hgrow9 hloc9 hlt9
                    try simp only [Act.put, List.setIfInBounds_toArray, List.set_cons_zero, List.set_cons_succ]
                    try simp only [Nat.zero_add]
                    refine wpAnyH_ready (rs := [11]) (by kernel_rfl) (by simp) (AllReadyH.cons (o := ({ dst := some 58, op := Go.Op.call { callee := Go.Callee.builtin Go.Builtin.append, args := #[Go.Operand.tmp 53, Go.Operand.tmp 57], argTypes := #[22, 22] }, type := 22, pos := _, after := #[{ on := 6, ground := Go.Ground.data }, { on := 10, ground := Go.Ground.data }, { on := 6, ground := Go.Ground.chain }], guard := none } : Oper)) rfl (fun KK hK => ?_) AllReadyH.nil)
                    refine step_append_lies _ rfl _ _ 22 rfl wq.heap.size 3 i0 (.int .i64 0) 1 8 under22b hi0 hz0 hz1 hz2 rfl (by decide) (.slice (some ⟨g9, 0, none⟩) (li (lst n q)).length cap9) (li (lst n q)).length _ rfl hown9 ⟨ypb, ypo, none⟩ (li (lst n r)).length y3 ((li (lst n r)).map (Value.int .i64)) rfl HYM.out (HYN.out _ hB9) HY1.out hyl0 HYL.out HYB.out hB9.size _ rfl ?_
                    intro gA capA wA hownA hgrowA hlocA hltA
                    have hBA : Below wq.heap.size wq wA := hB9.grown hgrowA hB9.size (fun j e => owns_ge hown9 j e)
                    refine hK.out _ _ ⟨below_cell hBA g0, below_cell hBA g1⟩ (fun hHeld => ?_)
                    clear hK
                    try simp only [Act.put, List.setIfInBounds_toArray, List.set_cons_zero, List.set_cons_succ]
                    refine wpAnyH_ready (rs := [12]) (by kernel_rfl) (by simp) (AllReadyH.cons (o := ({ dst := some 59, op := Go.Op.call { callee := Go.Callee.value (Go.Operand.func 15), args := #[Go.Operand.tmp 48, Go.Operand.tmp 58], argTypes := #[24, 22] }, type := 22, pos := _, after := #[{ on := 1, ground := Go.Ground.data }, { on := 11, ground := Go.Ground.data }, { on := 11, ground := Go.Ground.chain }], guard := none } : Oper)) rfl (fun KK hK => ?_) AllReadyH.nil)
                    go_simp
                    refine (HSP.out _ _ hBA (HUN.out _ _ _ hownA hBA)).mono ?_
                    rintro e1 U1 ⟨s1, s2, s3, rfl, hrowS, hl1⟩
                    try go_wp2_with fail
                    have hBU := bcat2 hBA hl1
                    refine hK.out _ _ ⟨below_cell hBU g0, below_cell hBU g1⟩ (fun hHeld => ?_)
                    clear hK
                    try simp only [Act.put, List.setIfInBounds_toArray, List.set_cons_zero, List.set_cons_succ]
                    refine wpAnyH_ready (rs := [13]) (by kernel_rfl) (by simp) (AllReadyH.cons (o := ({ dst := some 60, op := Go.Op.call { callee := Go.Callee.value (Go.Operand.tmp 47), args := #[Go.Operand.tmp 59], argTypes := #[22] }, type := 4, pos := _, after := #[{ on := 0, ground := Go.Ground.data }, { on := 12, ground := Go.Ground.data }, { on := 12, ground := Go.Ground.chain }], guard := none } : Oper)) rfl (fun KK hK => ?_) AllReadyH.nil)
                    go_simp
                    refine (HAD.out _ _ _ hBA.size hBU hrowS).mono ?_
                    rintro e2 U2 ⟨⟨bb, rfl⟩, hV2⟩
                    try go_wp2_with fail
                    refine hK.out _ _ ⟨hV2.box.two.1, hV2.box.two.2.1⟩ (fun hHeld => ?_)
                    clear hK
                    try simp only [Act.put, List.setIfInBounds_toArray, List.set_cons_zero, List.set_cons_succ]
                    refine wpAnyH_done (by kernel_rfl) ?_ _
                    have HV2 := hide hV2
                    clear hV2
                    go_wp2
                    go_roundw
                    case rel => exact ⟨k + 1, _, by omega, by go_num, HV2.out, HDS.out, HIL.out⟩
                    case measure => simp [intOf]; omega
              · rw [hpt] at HPT
                have HDK := hide (HD.out.skip HQ.out HR.out (fun y hy hry => by
                  have h9 := List.all_eq_true.1 hpt (y : Int) (mem_li.2 (mem_lst.2 ⟨hy, hry⟩))
                  exact (mem_lst.1 (mem_li.1 (of_decide_eq_true h9))).2))
                clear hpt hxs hys hq hr hD hV hcl hra hbx hqs hrs hxl0 hyl0 hxln hyln
                go_wp2_with fail
                go_quiet ((go_at_call 39; exact Calls.quiet_of_same (HPT.out _)))
                have hBq : Below wr.heap.size wr (wr.drewN nq) := bdrewN (Below.refl _ wr) nq
                have HVq := hide (HV.out.below hBq)
                generalize wr.drewN nq = wq at HVq ⊢
                go_wp2
                go_roundw
                case rel => exact ⟨k + 1, P, by omega, by go_num, HVq.out, HDK.out, HIL0.out⟩
                case measure => simp [intOf]; omega
            · have hki : ¬ (k : Int) < (few : Int) := by omega
              have HDN := hide (hD.next (by omega))
              have HV := hide hV
              clear hV hD
              go_wp2
              go_roundw
              case rel => exact ⟨i + 1, P, by omega, by go_num, HV.out, HDN.out⟩
              case measure => simp [intOf]; omega
        · have hii : ¬ (i : Int) < (P.length : Int) := by omega
          have HFI := hide (hD.fin hg (by omega))
          have HV := hide hV
          clear hD hV hbx
          go_wp2
          obtain ⟨r, vs, hbx, hrow, hls⟩ := HV.out.ex
          have hvl := hls.1
          rw [LL_len] at hvl
          have hPp : 0 < P.length := by
            obtain ⟨p9, hp9, _⟩ := List.mem_map.1 HFI.out.one
            exact List.length_pos_of_mem hp9
          obtain ⟨g, K, rc, hre, hKe⟩ : ∃ g K rc, r = .slice (some ⟨g, 0, none⟩) K rc ∧ vs.length = K := by
            rcases hrow.2 with ⟨_, h0⟩ | ⟨g, cap, cur, hre, _⟩
            · omega
            · exact ⟨g, _, cap, hre, rfl⟩
          subst hre
          have hK9 : K ≤ 16777216 := by omega
          have HT0 := hide (show SgT w wr n (.slice v1 v2 v3) g K rc vs (LL n P) from ⟨HV.out.bel, HV.out.sz, hbx, by rw [hKe] at hrow; exact hrow, hls, hKe⟩)
          have HKP := hide (hKe.symm.trans hvl)
          have HST := hide (show ∃ (t : Nat) (us : List Value) (ms : List (List Int)), t ≤ K ∧ (.int .i64 0 : Value) = .int .i64 t ∧ SgT w wr n (.slice v1 v2 v3) g K rc us ms ∧ ms.Perm (LL n P) ∧ srtA ms t from ⟨0, vs, LL n P, Nat.zero_le _, rfl, HT0.out, List.Perm.refl _, fun a b h => by omega⟩)
          clear hrow hls hvl hKe hbx k0 HV
          go_loopw [9] (fun iv wr => ∃ (t : Nat) (us : List Value) (ms : List (List Int)), t ≤ K ∧ iv = .int .i64 t ∧ SgT w wr n (.slice v1 v2 v3) g K rc us ms ∧ ms.Perm (LL n P) ∧ srtA ms t) (fun iv _ => K - (intOf iv).toNat)
          case atStart => exact HST.out
          case round =>
            obtain ⟨s, us, ms, hsK, rfl, hT, hpm, hsr⟩ := hrel
            clear HST
            have k0 := hT.ob.cell
            by_cases hlt2 : s < K
            · have hsi : (s : Int) < (K : Int) := by omega
              have HST := hide (show ∃ (t : Nat) (us : List Value) (ms : List (List Int)), t ≤ K ∧ (.int .i64 ((s : Int) + 1) : Value) = .int .i64 t ∧ s < t ∧ SgT w wr n (.slice v1 v2 v3) g K rc us ms ∧ ms.Perm (LL n P) ∧ SrtB ms s t from ⟨s + 1, us, ms, by omega, by go_num, by omega, hT, hpm, SrtB.start hsr⟩)
              clear hT hpm hsr
              go_wp2
              clear k0
              go_loopw [10] (fun kv wr => ∃ (t : Nat) (us : List Value) (ms : List (List Int)), t ≤ K ∧ kv = .int .i64 t ∧ s < t ∧ SgT w wr n (.slice v1 v2 v3) g K rc us ms ∧ ms.Perm (LL n P) ∧ SrtB ms s t) (fun kv _ => K - (intOf kv).toNat)
              case atStart => exact HST.out
              case round =>
                obtain ⟨t, us, ms, htK, rfl, hst, hT, hpm, hsr⟩ := hrel
                clear HST
                have k0 := hT.ob.cell
                by_cases hlt3 : t < K
                · have hti : (t : Int) < (K : Int) := by omega
                  have hul := hT.ul
                  have hml : us.length = ms.length := hT.ls.1
                  obtain ⟨a, ha⟩ : ∃ a, us[s]? = some a := ⟨_, List.getElem?_eq_getElem (by omega)⟩
                  obtain ⟨b, hb⟩ : ∃ b, us[t]? = some b := ⟨_, List.getElem?_eq_getElem (by omega)⟩
                  obtain ⟨x, hx⟩ : ∃ x, ms[s]? = some x := ⟨_, List.getElem?_eq_getElem (by omega)⟩
                  obtain ⟨y, hy⟩ : ∃ y, ms[t]? = some y := ⟨_, List.getElem?_eq_getElem (by omega)⟩
                  obtain ⟨a1, a3, apb, apo, rfl, a4, a5, a6, a7, _, _⟩ := hT.ls.2 s a x ha hx
                  obtain ⟨b1, b3, bpb, bpo, rfl, b4, b5, b6, b7, _, _⟩ := hT.ls.2 t b y hb hy
                  have hsa : Sl wr (.slice a1 x.length a3) x := ⟨a1, a3, apb, apo, rfl, a4, a5, a6, a7⟩
                  have hsb : Sl wr (.slice b1 y.length b3) y := ⟨b1, b3, bpb, bpo, rfl, b4, b5, b6, b7⟩
                  have ca : wr.cell? ⟨g, s, none⟩ = some (.slice a1 x.length a3) := by
                    have := hT.row.cells (g := g) rfl s _ ha
                    rwa [addr_add'] at this
                  have cb : wr.cell? ⟨g, t, none⟩ = some (.slice b1 y.length b3) := by
                    have := hT.row.cells (g := g) rfl t _ hb
                    rwa [addr_add'] at this
                  have HSW := hide (fun W (h : Below wr.heap.size wr W) => (hT.below h).swap (by omega) (by omega) (by omega) ha hb hx hy)
                  have HSB := hide (fun W (h : Below wr.heap.size wr W) => hT.below h)
                  have HS1 := hide (fun (h : cmpN y x < 0) => And.intro ((swA_perm (by omega) (by omega) hx hy).trans hpm) (hsr.swap (by omega) (by omega) hx hy h))
                  have HS2 := hide (fun (h : ¬ cmpN y x < 0) => hsr.skip hx hy h)
                  have HPM := hide hpm
                  have HFR := hide (fun W (h : Below wr.heap.size wr W) j => (hT.below h).row.frozenAt j)
                  have hsi2 : (s : Int) < (K : Int) := by omega
                  have HGE := hide hT.ge
                  have hce := cmpN_eq y x
                  have HSA := hide hsa
                  have HSBl := hide hsb
                  clear hT hpm hsr ha hb hx hy a4 a5 a6 a7 b4 b5 b6 b7 hul hml hsa hsb
                  rcases Nat.lt_trichotomy y.length x.length with hln | hln | hln
                  · have hcn : cmpN y x < 0 := by
                      have h9 := cmpI_lt.2 (show ((y.length : Nat) : Int) < ((x.length : Nat) : Int) by omega)
                      rw [hce, if_pos (by omega)]; exact h9
                    have hli : ((y.length : Nat) : Int) < ((x.length : Nat) : Int) := by omega
                    obtain ⟨h1, h2⟩ := HS1.out hcn
                    have HP1 := hide h1
                    have HP2 := hide h2
                    generalize y.length = yl at *
                    generalize x.length = xl at *
                    clear hce hcn h1 h2
                    go_wp2_with fail
                    go_quiet (fail)
                    have hBq : Below wr.heap.size wr (wr.drewN nq) := bdrewN (Below.refl _ wr) nq
                    generalize wr.drewN nq = wq at hBq ⊢
                    have k0 := below_cell hBq k0
                    have ca := below_cell hBq ca
                    have cb := below_cell hBq cb
                    have fa := HFR.out _ hBq s
                    have fb := HFR.out _ hBq t
                    have HT3 := hide (HSW.out _ hBq)
                    have hst2 : ¬ s = t := by omega
                    have hgo : ¬ w.heap.size + 1 = g := by have := HGE.out; omega
                    have hgo2 : ¬ g = w.heap.size + 1 := by have := HGE.out; omega
                    go_wp2_with fail
                    go_region
                    all_goals (
                      go_wp2
                      go_roundw
                      case rel => exact ⟨t + 1, _, _, by omega, by go_num, by omega, HT3.out.below (bdrew (Below.refl _ _)), HP1.out, HP2.out⟩
                      case measure => simp [intOf]; omega)
                  · have HLE := hide (fun W (h : Below wr.heap.size wr W) => less_ok (.slice b1 y.length b3) (.slice a1 x.length a3) y x W (HSBl.out.below h) (HSA.out.below h) hln)
                    have hcn : cmpN y x < 0 ↔ cmpL y x < 0 := by
                      have h9 := cmpI_zero.2 (show ((y.length : Nat) : Int) = ((x.length : Nat) : Int) by omega)
                      rw [hce, if_neg (by omega)]
                    have hS : ∀ W, Below wr.heap.size wr W → (Below wr.heap.size wr W ∧ W.cell? ⟨w.heap.size + 1, 0, none⟩ = some (.slice (some ⟨g, 0, none⟩) K rc) ∧ W.cell? ⟨g, s, none⟩ = some (.slice a1 x.length a3) ∧ W.cell? ⟨g, t, none⟩ = some (.slice b1 y.length b3)) := fun W h => ⟨h, below_cell h k0, below_cell h ca, below_cell h cb⟩
                    have hS0 := hS _ (bdrew (Below.refl _ wr))
                    have hli : ¬ ((y.length : Nat) : Int) < ((x.length : Nat) : Int) := by omega
                    have hle : ((y.length : Nat) : Int) = ((x.length : Nat) : Int) := by omega
                    generalize y.length = yl at *
                    generalize x.length = xl at *
                    have hln := hln.symm
                    subst hln
                    by_cases hcl : cmpL y x < 0
                    · obtain ⟨h1, h2⟩ := HS1.out (hcn.2 hcl)
                      rw [show decide (cmpL y x < 0) = true from decide_eq_true hcl] at HLE
                      have HP1 := hide h1
                      have HP2 := hide h2
                      clear hce hcn h1 h2 hcl hle hli
                      go_wp2_with fail
                      clear k0 ca cb
                      go_region_held3 (fun W => Below wr.heap.size wr W ∧ W.cell? ⟨w.heap.size + 1, 0, none⟩ = some (.slice (some ⟨g, 0, none⟩) K rc) ∧ W.cell? ⟨g, s, none⟩ = some (.slice a1 xl a3) ∧ W.cell? ⟨g, t, none⟩ = some (.slice b1 xl b3))
                        (first | exact hS0 | assumption | exact hS _ (bcat2 (And.left ‹_›) hq1))
                        (first | (go_at_call 21; refine (HLE.out _ (And.left ‹_›)).mono ?_; rintro e1 W1 ⟨rfl, hq1⟩))
                      all_goals (
                        obtain ⟨hBq, k0, ca, cb⟩ := ‹Below wr.heap.size wr W1 ∧ _›
                        clear hq1 hS hS0 HLE
                        generalize W1 = wq at *
                        have fa := HFR.out _ hBq s
                        have fb := HFR.out _ hBq t
                        have HT3 := hide (HSW.out _ hBq)
                        have hst2 : ¬ s = t := by omega
                        have hgo : ¬ w.heap.size + 1 = g := by have := HGE.out; omega
                        have hgo2 : ¬ g = w.heap.size + 1 := by have := HGE.out; omega
                        go_wp2_with fail
                        go_region
                        all_goals (
                          go_wp2
                          go_roundw
                          case rel => exact ⟨t + 1, _, _, by omega, by go_num, by omega, HT3.out.below (bdrew (Below.refl _ _)), HP1.out, HP2.out⟩
                          case measure => simp [intOf]; omega))
                    · have HP2 := hide (HS2.out (fun h => hcl (hcn.1 h)))
                      rw [show decide (cmpL y x < 0) = false from decide_eq_false hcl] at HLE
                      clear hce hcn hcl hle hli
                      go_wp2_with fail
                      clear k0 ca cb
                      go_region_held3 (fun W => Below wr.heap.size wr W ∧ W.cell? ⟨w.heap.size + 1, 0, none⟩ = some (.slice (some ⟨g, 0, none⟩) K rc) ∧ W.cell? ⟨g, s, none⟩ = some (.slice a1 xl a3) ∧ W.cell? ⟨g, t, none⟩ = some (.slice b1 xl b3))
                        (first | exact hS0 | assumption | exact hS _ (bcat2 (And.left ‹_›) hq1))
                        (first | (go_at_call 21; refine (HLE.out _ (And.left ‹_›)).mono ?_; rintro e1 W1 ⟨rfl, hq1⟩))
                      all_goals (
                        have hBq := And.left ‹Below wr.heap.size wr W1 ∧ _›
                        go_wp2
                        go_roundw
                        case rel => exact ⟨t + 1, us, ms, by omega, by go_num, by omega, HSB.out W1 hBq, HPM.out, HP2.out⟩
                        case measure => simp [intOf]; omega)
                  · have hcn : ¬ cmpN y x < 0 := by
                      have h9 := @cmpI_lt (y.length : Int) (x.length : Int)
                      have h8 := @cmpI_zero (y.length : Int) (x.length : Int)
                      rw [hce, if_pos (by omega)]; omega
                    have HP2 := hide (HS2.out hcn)
                    have hli : ¬ ((y.length : Nat) : Int) < ((x.length : Nat) : Int) := by omega
                    have hle : ¬ ((y.length : Nat) : Int) = ((x.length : Nat) : Int) := by omega
                    have hlb : (((y.length : Nat) : Int) == ((x.length : Nat) : Int)) = false := by simp; omega
                    have hlc : decide (((y.length : Nat) : Int) < ((x.length : Nat) : Int)) = false := decide_eq_false (by omega)
                    have hld : decide (y.length < x.length) = false := decide_eq_false (by omega)
                    have hle2 : ¬ y.length = x.length := by omega
                    generalize y.length = yl at *
                    generalize x.length = xl at *
                    clear hce hcn
                    go_wp2_with fail
                    go_quiet (fail)
                    have hBq : Below wr.heap.size wr (wr.drewN nq) := bdrewN (Below.refl _ wr) nq
                    have HSq := hide (HSB.out _ hBq)
                    generalize wr.drewN nq = wq at HSq ⊢
                    go_wp2
                    go_roundw
                    case rel => exact ⟨t + 1, us, ms, by omega, by go_num, by omega, HSq.out, HPM.out, HP2.out⟩
                    case measure => simp [intOf]; omega
                · have hti : ¬ (t : Int) < (K : Int) := by omega
                  have HSF := hide (hsr.fin (by have h1 := hT.ls.1; have h2 := hT.ul; omega))
                  have HTT := hide hT
                  have HPM := hide hpm
                  clear hT hsr hpm
                  go_wp2
                  go_roundw
                  case rel => exact ⟨s + 1, us, ms, by omega, by go_num, HTT.out, HPM.out, HSF.out⟩
                  case measure => simp [intOf]; omega
            · have hsi : ¬ (s : Int) < (K : Int) := by omega
              have hml : ms.length ≤ s := by have h1 := hT.ls.1; have h2 := hT.ul; omega
              have HTT := hide hT
              have hul := hT.ul
              go_wp2
              go_ret
              exact ⟨⟨_, P, us, ms, rfl, HFI.out, hpm, fun a b h1 h2 => hsr a b (by omega) h1 h2, by rw [hul]; exact owns_mono HTT.out.row (by omega), HTT.out.ls.mono (by omega), HTT.out.bel⟩⟩
end Go.Proofs.YtgejngpioldhpaaGreatDoor

namespace Go.Proofs.YtgejngpioldhpaaGreatDoor
open Go Go.RowKit

set_option maxRecDepth 100000 in
set_option maxHeartbeats 2000000 in
theorem lists_any (v u : Value) (rs ts : List (List Int)) (w : World) (hv : SlL w v rs) (hu : SlL w u ts) :
    Calls Tryz.prog 36 #[v, u] w fun x w' => x = .returned (.bool (decide (rs = ts))) ∧ Below w.heap.size w w' := by
  obtain ⟨va, vc, vb, vo, rfl, v1, v2, v3, v4, v5⟩ := hv
  obtain ⟨ua, uc, ub, uo, rfl, u1, u2, u3, u4, u5⟩ := hu
  have hm1 : rs.length ≤ 9223372036854775807 := by unfold maxLen at v5; omega
  have hm2 : ts.length ≤ 9223372036854775807 := by unfold maxLen at u5; omega
  have HV := hide v2
  have HU := hide u2
  clear v2 u2 v5 u5
  by_cases hlen : rs.length = ts.length
  · have HLEN := hide hlen
    rw [hlen] at v1 v4 hm1 ⊢
    clear hlen
    go_enter Tryz.func36, Tryz.ntmps36
    go_wp2
    go_loopw [5] (fun i wr => ∃ k : Nat, k ≤ ts.length ∧ i = .int .i64 k ∧ (∀ t, t < k → rs[t]?.getD [] = ts[t]?.getD []) ∧ Below w.heap.size w wr) (fun i _ => ts.length - (intOf i).toNat)
    case atStart => exact ⟨0, Nat.zero_le _, rfl, fun t ht => by omega, Below.refl _ _⟩
    case round =>
      obtain ⟨k, hk, rfl, hno, hB⟩ := hrel
      have HNO := hide hno
      clear hno
      by_cases hlt : k < ts.length
      · obtain rfl := v1 (by omega)
        obtain rfl := u1 (by omega)
        obtain ⟨x, hx, hsx⟩ := HV.out k (by rw [HLEN.out]; exact hlt)
        obtain ⟨y, hy, hsy⟩ := HU.out k (by omega)
        obtain ⟨x1, x2, x3, rfl⟩ := hsx.isSlice
        obtain ⟨y1, y2, y3, rfl⟩ := hsy.isSlice
        have hx := below_cell hB hx
        have hy := below_cell hB hy
        have hki : (k : Int) < (ts.length : Int) := by omega
        have HI := hide (fun W (h : Below wr.heap.size wr W) => ints_any (.slice x1 x2 x3) (.slice y1 y2 y3) (rs[k]?.getD []) (ts[k]?.getD []) W ((hsx.below hB).below h) ((hsy.below hB).below h))
        have hS : ∀ W, Below wr.heap.size wr W → (Below wr.heap.size wr W ∧ W.cell? ⟨vb, vo + k, none⟩ = some (.slice x1 x2 x3) ∧ W.cell? ⟨ub, uo + k, none⟩ = some (.slice y1 y2 y3)) := fun W h => ⟨h, below_cell h hx, below_cell h hy⟩
        have hS0 := hS _ (bdrew (Below.refl _ wr))
        clear hx hy hsx hsy
        by_cases he : rs[k]?.getD [] = ts[k]?.getD []
        · rw [decide_eq_true he] at HI
          have HE := hide he
          clear he
          go_wp2_with fail
          go_region_held3 (fun W => Below wr.heap.size wr W ∧ W.cell? ⟨vb, vo + k, none⟩ = some (.slice x1 x2 x3) ∧ W.cell? ⟨ub, uo + k, none⟩ = some (.slice y1 y2 y3))
            (first | exact hS0 | assumption | exact hS _ (bcat2 (And.left ‹_›) hl1))
            (first | (go_at_call 38; refine (HI.out _ (And.left ‹_›)).mono ?_; rintro e1 U1 ⟨rfl, hl1⟩))
          all_goals (
            have hB9 := And.left ‹Below wr.heap.size wr U1 ∧ _›
            go_wp2
            go_roundw
            case rel => exact ⟨k + 1, by omega, by go_num, fun t ht => by
              by_cases e9 : t = k
              · subst e9; exact HE.out
              · exact HNO.out t (by omega), bcat2 hB hB9⟩
            case measure => simp [intOf]; omega)
        · rw [decide_eq_false he] at HI
          have HD := hide (show decide (rs = ts) = false from decide_eq_false (fun e => he (by rw [e])))
          clear he
          go_wp2_with fail
          go_region_held3 (fun W => Below wr.heap.size wr W ∧ W.cell? ⟨vb, vo + k, none⟩ = some (.slice x1 x2 x3) ∧ W.cell? ⟨ub, uo + k, none⟩ = some (.slice y1 y2 y3))
            (first | exact hS0 | assumption | exact hS _ (bcat2 (And.left ‹_›) hl1))
            (first | (go_at_call 38; refine (HI.out _ (And.left ‹_›)).mono ?_; rintro e1 U1 ⟨rfl, hl1⟩))
          all_goals (
            have hB9 := And.left ‹Below wr.heap.size wr U1 ∧ _›
            go_wp2
            go_ret
            exact ⟨by rw [HD.out]; rfl, bcat2 hB hB9⟩)
      · have HD := hide (show decide (rs = ts) = true from decide_eq_true (List.ext_getElem HLEN.out fun t h1 h2 => by
          have := HNO.out t (by have := HLEN.out; omega)
          rw [List.getElem?_eq_getElem h1, List.getElem?_eq_getElem h2] at this
          exact this))
        go_wp2
        go_ret
        exact ⟨by rw [HD.out]; rfl, hB⟩
  · have hli : ¬ ((rs.length : Nat) : Int) = ((ts.length : Nat) : Int) := by omega
    have HD := hide (show decide (rs = ts) = false from decide_eq_false (fun e => hlen (by rw [e])))
    go_enter Tryz.func36, Tryz.ntmps36
    go_wp2
    go_ret
    exact ⟨by rw [HD.out]; rfl, Below.refl _ _⟩
set_option maxRecDepth 100000 in
set_option maxHeartbeats 8000000 in
theorem lsas_good (k : Nat) (caps : Array Value) (sv : Value) (xs ys : List (List Int)) (w : World) (hs : SlL w sv xs)
    (hcall : ∀ W, Sem.run Tryz.prog (callFunc k caps) W = .ok (.enter k caps) W)
    (hk : ∀ W, Below w.heap.size w W → Calls Tryz.prog k caps W fun x w' => ∃ r, x = .returned r ∧ SlL w' r ys ∧ Below W.heap.size W w') :
    Calls Tryz.prog 11 #[sv, .agg #[.int .i64 0, .int .i64 0], .agg #[.int .i64 0, .int .i64 0], .func (.func k) #[] caps] w fun x w' => x = .returned (.bool (decide (xs = ys))) ∧ Below w.heap.size w w' := by
  have hF1 : Blk ((w.alloc (.cells #[.int .i64 0, .int .i64 0] 27)).alloc (.cells #[.int .i64 0, .int .i64 0] 27)) w.heap.size 27 [.int .i64 0, .int .i64 0] := (blk0 _ _).alloc _
  have hF2 := blk0 (w := w.alloc (.cells #[.int .i64 0, .int .i64 0] 27)) (T := 27) (.int .i64 0) (.int .i64 0)
  rw [World.size_alloc] at hF2
  have hb : Below w.heap.size w ((w.alloc (.cells #[.int .i64 0, .int .i64 0] 27)).alloc (.cells #[.int .i64 0, .int .i64 0] 27)) := (balloc w _).alloc (by simp) _
  obtain ⟨f0, f1, _, _⟩ := hF1.two
  obtain ⟨g0, g1, _, _⟩ := hF2.two
  have HK := hide hk
  clear hk
  go_enter Tryz.func11, Tryz.ntmps11
  go_wp2_with fail
  generalize (w.alloc (.cells #[.int .i64 0, .int .i64 0] 27)).alloc (.cells #[.int .i64 0, .int .i64 0] 27) = w0 at *
  refine (HK.out w0 hb).mono ?_
  rintro x w1 ⟨r, rfl, hr, hb1⟩
  go_wp2_with fail
  refine (lists_any sv r xs ys w1 (hs.below (bcat2 hb hb1)) hr).mono ?_
  rintro x w2 ⟨rfl, hb2⟩
  go_wp2
  go_ret
  exact ⟨rfl, bcat2 (bcat2 hb hb1) hb2⟩
set_option maxRecDepth 100000 in
set_option maxHeartbeats 8000000 in
theorem lsas_nil (k : Nat) (caps : Array Value) (c i : Int) (r : Value) (w : World) (_h0 : 0 < w.heap.size) (hr : SlL w r []) (hc : c ≠ 0) :
    Calls Tryz.prog 11 #[r, .agg #[.int .i64 c, .int .i64 i], .agg #[.int .i64 c, .int .i64 i], .func (.func k) #[] caps] w fun x w' => x = .returned (.bool true) ∧ Below w.heap.size w w' := by
  obtain ⟨ra, rc, _, _, rfl, _, _, _, _, _⟩ := hr
  have hcb : (c != 0) = true := by simpa using hc
  have hF1 : Blk ((w.alloc (.cells #[.int .i64 c, .int .i64 i] 27)).alloc (.cells #[.int .i64 c, .int .i64 i] 27)) w.heap.size 27 [.int .i64 c, .int .i64 i] := (blk0 _ _).alloc _
  have hF2 := blk0 (w := w.alloc (.cells #[.int .i64 c, .int .i64 i] 27)) (T := 27) (.int .i64 c) (.int .i64 i)
  rw [World.size_alloc] at hF2
  have hb : Below w.heap.size w ((w.alloc (.cells #[.int .i64 c, .int .i64 i] 27)).alloc (.cells #[.int .i64 c, .int .i64 i] 27)) := (balloc w _).alloc (by simp) _
  obtain ⟨f0, f1, _, _⟩ := hF1.two
  obtain ⟨g0, g1, _, _⟩ := hF2.two
  show Calls Tryz.prog 11 #[.slice ra 0 rc, .agg #[.int .i64 c, .int .i64 i], .agg #[.int .i64 c, .int .i64 i], .func (.func k) #[] caps] w _
  go_enter Tryz.func11, Tryz.ntmps11
  go_wp2
  go_ret
  exact ⟨rfl, hb⟩
end Go.Proofs.YtgejngpioldhpaaGreatDoor
