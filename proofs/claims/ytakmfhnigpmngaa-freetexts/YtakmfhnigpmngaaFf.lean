/- What the document's Reduced makes of a word: the same reduced word, in a row of its own. -/
import Derived.Test.YtakmfhnigpmngaaFe
import Derived.Deep.RegionLaw
namespace Go.Proofs.Ytakmfhnigpmngaa
open Go Go.RowKit

theorem below_setCells {B g : Nat} {A : World} (hg : B ≤ g) : ∀ (vs : List Value) (o : Nat) {w : World}, Below B A w → Below B A (w.setCells g o vs)
  | [], _, _, h => h
  | v :: r, o, _, h => below_setCells hg r (o + 1) (h.setCell (p := ⟨g, o, none⟩) hg v)
theorem size_setCells (g : Nat) : ∀ (vs : List Value) (o : Nat) (w : World), (w.setCells g o vs).heap.size = w.heap.size
  | [], _, _ => rfl
  | v :: r, o, w => by
    show ((w.setCell ⟨g, o, none⟩ v).setCells g (o + 1) r).heap.size = _
    rw [size_setCells g r, size_set]
theorem Blk.setCells {e : TypeId} {g : Nat} : ∀ (news : List Value) (o : Nat) {W : World} {vs : List Value}, Blk W g e vs → o + news.length ≤ vs.length → Blk (W.setCells g o news) g e (vs.take o ++ news ++ vs.drop (o + news.length))
  | [], o, W, vs, h, _ => by simpa [World.setCells] using h
  | v :: r, o, W, vs, h, hl => by
    have h1 := Blk.setCells r (o + 1) (h.set o v) (by simp at hl ⊢; omega)
    show Blk ((W.setCell ⟨g, o, none⟩ v).setCells g (o + 1) r) g e _
    have ho : o < vs.length := by simp at hl; omega
    have e1 : (vs.set o v).take (o + 1) = vs.take o ++ [v] := by
      rw [List.take_set, List.take_succ_eq_append_getElem ho, List.set_append_right _ _ (by simp; omega)]
      simp [Nat.min_eq_left (Nat.le_of_lt ho)]
    have e2 : (vs.set o v).drop (o + 1 + r.length) = vs.drop (o + (v :: r).length) := by
      rw [List.drop_set_of_lt (by omega)]
      simp; congr 1; omega
    rw [e1, e2] at h1
    simpa using h1
theorem own_splice {W : World} {B n g cap : Nat} {e : TypeId} {xs : List Value} (h : W.ownsRow B e 1 (.slice (some ⟨g, 0, none⟩) n cap) n xs) {k : Nat} (hk : k ≤ n) (news : List Value) {m : Nat} (hm : m = k + news.length) (hc : m ≤ cap) :
    (W.setCells g k news).ownsRow B e 1 (.slice (some ⟨g, 0, none⟩) m cap) m (xs.take k ++ news) := by
  subst hm
  have hx := h.1
  rcases h.2 with ⟨h0, _⟩ | ⟨g', cap', cur, hv, h1, h2, h3, h4, h5, h6⟩
  · cases h0
  · injection hv with e1 _ e2
    injection e1 with e1
    injection e1 with e1
    subst e1 e2
    have hb : Blk W g e cur.toList := by
      show W.heap[g]? = _
      rw [h2]
    have hb2 := Blk.setCells news k hb (by simp; omega)
    refine ⟨by simp [List.length_take]; omega, .inr ⟨g, cap, _, rfl, h1, hb2, hc, h4, ?_, ?_⟩⟩
    · simp; omega
    · rw [Nat.mul_one, List.take_append_of_le_length (by simp [List.length_take]; omega)]
      rw [List.take_of_length_le (by simp [List.length_take]; omega)]
      rw [← h6, List.take_take]
      congr 2
      omega

theorem Rd.snoc {a : List Int} {x y : Int} (h : Rd (a ++ [x])) (hxy : x ≠ -y) : Rd (a ++ [x] ++ [y]) := by
  have h1 : Rd (a ++ [x]).reverse := h.rev
  rw [List.reverse_append, List.reverse_singleton, List.singleton_append] at h1
  have h2 : Rd (y :: x :: a.reverse) := Rd.cons (fun e => hxy (by omega)) h1
  have h3 := h2.rev
  simpa using h3
theorem rd_short {a : List Int} (h : a.length ≤ 1) : Rd a := fun i x y h1 h2 => by
  have := (List.getElem?_eq_some_iff.1 h2).1
  omega
/-- What is left of a word while pairs are taken away from it, at a place up to which it is reduced. -/
structure RedI (zs cur : List Int) (k : Nat) : Prop where
  same : stk [] cur = stk [] zs
  rd : Rd (cur.take (k + 1))
  lt : Lt cur
  len : cur.length ≤ zs.length
  at_ : k ≤ cur.length
theorem RedI.start {zs : List Int} (h : Lt zs) : RedI zs zs 0 := ⟨rfl, rd_short (by simp [List.length_take]; omega), h, Nat.le_refl _, Nat.zero_le _⟩
theorem RedI.done {zs cur : List Int} {k : Nat} (h : RedI zs cur k) (hk : cur.length ≤ k + 1) : cur = red zs := by
  have h1 := h.rd
  rw [List.take_of_length_le hk] at h1
  have h2 := h.same
  unfold red
  rw [← h2]
  exact (red_of_rd h1).symm
theorem two_split {cur : List Int} {k : Nat} (hk : k + 1 < cur.length) : cur = cur.take k ++ (cur[k]?.getD 0) :: (cur[k + 1]?.getD 0) :: cur.drop (k + 2) := by
  conv => lhs; rw [← List.take_append_drop k cur]
  congr 1
  rw [List.drop_eq_getElem_cons (by omega), List.drop_eq_getElem_cons (by omega)]
  simp [hk, show k < cur.length by omega]
theorem RedI.cut {zs cur : List Int} {k : Nat} (h : RedI zs cur k) (hk : k + 1 < cur.length) (he : cur[k]?.getD 0 = -(cur[k + 1]?.getD 0)) : RedI zs (cur.take k ++ cur.drop (k + 2)) (k - 1) := by
  have e := two_split hk
  refine ⟨?_, ?_, ?_, ?_, ?_⟩
  · rw [← h.same]
    conv => rhs; rw [e]
    rw [show cur[k + 1]?.getD 0 = -(cur[k]?.getD 0) by omega, stk_cancel Rd.nil]
  · by_cases h0 : k = 0
    · subst h0; exact rd_short (by simp [List.length_take]; omega)
    · rw [show k - 1 + 1 = k by omega, List.take_append_of_le_length (by simp; omega), List.take_take, Nat.min_self]
      have := h.rd
      rw [List.take_succ_eq_append_getElem (by omega)] at this
      exact this.left
  · exact fun x hx => h.lt x (by
      rcases List.mem_append.1 hx with h1 | h1
      · exact List.mem_of_mem_take h1
      · exact List.mem_of_mem_drop h1)
  · have := h.len
    simp; omega
  · simp; omega
theorem RedI.next {zs cur : List Int} {k : Nat} (h : RedI zs cur k) (hk : k + 1 < cur.length) (he : ¬ cur[k]?.getD 0 = -(cur[k + 1]?.getD 0)) : RedI zs cur (k + 1) := by
  refine ⟨h.same, ?_, h.lt, h.len, by omega⟩
  rw [take_snoc' (zs := cur) (k := k + 1) (by omega), take_snoc' (zs := cur) (k := k) (by omega)]
  have := h.rd
  rw [take_snoc' (zs := cur) (k := k) (by omega)] at this
  exact this.snoc he

set_option maxRecDepth 100000 in
set_option maxHeartbeats 4000000 in
theorem reduced_ok (v : Value) (zs : List Int) (w : World) (hv : Sl w v zs) (hlt : Lt zs) (hsm : zs.length ≤ 4000000) :
    Calls Try.prog 24 #[v] w fun e w' => ∃ r, e = .returned r ∧ Row w' w.heap.size r (red zs) ∧ Below w.heap.size w w' := by
  obtain ⟨i0, hi, hz0, hz1, hz2⟩ := info_parts info3b
  obtain ⟨a, cap, pb, po, rfl, hr, hp, hcap, hcm⟩ := id hv
  unfold maxLen at hcm
  have HI := hide (RedI.start hlt)
  clear hlt
  rcases Nat.eq_zero_or_pos zs.length with hz | hpos
  · have hz : zs = [] := List.length_eq_zero_iff.1 hz
    subst hz
    cases a with
    | none =>
      go_enter Try.func24, Try.ntmps24
      go_wp2
      go_loopw [0, 3] (fun o i wr => o = .slice none 0 0 ∧ i = .int .i64 0 ∧ wr = w) (fun _ _ _ => 0)
      case atStart => exact ⟨rfl, rfl, rfl⟩
      case round =>
        obtain ⟨rfl, rfl, rfl⟩ := hrel
        go_wp2
        go_ret
        exact ⟨_, rfl, nil_row _ _, Below.refl _ _⟩
    | some x =>
      go_enter Try.func24, Try.ntmps24
      go_wp2
      go_loopw [0, 3] (fun o i wr => o = .slice none 0 0 ∧ i = .int .i64 0 ∧ wr = w) (fun _ _ _ => 0)
      case atStart => exact ⟨rfl, rfl, rfl⟩
      case round =>
        obtain ⟨rfl, rfl, rfl⟩ := hrel
        go_wp2
        go_ret
        exact ⟨_, rfl, nil_row _ _, Below.refl _ _⟩
  · obtain rfl := hr.at_ hpos
    go_enter Try.func24, Try.ntmps24
    go_wp2_with (first
      | (at_builtin; refine wpList_append_grows _ rfl _ _ 22 rfl 3 i0 (.int .i64 0) 1 8 under22b hi hz0 hz1 hz2 rfl (by decide) none 0 0 [] rfl (fun _ => ⟨rfl, rfl⟩) rfl (fun b hb => by cases hb) ⟨pb, po, none⟩ zs.length cap (zs.map (Value.int .i64)) rfl (by simp) ?c1 ?c2 ?c3 ?c4 ?c5 ?_))
    case c1 =>
      intro j v hj
      rw [List.getElem?_map] at hj
      obtain ⟨z, hz, rfl⟩ := Option.map_eq_some_iff.1 hj
      have hjl := (List.getElem?_eq_some_iff.1 hz).1
      have := hr.cell j hjl
      rw [hz] at this
      rw [show (⟨pb, po, none⟩ : Addr).add j = ⟨pb, po + j, none⟩ by unfold Addr.add; split <;> simp_all]
      exact this
    case c2 => intro v hv; obtain ⟨z, _, rfl⟩ := List.mem_map.1 hv; rfl
    case c3 => omega
    case c4 => unfold maxLen; omega
    case c5 => omega
    intro v1 w1 hown hg
    have hB1 : Below w.heap.size w w1 := (Below.refl _ w).grown hg (Nat.le_refl _) (by simp)
    have hrow1 : Row w1 w.heap.size v1 zs := by unfold Row; simpa using hown
    obtain ⟨m1, hm1⟩ : ∃ m, zs.length = m + 1 := ⟨zs.length - 1, by omega⟩
    obtain ⟨g1, cap1, rfl⟩ : ∃ g c, v1 = .slice (some ⟨g, 0, none⟩) zs.length c := by
      have h9 : w1.ownsRow w.heap.size 3 1 v1 (m1 + 1) (zs.map (Value.int .i64)) := by rw [← hm1]; exact hrow1
      obtain ⟨g, c, h⟩ := ownsRow_succ h9
      exact ⟨g, c, by rw [h, hm1]⟩
    clear hown hg hm1
    go_wp2
    go_loopw [0, 3] (fun o i wr => ∃ (cur : List Int) (k g c : Nat), o = .slice (some ⟨g, 0, none⟩) cur.length c ∧ i = .int .i64 k ∧ Row wr w.heap.size o cur ∧ RedI zs cur k ∧ Below w.heap.size w wr) (fun o i _ => 2 * lenOf o - (intOf i).toNat)
    case atStart => exact ⟨zs, 0, g1, cap1, rfl, rfl, hrow1, HI.out, hB1⟩
    case round =>
      clear hrow1 hB1
      obtain ⟨cur, k, g, c, rfl, rfl, hrow, hinv, hB⟩ := hrel
      have HV := hide hinv
      have hk1 := hinv.at_
      have hk2 := hinv.len
      have hBs := hB.size
      clear hinv
      by_cases hk : k + 1 < cur.length
      · obtain ⟨hx1, hx2⟩ := lt_neg (HV.out.lt.at (show k < cur.length by omega))
        obtain ⟨hy1, hy2⟩ := lt_neg (HV.out.lt.at hk)
        have HCUT := hide (fun h => HV.out.cut hk h)
        have HNX := hide (fun h => HV.out.next hk h)
        have hgc : cur.length ≤ c ∧ c ≤ maxLen ∧ w.heap.size ≤ g := by
          rcases hrow.2 with ⟨h0, _⟩ | ⟨g', cap', cu, hv, h1, _, h3, h4, _⟩
          · cases h0
          · injection hv with e1 _ e2
            injection e1 with e1
            injection e1 with e1
            subst e1 e2
            exact ⟨h3, h4, h1⟩
        obtain ⟨hgc1, hgc2, hgb⟩ := hgc
        unfold maxLen at hgc2
        have hcell : ∀ j, j < cur.length → wr.cell? ⟨g, j, none⟩ = some (.int .i64 (cur[j]?.getD 0)) := fun j hj => by
          have h3 := World.ownsRow.cells hrow (g := g) rfl j (.int .i64 (cur[j]?.getD 0)) (by simp [hj])
          rw [show (⟨g, 0, none⟩ : Addr).add j = ⟨g, j, none⟩ by unfold Addr.add; split <;> simp_all] at h3
          exact h3
        have hcx := hcell k (by omega)
        have hcy := hcell (k + 1) hk
        have HCELL := hide hcell
        clear hcell
        have hki : (k : Int) < (cur.length : Int) := by omega
        have hki1 : (k : Int) + 1 < (cur.length : Int) := by omega
        obtain ⟨x, hxe⟩ : ∃ x, cur[k]?.getD 0 = x := ⟨_, rfl⟩
        obtain ⟨y, hye⟩ : ∃ y, cur[k + 1]?.getD 0 = y := ⟨_, rfl⟩
        rw [hxe] at hcx hx1 hx2
        rw [hye] at hcy hy1 hy2
        rw [hxe, hye] at HCUT HNX
        have HXE := hide hxe
        have HYE := hide hye
        clear hxe hye
        by_cases hxy : x = -y
        · have HC2 := hide (HCUT.out hxy)
          have hxb : (x == -y) = true := by simpa using hxy
          clear HCUT HNX hxy
          go_wp2
          go_quiet (fail)
          go_wp2
          have hfin : ∀ (W : World), W.heap = wr.heap → W.os = wr.os → W.tape = wr.tape → W.output = wr.output → Row (W.setCells g (0 + k * 1) ((cur.drop (k + 2)).map (Value.int .i64))) w.heap.size (.slice (some ⟨g, 0, none⟩) (k + (cur.length - (k + 2))) c) (cur.take k ++ cur.drop (k + 2)) ∧ Below w.heap.size w (W.setCells g (0 + k * 1) ((cur.drop (k + 2)).map (Value.int .i64))) := fun W h1 h2 h3 h4 => by
            have hrW : Row W w.heap.size (.slice (some ⟨g, 0, none⟩) cur.length c) cur := by
              have := hrow
              unfold Row World.ownsRow at this ⊢
              rw [h1]; exact this
            have hBW : Below w.heap.size w W := ⟨h2.trans hB.os, h3.trans hB.tape, h4.trans hB.output, by rw [h1]; exact hB.size, fun b hb => by rw [h1]; exact hB.block b hb⟩
            refine ⟨?_, below_setCells hgb _ _ hBW⟩
            have h5 := own_splice hrW (k := k) (by omega) ((cur.drop (k + 2)).map (Value.int .i64)) (m := k + (cur.length - (k + 2))) (by simp) (by omega)
            unfold Row
            rw [show 0 + k * 1 = k by omega, List.map_append, show (cur.take k ++ cur.drop (k + 2)).length = k + (cur.length - (k + 2)) by simp; omega, List.map_take]
            exact h5
          have hsrc : ∀ (W : World), W.heap = wr.heap → ∀ j u, ((cur.drop (k + 2)).map (Value.int .i64))[j]? = some u → W.cell? ((⟨g, k + 2, none⟩ : Addr).add j) = some u := fun W h1 j u hj => by
            rw [List.getElem?_map, List.getElem?_drop] at hj
            obtain ⟨z, hz, rfl⟩ := Option.map_eq_some_iff.1 hj
            have hjl := (List.getElem?_eq_some_iff.1 hz).1
            have := HCELL.out (k + 2 + j) hjl
            rw [hz] at this
            rw [show (⟨g, k + 2, none⟩ : Addr).add j = ⟨g, k + 2 + j, none⟩ by unfold Addr.add; split <;> simp_all]
            rw [World.cell?_of_block (a := ⟨g, k + 2 + j, none⟩) (w := wr) (by rw [h1])]; exact this
          have hspr : ∀ (W : World), W.heap = wr.heap → ∀ j, j < ((cur.drop (k + 2)).map (Value.int .i64)).length → (W.cell? ⟨g, 0 + k * 1 + j, none⟩).isSome = true ∧ W.frozen? ⟨g, 0 + k * 1 + j, none⟩ = false := fun W h1 j hj => by
            rw [List.length_map, List.length_drop] at hj
            rw [World.cell?_of_block (a := ⟨g, 0 + k * 1 + j, none⟩) (w := wr) (by rw [h1])]
            rw [show 0 + k * 1 + j = k + j by omega, HCELL.out (k + j) (by omega)]
            refine ⟨rfl, ?_⟩
            rcases hrow.2 with ⟨h0, _⟩ | ⟨g', cap', cu, hv, _, hh, _⟩
            · cases h0
            · injection hv with e1 _ e2
              injection e1 with e1
              injection e1 with e1
              subst e1 e2
              simp [World.frozen?, h1, hh]
          have HFIN := hide hfin
          have HSRC := hide hsrc
          have HSPR := hide hspr
          clear hfin hsrc hspr
          have hkk : (k : Int) + 2 ≤ (cur.length : Int) := by omega
          have hkc : (k : Int) + 2 ≤ (c : Int) := by omega
          have hkd : (k : Int) ≤ (c : Int) := by omega
          have hlc : (cur.length : Int) ≤ (c : Int) := by omega
          have hw2 : IntKind.i64.wrap ((k : Int) + 2) = (k : Int) + 2 := by rw [IntKind.wrap_i64]; omega
          have hk2n : ((k : Int) + 2).toNat = k + 2 := by omega
          have h02 : (0 : Int) ≤ (k : Int) + 2 := by omega
          have hB9' := fun (W : World) (h1 : W.heap = wr.heap) (h2 : W.os = wr.os) (h3 : W.tape = wr.tape) (h4 : W.output = wr.output) => HFIN.out W h1 h2 h3 h4
          have HF9 := hide (hB9' (wr.drewN nq).drew rfl rfl rfl rfl)
          have hs8 := HSPR.out (wr.drewN nq).drew rfl
          have hs7 := HSRC.out (wr.drewN nq).drew rfl
          have h18 : ∀ v, v ∈ ((cur.drop (k + 2)).map (Value.int .i64)) → v.oneCell' = true := by intro v hv; obtain ⟨z, _, rfl⟩ := List.mem_map.1 hv; rfl
          have hln : ((cur.drop (k + 2)).map (Value.int .i64)).length = (cur.length - (k + 2)) * 1 := by simp
          have hrm : k + (cur.length - (k + 2)) ≤ c := by omega
          have HLN := hide (show (cur.take k ++ cur.drop (k + 2)).length = k + (cur.length - (k + 2)) by simp; omega)
          have hBd : Below w.heap.size w (wr.drewN nq).drew := bdrew (bdrewN hB _)
          have hnil9 : c = k + 2 → (cur.drop (k + 2)).map (Value.int .i64) = [] := fun h => by
            rw [List.drop_eq_nil_of_le (by omega)]; rfl
          generalize (cur.drop (k + 2)).map (Value.int .i64) = news at *
          generalize cur.take k ++ cur.drop (k + 2) = cur2 at *
          clear hB9'
          have hB9 := HF9.out.2
          by_cases hkq : c = k + 2
          · have hn9 := hnil9 hkq
            have hs9 : ∀ j u, news[j]? = some u → (wr.drewN nq).drew.cell? ((⟨g, 0, none⟩ : Addr).add j) = some u := fun j u h => by rw [hn9] at h; cases h
            clear hn9 hnil9 hs7
            have hkk2 : (k : Int) ≤ (k : Int) + 2 := by omega
            subst hkq
            have e0 : cur.length - (k + 2) = 0 := by omega
            rw [e0] at HF9 HLN hln hrm
            clear e0
            go_wp2_with fail
            refine wp_region_held_drew (S := fun W => Below w.heap.size w W) (by kernel_rfl) hBd (fun hHeld => ?_)
            refine wpAnyH_take (i := 0) (oi := ({ dst := some 22, op := Go.Op.move (Go.Operand.tmp 0), type := 22, pos := _, after := _, guard := none } : Oper)) (v := ?_) rfl (by kernel_rfl) (by kernel_rfl) (by kernel_rfl) (fun _ _ _ h => h) (Or.inl ⟨by rfl, ?_⟩) (by assumption) ?_
            rotate_left
            · (intro w hSw; (try dsimp only at hSw); go_simp; try with_reducible rfl)
            simp only [Act.put, List.setIfInBounds_toArray, List.set_cons_zero, List.set_cons_succ]
            refine wpAnyH_take (i := 1) (oi := ({ dst := some 23, op := Go.Op.move (Go.Operand.tmp 3), type := 3, pos := _, after := _, guard := none } : Oper)) (v := ?_) rfl (by kernel_rfl) (by kernel_rfl) (by kernel_rfl) (fun _ _ _ h => h) (Or.inl ⟨by rfl, ?_⟩) (by assumption) ?_
            rotate_left
            · (intro w hSw; (try dsimp only at hSw); go_simp; try with_reducible rfl)
            simp only [Act.put, List.setIfInBounds_toArray, List.set_cons_zero, List.set_cons_succ]
            refine wpAnyH_take (i := 2) (oi := ({ dst := some 24, op := Go.Op.slice 22 (Go.Operand.tmp 22) none (some (Go.Operand.tmp 23)) none, type := 22, pos := _, after := _, guard := none } : Oper)) (v := ?_) rfl (by kernel_rfl) (by kernel_rfl) (by kernel_rfl) (fun _ _ _ h => h) (Or.inl ⟨by rfl, ?_⟩) (by assumption) ?_
            rotate_left
            · (intro w hSw; (try dsimp only at hSw); go_simp; try with_reducible rfl)
            simp only [Act.put, List.setIfInBounds_toArray, List.set_cons_zero, List.set_cons_succ]
            refine wpAnyH_take (i := 3) (oi := ({ dst := some 25, op := Go.Op.move (Go.Operand.tmp 0), type := 22, pos := _, after := _, guard := none } : Oper)) (v := ?_) rfl (by kernel_rfl) (by kernel_rfl) (by kernel_rfl) (fun _ _ _ h => h) (Or.inl ⟨by rfl, ?_⟩) (by assumption) ?_
            rotate_left
            · (intro w hSw; (try dsimp only at hSw); go_simp; try with_reducible rfl)
            simp only [Act.put, List.setIfInBounds_toArray, List.set_cons_zero, List.set_cons_succ]
            refine wpAnyH_take (i := 4) (oi := ({ dst := some 26, op := Go.Op.move (Go.Operand.tmp 3), type := 3, pos := _, after := _, guard := none } : Oper)) (v := ?_) rfl (by kernel_rfl) (by kernel_rfl) (by kernel_rfl) (fun _ _ _ h => h) (Or.inl ⟨by rfl, ?_⟩) (by assumption) ?_
            rotate_left
            · (intro w hSw; (try dsimp only at hSw); go_simp; try with_reducible rfl)
            simp only [Act.put, List.setIfInBounds_toArray, List.set_cons_zero, List.set_cons_succ]
            refine wpAnyH_take (i := 5) (oi := ({ dst := some 27, op := Go.Op.binOp Go.BinOp.add 3 (Go.Operand.tmp 26) (Go.Operand.const (Go.Value.int Go.IntKind.i64 2)) 3, type := 3, pos := _, after := _, guard := none } : Oper)) (v := ?_) rfl (by kernel_rfl) (by kernel_rfl) (by kernel_rfl) (fun _ _ _ h => h) (Or.inl ⟨by rfl, ?_⟩) (by assumption) ?_
            rotate_left
            · (intro w hSw; (try dsimp only at hSw); go_simp; try with_reducible rfl)
            simp only [Act.put, List.setIfInBounds_toArray, List.set_cons_zero, List.set_cons_succ]
            refine wpAnyH_take (i := 6) (oi := ({ dst := some 28, op := Go.Op.slice 22 (Go.Operand.tmp 25) (some (Go.Operand.tmp 27)) none none, type := 22, pos := _, after := _, guard := none } : Oper)) (v := ?_) rfl (by kernel_rfl) (by kernel_rfl) (by kernel_rfl) (fun _ _ _ h => h) (Or.inl ⟨by rfl, ?_⟩) (by assumption) ?_
            rotate_left
            · (intro w hSw; (try dsimp only at hSw); go_simp; try with_reducible rfl)
            simp only [Act.put, List.setIfInBounds_toArray, List.set_cons_zero, List.set_cons_succ]
            refine wpAnyH_ready (rs := [7]) (by kernel_rfl) (by simp) (AllReadyH.cons (o := ({ dst := some 29, op := Go.Op.call { callee := Go.Callee.builtin Go.Builtin.append, args := #[Go.Operand.tmp 24, Go.Operand.tmp 28], argTypes := #[22, 22] }, type := 22, pos := _, after := _, guard := none } : Oper)) rfl (fun KK hK => ?_) AllReadyH.nil)
            refine step_append_room rfl _ _ 22 rfl 3 i0 1 under22b hi hz1 g 0 k _ rfl ⟨g, 0, none⟩ 0 _ news rfl hln hs9 h18 hrm hs8 ?_
            generalize (wr.drewN nq).drew.setCells g (0 + k * 1) news = w9 at *
            refine hK.out _ _ hB9 (fun hHeld => ?_)
            clear hK
            try simp only [Act.put, List.setIfInBounds_toArray, List.set_cons_zero, List.set_cons_succ]
            refine wpAnyH_take (i := 8) (oi := ({ dst := some 0, op := Go.Op.assign (Go.Operand.tmp 29), type := 22, pos := _, after := _, guard := none } : Oper)) (v := ?_) rfl (by kernel_rfl) (by kernel_rfl) (by kernel_rfl) (fun _ _ _ h => h) (Or.inl ⟨by rfl, ?_⟩) (by assumption) ?_
            rotate_left
            · (intro w hSw; (try dsimp only at hSw); go_simp; try with_reducible rfl)
            simp only [Act.put, List.setIfInBounds_toArray, List.set_cons_zero]
            refine wpAnyH_done (by kernel_rfl) ?_ _
            by_cases hk0 : (k : Int) > 0
            · go_wp2
              go_roundw
              case rel => exact ⟨_, k - 1, g, k + 2, by rw [HLN.out]; rfl, by rw [show ((k - 1 : Nat) : Int) = (k : Int) - 1 by omega], HF9.out.1, HC2.out, HF9.out.2⟩
              case measure => simp [intOf, lenOf]; omega
            · have hk00 : k = 0 := by omega
              have HKK := hide hk00
              go_wp2
              go_roundw
              case rel => exact ⟨_, k - 1, g, k + 2, by rw [HLN.out]; rfl, by rw [HKK.out], HF9.out.1, HC2.out, HF9.out.2⟩
              case measure => simp [intOf, lenOf]; omega
          · have hs9 := hs7
            clear hnil9 hs7
            go_wp2_with fail
            refine wp_region_held_drew (S := fun W => Below w.heap.size w W) (by kernel_rfl) hBd (fun hHeld => ?_)
            refine wpAnyH_take (i := 0) (oi := ({ dst := some 22, op := Go.Op.move (Go.Operand.tmp 0), type := 22, pos := _, after := _, guard := none } : Oper)) (v := ?_) rfl (by kernel_rfl) (by kernel_rfl) (by kernel_rfl) (fun _ _ _ h => h) (Or.inl ⟨by rfl, ?_⟩) (by assumption) ?_
            rotate_left
            · (intro w hSw; (try dsimp only at hSw); go_simp; try with_reducible rfl)
            simp only [Act.put, List.setIfInBounds_toArray, List.set_cons_zero, List.set_cons_succ]
            refine wpAnyH_take (i := 1) (oi := ({ dst := some 23, op := Go.Op.move (Go.Operand.tmp 3), type := 3, pos := _, after := _, guard := none } : Oper)) (v := ?_) rfl (by kernel_rfl) (by kernel_rfl) (by kernel_rfl) (fun _ _ _ h => h) (Or.inl ⟨by rfl, ?_⟩) (by assumption) ?_
            rotate_left
            · (intro w hSw; (try dsimp only at hSw); go_simp; try with_reducible rfl)
            simp only [Act.put, List.setIfInBounds_toArray, List.set_cons_zero, List.set_cons_succ]
            refine wpAnyH_take (i := 2) (oi := ({ dst := some 24, op := Go.Op.slice 22 (Go.Operand.tmp 22) none (some (Go.Operand.tmp 23)) none, type := 22, pos := _, after := _, guard := none } : Oper)) (v := ?_) rfl (by kernel_rfl) (by kernel_rfl) (by kernel_rfl) (fun _ _ _ h => h) (Or.inl ⟨by rfl, ?_⟩) (by assumption) ?_
            rotate_left
            · (intro w hSw; (try dsimp only at hSw); go_simp; try with_reducible rfl)
            simp only [Act.put, List.setIfInBounds_toArray, List.set_cons_zero, List.set_cons_succ]
            refine wpAnyH_take (i := 3) (oi := ({ dst := some 25, op := Go.Op.move (Go.Operand.tmp 0), type := 22, pos := _, after := _, guard := none } : Oper)) (v := ?_) rfl (by kernel_rfl) (by kernel_rfl) (by kernel_rfl) (fun _ _ _ h => h) (Or.inl ⟨by rfl, ?_⟩) (by assumption) ?_
            rotate_left
            · (intro w hSw; (try dsimp only at hSw); go_simp; try with_reducible rfl)
            simp only [Act.put, List.setIfInBounds_toArray, List.set_cons_zero, List.set_cons_succ]
            refine wpAnyH_take (i := 4) (oi := ({ dst := some 26, op := Go.Op.move (Go.Operand.tmp 3), type := 3, pos := _, after := _, guard := none } : Oper)) (v := ?_) rfl (by kernel_rfl) (by kernel_rfl) (by kernel_rfl) (fun _ _ _ h => h) (Or.inl ⟨by rfl, ?_⟩) (by assumption) ?_
            rotate_left
            · (intro w hSw; (try dsimp only at hSw); go_simp; try with_reducible rfl)
            simp only [Act.put, List.setIfInBounds_toArray, List.set_cons_zero, List.set_cons_succ]
            refine wpAnyH_take (i := 5) (oi := ({ dst := some 27, op := Go.Op.binOp Go.BinOp.add 3 (Go.Operand.tmp 26) (Go.Operand.const (Go.Value.int Go.IntKind.i64 2)) 3, type := 3, pos := _, after := _, guard := none } : Oper)) (v := ?_) rfl (by kernel_rfl) (by kernel_rfl) (by kernel_rfl) (fun _ _ _ h => h) (Or.inl ⟨by rfl, ?_⟩) (by assumption) ?_
            rotate_left
            · (intro w hSw; (try dsimp only at hSw); go_simp; try with_reducible rfl)
            simp only [Act.put, List.setIfInBounds_toArray, List.set_cons_zero, List.set_cons_succ]
            refine wpAnyH_take (i := 6) (oi := ({ dst := some 28, op := Go.Op.slice 22 (Go.Operand.tmp 25) (some (Go.Operand.tmp 27)) none none, type := 22, pos := _, after := _, guard := none } : Oper)) (v := ?_) rfl (by kernel_rfl) (by kernel_rfl) (by kernel_rfl) (fun _ _ _ h => h) (Or.inl ⟨by rfl, ?_⟩) (by assumption) ?_
            rotate_left
            · (intro w hSw; (try dsimp only at hSw); go_simp; try with_reducible rfl)
            simp only [Act.put, List.setIfInBounds_toArray, List.set_cons_zero, List.set_cons_succ]
            refine wpAnyH_ready (rs := [7]) (by kernel_rfl) (by simp) (AllReadyH.cons (o := ({ dst := some 29, op := Go.Op.call { callee := Go.Callee.builtin Go.Builtin.append, args := #[Go.Operand.tmp 24, Go.Operand.tmp 28], argTypes := #[22, 22] }, type := 22, pos := _, after := _, guard := none } : Oper)) rfl (fun KK hK => ?_) AllReadyH.nil)
            refine step_append_room rfl _ _ 22 rfl 3 i0 1 under22b hi hz1 g 0 k _ rfl ⟨g, k + 2, none⟩ (cur.length - (k + 2)) _ news rfl hln hs9 h18 hrm hs8 ?_
            generalize (wr.drewN nq).drew.setCells g (0 + k * 1) news = w9 at *
            refine hK.out _ _ hB9 (fun hHeld => ?_)
            clear hK
            try simp only [Act.put, List.setIfInBounds_toArray, List.set_cons_zero, List.set_cons_succ]
            refine wpAnyH_take (i := 8) (oi := ({ dst := some 0, op := Go.Op.assign (Go.Operand.tmp 29), type := 22, pos := _, after := _, guard := none } : Oper)) (v := ?_) rfl (by kernel_rfl) (by kernel_rfl) (by kernel_rfl) (fun _ _ _ h => h) (Or.inl ⟨by rfl, ?_⟩) (by assumption) ?_
            rotate_left
            · (intro w hSw; (try dsimp only at hSw); go_simp; try with_reducible rfl)
            simp only [Act.put, List.setIfInBounds_toArray, List.set_cons_zero]
            refine wpAnyH_done (by kernel_rfl) ?_ _
            by_cases hk0 : (k : Int) > 0
            · go_wp2
              go_roundw
              case rel => exact ⟨_, k - 1, g, _, by rw [HLN.out], by rw [show ((k - 1 : Nat) : Int) = (k : Int) - 1 by omega], HF9.out.1, HC2.out, HF9.out.2⟩
              case measure => simp [intOf, lenOf]; omega
            · have hk00 : k = 0 := by omega
              have HKK := hide hk00
              go_wp2
              go_roundw
              case rel => exact ⟨_, k - 1, g, _, by rw [HLN.out], by rw [HKK.out], HF9.out.1, HC2.out, HF9.out.2⟩
              case measure => simp [intOf, lenOf]; omega
        · have HC2 := hide (HNX.out hxy)
          have hxb : (x == -y) = false := by simpa using hxy
          clear HCUT HNX hxy
          have hrow2 := hrow
          go_wp2
          go_quiet (fail)
          go_wp2
          go_roundw
          case rel => exact ⟨cur, k + 1, g, c, by trivial, by go_num, hrow2, HC2.out, bdrewN hB _⟩
          case measure => simp [intOf, lenOf]; omega
      · have he := HV.out.done (by omega)
        have HR := hide (show Row wr w.heap.size (.slice (some ⟨g, 0, none⟩) cur.length c) (red zs) by rw [← he]; exact hrow)
        clear he hrow
        go_wp2
        go_ret
        exact ⟨_, rfl, HR.out, hB⟩

end Go.Proofs.Ytakmfhnigpmngaa
