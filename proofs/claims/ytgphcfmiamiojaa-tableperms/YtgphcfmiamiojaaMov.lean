/- What moved of package table answers: a product of permutations in memory of its own; slices.Clone. No condition. -/
import Derived.Test.YtgphcfmiamiojaaIns
namespace Go.Proofs.Ytgphcfmiamiojaa.Pm
open Go Go.RowKit

set_option maxRecDepth 100000 in
set_option maxHeartbeats 2000000 in
theorem mul_blk (u v : Value) (xs ys : List Int) (w : World) (hu : Sl w u xs) (hv : Sl w v ys) (hx : IsPerm xs) (hy : IsPerm ys) (hl : xs.length = ys.length) (h1000 : xs.length ≤ 1000) :
    Calls Try.prog 37 #[u, v] w fun e w' => ∃ g, e = .returned (.tuple #[.slice (some ⟨g, 0, none⟩) xs.length xs.length, .agg #[.int .i64 0, .int .i64 0]]) ∧ Blk w' g 3 ((mulL xs ys).map (Value.int .i64)) ∧ w.heap.size ≤ g ∧ Below w.heap.size w w' := by
  obtain ⟨i0, hi, hz0, hz1, hz2⟩ := info_parts info3b
  have hB0 : Below w.heap.size w (w.alloc (.cells #[.int .i64 0, .int .i64 0] 29)) := (Below.refl _ w).alloc (Nat.le_refl _) _
  have hu0 := hu.below hB0
  have hv0 := hv.below hB0
  have hR0 := blk0 (w := w) (T := 29) (.int .i64 0) (.int .i64 0)
  obtain ⟨a, cap, pb, po, rfl, hr, hp, hq3, hq4⟩ := hu
  obtain ⟨b, cap', qb, qo, rfl, hs, hq, hq7, hq8⟩ := hv
  have htw := twof_ok hx hy hl h1000
  have HL := hide hl
  have hle1 : xs.length ≤ ys.length := by omega
  have hle2 : ys.length ≤ xs.length := by omega
  clear hl
  go_enter Try.func37, Try.ntmps37
  go_wp2_with fail
  refine (checkPair_any _ _ xs ys _ hu0 hv0).mono ?_
  rintro e w1 ⟨rfl, hl1⟩
  rw [htw]
  have hB1 := bcat hB0 hl1 (by simp)
  have hR1 : Blk w1 w.heap.size 29 [.int .i64 0, .int .i64 0] := hR0.of_eq (hl1.block _ (by simp))
  have hs1 : w.heap.size < w1.heap.size := hR1.lt
  have HTW := hide htw
  have HX := hide hx
  have HY := hide hy
  clear hl1 hu0 hv0 hR0 hB0 htw hx hy
  go_wp2_with (first
    | (at_make; refine wpList_make_full _ rfl _ _ 24 rfl (w1.heap.size + 1) 3 i0 (.int .i64 0) 1 under22b hi hz0 hz1 _ _ _ _ xs.length rfl rfl rfl rfl (by rw [hz2]; omega) (by unfold maxLen; omega) (by simp) ?_))
  intro w2 hown hg
  have hP2 : Blk w2 (w1.heap.size + 1) 3 ((fillTo (mulL xs ys) 0).map (Value.int .i64)) := by
    have := Blk.of_owns hown
    rw [made_rep] at this
    rw [fillTo_zero, List.map_replicate, mulL_len]; exact this
  have hB2 : Below w.heap.size w w2 := (hB1.alloc hB1.size _).grown hg (by simp; omega) (by simp)
  have hR2 : Blk w2 w.heap.size 29 [.int .i64 0, .int .i64 0] := (hR1.alloc _).grown hg (by simp)
  clear hown hg hB1 hR1
  go_wp2
  go_loopw [22] (fun i wr => ∃ k : Nat, k ≤ xs.length ∧ i = .int .i64 k ∧ Blk wr (w1.heap.size + 1) 3 ((fillTo (mulL xs ys) k).map (Value.int .i64)) ∧ Below w.heap.size w wr ∧ Blk wr w.heap.size 29 [.int .i64 0, .int .i64 0])
    (fun i _ => xs.length - (intOf i).toNat)
  case atStart => exact ⟨0, Nat.zero_le _, rfl, hP2, hB2, hR2⟩
  case round =>
    obtain ⟨k, hk, rfl, hPk, hBk, hRk⟩ := hrel
    clear hP2 hB2 hR2
    by_cases hlt : k < xs.length
    · have hn := nx_lt HX.out hlt
      have hcx := (hr.below hBk hp).cell k hlt
      have hcy := (hs.below hBk hq).cell (nx xs k) (by omega)
      rw [hn.2] at hcx
      obtain rfl := hr.at_ (by omega)
      obtain rfl := hs.at_ (by omega)
      have hgk : (mulL xs ys)[k]?.getD 0 = ys[nx xs k]?.getD 0 := mulL_get ys hlt
      have hfl := fillTo_len (L := mulL xs ys) (k := k) (by rw [mulL_len]; omega)
      rw [mulL_len] at hfl
      have hck : wr.cell? ⟨w1.heap.size + 1, k, none⟩ = some (.int .i64 ((fillTo (mulL xs ys) k)[k]?.getD 0)) := hPk.int (by rw [hfl]; omega)
      have hfk := hPk.frozen k
      have hset := hPk.setInt k (ys[nx xs k]?.getD 0)
      rw [← hgk, fillTo_set (by rw [mulL_len]; omega), hgk] at hset
      have HN := hide hn.2
      obtain ⟨hn1, _⟩ := hn
      generalize nx xs k = x at hcx hcy hn1 hset HN
      generalize ys[x]?.getD 0 = y at hcy hset
      generalize (fillTo (mulL xs ys) k)[k]?.getD 0 = z at hck
      have hR3 := hRk.other (p := ⟨w1.heap.size + 1, k, none⟩) (by simp; omega) (.int .i64 y)
      have hB3 := hBk.setCell (p := ⟨w1.heap.size + 1, k, none⟩) (by simp; omega) (.int .i64 y)
      clear hgk hfl
      have hx1 : (x : Int) < (ys.length : Int) := by omega
      go_wp2
      go_roundw
      case rel => exact ⟨k + 1, by omega, by go_num, hset, hB3, hR3⟩
      case measure => simp [intOf]; omega
    · obtain ⟨hc0, hc1, hf0, hf1⟩ := hRk.two
      have hkk : k = xs.length := by omega
      subst hkk
      have hP4 : Blk ((wr.setCell ⟨w.heap.size, 0, none⟩ (.int .i64 0)).setCell ⟨w.heap.size, 1, none⟩ (.int .i64 0)) (w1.heap.size + 1) 3 ((mulL xs ys).map (Value.int .i64)) := by
        have := (hPk.other (p := ⟨w.heap.size, 0, none⟩) (by simp; omega) (.int .i64 0)).other (p := ⟨w.heap.size, 1, none⟩) (by simp; omega) (.int .i64 0)
        have e : fillTo (mulL xs ys) xs.length = mulL xs ys := by
          have := fillTo_all (mulL xs ys)
          rwa [mulL_len] at this
        rwa [e] at this
      have hR4 : Blk ((wr.setCell ⟨w.heap.size, 0, none⟩ (.int .i64 0)).setCell ⟨w.heap.size, 1, none⟩ (.int .i64 0)) w.heap.size 29 [.int .i64 0, .int .i64 0] := (hRk.set 0 _).set 1 _
      have hB4 := (hBk.setCell (p := ⟨w.heap.size, 0, none⟩) (by simp) (.int .i64 0)).setCell (p := ⟨w.heap.size, 1, none⟩) (by simp) (.int .i64 0)
      clear hPk
      go_wp2
      generalize (wr.setCell ⟨w.heap.size, 0, none⟩ (.int .i64 0)).setCell ⟨w.heap.size, 1, none⟩ (.int .i64 0) = W at hP4 hR4 hB4 ⊢
      obtain ⟨h0, h1, _, _⟩ := hR4.two
      exact bodyPost_ret (v := .tuple #[.slice (some ⟨w1.heap.size + 1, 0, none⟩) xs.length xs.length, .agg #[.int .i64 0, .int .i64 0]]) (by simp [results, Try.results37, go_sem, h0, h1]) rfl ⟨_, rfl, hP4, by omega, hB4⟩
set_option maxRecDepth 100000 in
set_option maxHeartbeats 1000000 in
theorem moved_ok (u v : Value) (xs ys : List Int) (w : World) (hu : Sl w u xs) (hv : Sl w v ys) (hx : IsPerm xs) (hy : IsPerm ys) (hl : xs.length = ys.length) (h1000 : xs.length ≤ 1000) :
    Calls Try.prog 22 #[u, v] w fun e w' => ∃ g, e = .returned (.slice (some ⟨g, 0, none⟩) xs.length xs.length) ∧ Blk w' g 3 ((mulL xs ys).map (Value.int .i64)) ∧ w.heap.size ≤ g ∧ Below w.heap.size w w' := by
  have HM := hide (mul_blk u v xs ys w hu hv hx hy hl h1000)
  clear hu hv hx hy hl
  go_enter Try.func22, Try.ntmps22
  go_wp2_with fail
  refine HM.out.mono ?_
  rintro e w1 ⟨g, rfl, hb, hg, hB⟩
  have HF := hide (And.intro (hb.alloc (.cells #[.int .i64 0, .int .i64 0] 29)) (And.intro hg (hB.alloc hB.size (.cells #[.int .i64 0, .int .i64 0] 29))))
  clear hb hg hB
  go_wp2
  go_ret
  exact ⟨g, rfl, HF.out⟩
end Go.Proofs.Ytgphcfmiamiojaa.Pm
namespace Go.Proofs.Ytgphcfmiamiojaa
open Go Go.RowKit

/-- A slice of ints whose cells lie in a block of ints. -/
def RowF (W : World) (x : Value) (l : List Int) : Prop := ∃ a cap pb po, x = .slice a l.length cap ∧ Reads W a pb po l ∧ l.length ≤ cap ∧ cap ≤ maxLen ∧ (0 < l.length → ∃ c fz, W.heap[pb]? = some (.cells c 3 fz))
/-- No block of ints was changed. -/
def T3 (W W' : World) : Prop := ∀ (g : Nat) (c : Array Value) (fz : Nat × Nat), W.heap[g]? = some (.cells c 3 fz) → W'.heap[g]? = W.heap[g]?
theorem T3.refl (W : World) : T3 W W := fun _ _ _ _ => rfl
theorem T3.trans {A B C : World} (h : T3 A B) (k : T3 B C) : T3 A C := fun g c fz hg => (k g c fz ((h g c fz hg).trans hg)).trans (h g c fz hg)
theorem T3.below {W W' : World} (h : Below W.heap.size W W') : T3 W W' := fun g _ _ hg => h.block g (Array.getElem?_eq_some_iff.1 hg).1
theorem RowF.keep {W W' : World} {x : Value} {l : List Int} (h : RowF W x l) (hk : T3 W W') : RowF W' x l := by
  obtain ⟨a, cap, pb, po, rfl, hr, h1, h2, h3⟩ := h
  rcases Nat.eq_zero_or_pos l.length with h0 | h0
  · exact ⟨a, cap, pb, po, rfl, ⟨fun h => by omega, fun j hj => by omega⟩, h1, h2, fun h => by omega⟩
  · obtain ⟨c, fz, hg⟩ := h3 h0
    have e := hk _ _ _ hg
    exact ⟨a, cap, pb, po, rfl, hr.of_eq e, h1, h2, fun _ => ⟨c, fz, e.trans hg⟩⟩
theorem RowF.sl {W : World} {x : Value} {l : List Int} (h : RowF W x l) (h0 : 0 < W.heap.size) : Sl W x l := by
  obtain ⟨a, cap, pb, po, rfl, hr, h1, h2, h3⟩ := h
  rcases Nat.eq_zero_or_pos l.length with he | hp
  · exact ⟨a, cap, 0, 0, rfl, ⟨fun h => by omega, fun j hj => by omega⟩, h0, h1, h2⟩
  · obtain ⟨c, fz, hg⟩ := h3 hp
    exact ⟨a, cap, pb, po, rfl, hr, (Array.getElem?_eq_some_iff.1 hg).1, h1, h2⟩
theorem RowF.of_blk {W : World} {g n : Nat} {l : List Int} (h : Blk W g 3 (l.map (Value.int .i64))) (hn : n = l.length) (hl : l.length ≤ 1000000) : RowF W (.slice (some ⟨g, 0, none⟩) n n) l := by
  subst hn
  exact ⟨_, l.length, g, 0, rfl, ⟨fun _ => rfl, fun j hj => by rw [Nat.zero_add]; exact h.int hj⟩, Nat.le_refl _, by unfold maxLen; omega, fun _ => ⟨_, _, h⟩⟩
theorem RowF.one {W : World} {x : Value} {l : List Int} (h : RowF W x l) : x.oneCell' = true := by
  obtain ⟨a, cap, pb, po, rfl, _⟩ := h
  rfl
theorem RowF.shape {W : World} {x : Value} {l : List Int} (h : RowF W x l) : ∃ a c, x = .slice a l.length c := by
  obtain ⟨a, cap, pb, po, rfl, _⟩ := h
  exact ⟨a, cap, rfl⟩

set_option maxRecDepth 100000 in
set_option maxHeartbeats 8000000 in
theorem clone_row (u : Value) (zs : List Int) (w : World) (hu : Sl w u zs) (hl : zs.length ≤ 1000) :
    Calls Try.prog 34 #[u] w fun e w' => ∃ r, e = .returned r ∧ RowF w' r zs ∧ Below w.heap.size w w' := by
  obtain ⟨i3, hi3, hz0, hz1, hz2⟩ := info_parts info3b
  obtain ⟨a, cap, pb, po, rfl, hrd, hpb, hcap, hcm⟩ := hu
  cases a with
  | none =>
    have h0 : zs = [] := by
      rcases Nat.eq_zero_or_pos zs.length with h | h
      · exact List.length_eq_zero_iff.1 h
      · have := hrd.at_ h; cases this
    subst h0
    have hcmp : ∀ W : World, Sem.run Try.prog (binOp BinOp.eql 24 (.slice none 0 cap) (.slice none 0 0)) W = .ok (.bool true) W := fun W => by rfl
    go_enter Try.func34, Try.ntmps34
    go_wp2
    go_ret
    exact ⟨_, rfl, ⟨none, 0, 0, 0, rfl, ⟨fun h => by simp at h, fun j hj => by simp at hj⟩, by simp, by unfold maxLen; omega, fun h => by simp at h⟩, Below.refl _ _⟩
  | some ad =>
    obtain ⟨ab, ao, asp⟩ := ad
    have hcmp : ∀ W : World, Sem.run Try.prog (binOp BinOp.eql 24 (.slice (some ⟨ab, ao, asp⟩) zs.length cap) (.slice none 0 0)) W = .ok (.bool false) W := fun W => by rfl
    have hrow : (w.alloc (.cells #[] 3)).ownsRow w.heap.size 3 1 (.slice (some ⟨w.heap.size, 0, none⟩) 0 0) 0 [] :=
      ⟨rfl, .inr ⟨w.heap.size, 0, #[], rfl, Nat.le_refl _, World.alloc_heap_new w _, Nat.le_refl _, by unfold maxLen; omega, rfl, rfl⟩⟩
    have hal : Below w.heap.size w (w.alloc (.cells #[] 3)) := balloc w _
    go_enter Try.func34, Try.ntmps34
    go_wp2_with (first
      | (at_builtin; refine wpList_append_own _ rfl _ _ 24 rfl w.heap.size 3 i3 (.int .i64 0) 1 8 under22b hi3 hz0 hz1 hz2 rfl (by decide) _ _ _ rfl hrow ⟨ab, ao, asp⟩ zs.length cap (zs.map (Value.int .i64)) rfl (by simp) ?c1 ?c2 ?c3 ?c4 ?c5 ?_))
    case c1 =>
      intro j v hj
      rw [List.getElem?_map] at hj
      obtain ⟨z, hz, rfl⟩ := Option.map_eq_some_iff.1 hj
      have hjl := (List.getElem?_eq_some_iff.1 hz).1
      have e := hrd.at_ (by omega)
      have e2 : (⟨ab, ao, asp⟩ : Addr) = ⟨pb, po, none⟩ := Option.some.inj e
      rw [e2]
      have := (hrd.below hal hpb).cell j hjl
      rw [hz] at this
      rw [show (⟨pb, po, none⟩ : Addr).add j = ⟨pb, po + j, none⟩ by unfold Addr.add; split <;> simp_all]
      exact this
    case c2 => intro v hv; obtain ⟨z, _, rfl⟩ := List.mem_map.1 hv; rfl
    case c3 => unfold maxLen; omega
    case c4 => omega
    case c5 => simp
    intro v' w' hown hg _
    have hB : Below w.heap.size w w' := hal.grown hg (by simp) (fun j e => by simp [Value.ownBlock] at e; omega)
    have hrf : RowF w' v' zs := by
      rcases hown.2 with ⟨rfl, h0⟩ | ⟨g, c9, cur, rfl, _, hh, h1, h2, _, ht⟩
      · exact ⟨none, 0, 0, 0, by rw [h0], ⟨fun h => by omega, fun j hj => by omega⟩, by omega, by unfold maxLen; omega, fun h => by omega⟩
      · exact ⟨some ⟨g, 0, none⟩, c9, g, 0, rfl, ⟨fun _ => rfl, fun j hj => by
          rw [Nat.zero_add, hown.cellAt j (by omega), List.getElem?_map, List.getElem?_eq_getElem hj]; rfl⟩, h1, h2, fun _ => ⟨_, _, hh⟩⟩
    have HF := hide (And.intro hrf hB)
    clear hown hg hrf hB
    go_wp2
    go_ret
    exact ⟨_, rfl, HF.out⟩
end Go.Proofs.Ytgphcfmiamiojaa
