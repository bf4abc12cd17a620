/- What perm.Order answers at permutations: the digits of the least number that all cycles' lengths divide. -/
import Derived.Test.YtjchmhngfnlbhaaDoorSig
import Derived.Test.YtjchmhngfnlbhaaDoorShm
import Derived.Test.YtjchmhngfnlbhaaDoorDcm
namespace Go.Proofs.YtjchmhngfnlbhaaDoor
open Go Go.RowKit Go.Shelf

attribute [local go_sem] Oper.semAt_some

theorem row_apart {lo hi : Nat} {W W' : World} {base : Nat} {e : TypeId} {v : Value} {n : Nat} {xs : List Value} (h : W.ownsRow base e 1 v n xs) (hv : ∀ j, v.ownBlock = some j → ¬ (lo ≤ j ∧ j < hi)) (hA : Apart lo hi W W') : W'.ownsRow base e 1 v n xs := by
  refine ⟨h.1, ?_⟩
  rcases h.2 with h0 | ⟨g, cap, cur, rfl, hg, hh, r⟩
  · exact .inl h0
  · exact .inr ⟨g, cap, cur, rfl, hg, (hA.block g (Array.getElem?_eq_some_iff.1 hh).1 (hv g (by simp [Value.ownBlock]))).trans hh, r⟩
theorem row_below {W W' : World} {base : Nat} {e : TypeId} {v : Value} {n : Nat} {xs : List Value} (h : W.ownsRow base e 1 v n xs) (hb : Below W.heap.size W W') : W'.ownsRow base e 1 v n xs := by
  refine ⟨h.1, ?_⟩
  rcases h.2 with h0 | ⟨g, cap, cur, rfl, hg, hh, r⟩
  · exact .inl h0
  · exact .inr ⟨g, cap, cur, rfl, hg, (hb.block g (Array.getElem?_eq_some_iff.1 hh).1).trans hh, r⟩
theorem row_block {W : World} {base : Nat} {e : TypeId} {v : Value} {n : Nat} {xs : List Value} (h : W.ownsRow base e 1 v n xs) : (∃ a n c, v = .slice a n c) ∧ ∀ j, v.ownBlock = some j → base ≤ j ∧ j < W.heap.size := by
  rcases h.2 with ⟨rfl, _⟩ | ⟨g, cap, cur, rfl, hg, hh, _⟩
  · exact ⟨⟨_, _, _, rfl⟩, fun j hj => by simp [Value.ownBlock] at hj⟩
  · refine ⟨⟨_, _, _, rfl⟩, fun j hj => ?_⟩
    simp [Value.ownBlock] at hj
    subst hj
    exact ⟨hg, (Array.getElem?_eq_some_iff.1 hh).1⟩

theorem bcat2 {a b c : World} (h : Below a.heap.size a b) (k : Below b.heap.size b c) : Below a.heap.size a c := h.trans (k.mono h.size)
theorem below_cell {a b : World} (h : Below a.heap.size a b) {p : Addr} {v : Value} (hc : a.cell? p = some v) : b.cell? p = some v := by
  have hl := World.block_lt_of_cell? a p hc
  rw [← hc]; simp [World.cell?, h.block _ hl]
theorem lcm_times (n k : Nat) : n * (k / Nat.gcd k (n % k)) = Nat.lcm n k := by
  have e : Nat.gcd k (n % k) = Nat.gcd n k := by rw [Nat.gcd_comm k, ← Nat.gcd_rec k n, Nat.gcd_comm]
  rw [e, Nat.lcm, Nat.mul_div_assoc _ (Nat.gcd_dvd_right n k)]

/-- What the range keeps: the order so far. -/
structure OJ (w w3 : World) (ob : Nat) (pre : List (List Nat)) (W : World) : Prop where
  ex : ∃ v qs, Boxed W ob 75 v ∧ W.ownsRow w.heap.size 77 1 v qs.length (us qs) ∧ (∀ j, v.ownBlock = some j → ¬ (w3.heap.size ≤ j ∧ j < w3.heap.size + 3)) ∧ (∀ q, q ∈ qs → q < 1000000000) ∧ qs.getLast? ≠ some 0 ∧ val qs = lcmL (pre.map List.length) ∧ qs.length ≤ 2 * pre.length + 2
  res : Blk W w.heap.size 26 [.int .i64 0, .int .i64 0]
  bel : Below w.heap.size w W
theorem OJ.apart {w w3 : World} {ob : Nat} {pre : List (List Nat)} {W W' : World} (h : OJ w w3 ob pre W) (h1 : ob < w3.heap.size) (h2 : w.heap.size < w3.heap.size) (hA : Apart w3.heap.size (w3.heap.size + 3) W W') : OJ w w3 ob pre W' := by
  obtain ⟨⟨v, qs, a1, a2, a3, a4⟩, b, c⟩ := h
  exact ⟨⟨v, qs, (hA.block _ a1.lt (by omega)).trans a1, row_apart a2 a3 hA, a3, a4⟩, b.of_eq (hA.block _ b.lt (by omega)), c.trans (hA.below (by omega) c.size)⟩

set_option maxRecDepth 100000 in
set_option maxHeartbeats 4000000 in
theorem order_ok (u : Value) (zs : List Int) (w : World) (hu : Sl w u zs) (hperm : IsPerm zs) (hl : zs.length ≤ 1000) (htab : Tab w.heap.size w) :
    Calls Tryd.prog 20 #[u] w fun e w' => e = .returned (.tuple #[.string ⟨(Lib.decDigits (lcmL (lens zs))).toArray⟩, .agg #[.int .i64 0, .int .i64 0]]) ∧ Below w.heap.size w w' := by
  have hB0 : Below w.heap.size w (w.alloc (.cells #[.int .i64 0, .int .i64 0] 26)) := balloc w _
  have hu0 := hu.below hB0
  have T0 := Two.new w
  have htw := fault_of_perm hperm hl
  have hck := check_sl _ zs _ hu0
  rw [htw] at hck
  have HCK := hide hck
  obtain ⟨a, cap, pb, po, rfl, hr, hp, hq3, hq4⟩ := id hu
  have HP := hide hperm
  clear hperm htw hck hu0
  refine (callsIn_wide (n := 9)).1 ?_
  refine callsIn_of_wp_marks Tryd.func20 rfl trivial ?_ rfl
  simp only [Tryd.ntmps20, List.size_toArray, List.length_cons, List.length_nil, Nat.reduceAdd, Nat.reduceSub, Array.replicate_succ, Array.replicate_zero, List.push_toArray, List.append_toArray, List.nil_append, List.cons_append]
  gi_wp2_with fail
  refine ⟨trivial, ?_⟩
  refine (callsIn_wide.2 HCK.out).mono ?_
  rintro e w1 ⟨rfl, hb1⟩
  have hB1 := bcat hB0 hb1 (by simp)
  have T1 := T0.below hb1
  have hs1 : w.heap.size < w1.heap.size := T1.blk.lt
  clear hb1 HCK hB0 T0
  gi_wp2_with fail
  refine ⟨trivial, ?_⟩
  refine (callsIn_wide.2 (of_any 1 _ (by omega))).mono ?_
  rintro e w2 ⟨v0, qs0, rfl, hown0, hsm0, hla0, hv0, hle0, hb2⟩
  have hB2 : Below w.heap.size w w2 := bcat (hB1.alloc hB1.size _) hb2 (by simp; omega)
  have hR2 : Blk w2 w.heap.size 26 [.int .i64 0, .int .i64 0] := (T1.blk.alloc _).of_eq (hb2.block _ (by simp; omega))
  have hs2 : w1.heap.size + 1 ≤ w2.heap.size := by have := hb2.size; simpa using this
  obtain ⟨⟨a0, n0, c0, rfl⟩, hbk0⟩ := row_block hown0
  clear hb2 T1 hB1
  gi_wp2_with fail
  refine ⟨trivial, ?_⟩
  refine (cyclesOf_in _ _ _ _ _ _ rfl).mono ?_
  rintro e w3 ⟨rfl, rfl⟩
  gi_wp2_with fail
  obtain ⟨w3, hw3⟩ : ∃ w3, w3 = (w2.alloc (.cells #[.slice a0 n0 c0] 75)).alloc (.cells #[.slice a zs.length cap] 22) := ⟨_, rfl⟩
  have hs3 : w3.heap.size = w2.heap.size + 2 := by rw [hw3]; simp
  have hB3 : Below w.heap.size w w3 := by rw [hw3]; exact (hB2.alloc hB2.size _).alloc (by simp; omega) _
  have hR3 : Blk w3 w.heap.size 26 [.int .i64 0, .int .i64 0] := by rw [hw3]; exact (hR2.alloc _).alloc _
  have hN3 : Boxed w3 w2.heap.size 75 (.slice a0 n0 c0) := by rw [hw3]; exact (Boxed.new w2 75 _).alloc _
  have hO3 : w3.ownsRow w.heap.size 77 1 (.slice a0 n0 c0) qs0.length (us qs0) := by
    rw [hw3]; exact owns_mono ((hown0.alloc _).alloc _) (by simp; omega)
  have hX3 : Boxed w3 (w2.heap.size + 1) 22 (.slice a zs.length cap) := by
    rw [hw3]
    have := Boxed.new (w2.alloc (.cells #[.slice a0 n0 c0] 75)) 22 (.slice a zs.length cap)
    rw [World.size_alloc] at this; exact this
  have hr3 : Reads w3 a pb po zs := hr.below hB3 hp
  rw [← hw3]
  have HS3 := hide hs3
  have HV0 := hide hv0
  clear hw3 hs3 hv0 hown0
  refine cyc_range (w2.heap.size + 1) cap pb po a zs (OJ w w3 w2.heap.size) (fun _ => False) (by rfl) (by decide) (by rfl) hX3 hr3 (by have := hB3.size; omega) HP.out hl
    (fun _ _ _ h hA => h.apart (by have := HS3.out; omega) (by have := HS3.out; omega) hA) (fun _ _ h _ => h.elim)
    ⟨⟨_, qs0, hN3, hO3, fun j hj => by have := hbk0 j hj; have := HS3.out; omega, hsm0, hla0, by rw [HV0.out]; rfl, by simpa using hle0⟩, hR3, hB3⟩ ?body ?fin (fun _ h => h.elim)
  case body =>
    rintro pre c post W gc cap' hpc hcy hJ hown hgc1 hgc2 _ _
    gi_wp2
    refine ⟨trivial, ?_⟩
    rintro Wb ⟨⟨v, qs, hN, hO, hne, hsm, hla, hvq, hle⟩, hR, hB⟩ hown hgc hxb hpb
    have hs := HS3.out
    have hcm : c ∈ cyc zs := by rw [← hpc]; simp
    have hcl : c.length ≤ 1000 := Nat.le_trans (cyc_pts HP.out hcm).1 hl
    have hc0 : 0 < c.length := List.length_pos_iff.2 hcy.ne
    have hpl : pre.length ≤ 1000 := by
      have h1 := cyc_len zs
      rw [← hpc] at h1; simp at h1; omega
    obtain ⟨⟨av, nv, cv, rfl⟩, hbk⟩ := row_block hO
    have hcN := hN.cell
    have hfN := hN.frozen
    have hlt := lcm_times (val qs) c.length
    have hdv : c.length / Nat.gcd c.length (val qs % c.length) ≤ 1000 := Nat.le_trans (Nat.div_le_self _ _) hcl
    have hgp : 0 < Nat.gcd c.length (val qs % c.length) := Nat.gcd_pos_of_pos_left _ hc0
    have hgl : Nat.gcd c.length (val qs % c.length) ≤ 1000 := Nat.le_trans (Nat.gcd_le_left _ hc0) hcl
    have hrl : val qs % c.length < c.length := Nat.mod_lt _ hc0
    obtain ⟨k, hk⟩ : ∃ k, c.length = k := ⟨_, rfl⟩
    have HK := hide hk
    have HVQ := hide hvq
    have hOwn := hown
    clear hpc hcm hvq hown
    rw [hk] at hlt hdv hgp hgl hrl hcl hc0
    obtain ⟨r, hrr⟩ : ∃ r, val qs % k = r := ⟨_, rfl⟩
    have HM := hide (fun (W' : World) (h : W'.ownsRow w.heap.size 77 1 (.slice av nv cv) qs.length (us qs)) => mod_ok w.heap.size _ qs k W' h hsm hc0 (by omega) (by omega))
    rw [hrr] at HM hlt hdv hgp hgl hrl
    obtain ⟨s, hss⟩ : ∃ s, Nat.gcd k r = s := ⟨_, rfl⟩
    have HG := hide (fun (W' : World) => natGcd_ok k r W' (by omega) (by omega))
    rw [hss] at HG hlt hdv hgp hgl
    have hquo : (k : Int).tdiv (s : Int) = ((k / s : Nat) : Int) := by rw [Int.tdiv_eq_ediv_of_nonneg (by omega)]; rfl
    obtain ⟨q, hqq⟩ : ∃ q, k / s = q := ⟨_, rfl⟩
    rw [hqq] at hlt hdv hquo
    have HT := hide (fun (W' : World) (h : W'.ownsRow w.heap.size 77 1 (.slice av nv cv) qs.length (us qs)) => timesPlus_any w.heap.size _ qs q 0 W' h hsm hdv (by omega) (by omega))
    have HLT := hide hlt
    have hwk : IntKind.u64.wrap (c.length : Int) = (k : Int) := by rw [IntKind.wrap_u64]; omega
    clear hlt hrr hss hqq hk
    gi_wp2_with fail
    refine ⟨trivial, rfl, ?_⟩
    refine (CallsIn.inRound _ (callsIn_wide.2 (HM.out _ hO))).mono ?_
    rintro e W4 ⟨rfl, hb4⟩
    gi_wp2_with fail
    refine ⟨trivial, rfl, ?_⟩
    refine (CallsIn.inRound _ (callsIn_wide.2 (HG.out _))).mono ?_
    rintro e W5 ⟨rfl, hb5⟩
    have hb45 : Below Wb.heap.size Wb W5 := bcat2 hb4 hb5
    have hN5 : Boxed W5 w2.heap.size 75 (.slice av nv cv) := (hb45.block _ hN.lt).trans hN
    have hO5 := row_below hO hb45
    have hR5 : Blk W5 w.heap.size 26 [.int .i64 0, .int .i64 0] := hR.of_eq (hb45.block _ hR.lt)
    have hB5 : Below w.heap.size w W5 := bcat hB hb45 hB.size
    have hk5 : ∀ b, b < Wb.heap.size → W5.heap[b]? = Wb.heap[b]? := fun b hb => hb45.block b hb
    have hz5 := hb45.size
    clear hcN hfN hb4 hb5 hb45
    have hcN := hN5.cell
    have hfN := hN5.frozen
    have hsn : ¬ ((s : Int) = 0) := by omega
    have hwq : IntKind.u64.wrap (q : Int) = (q : Int) := by rw [IntKind.wrap_u64]; omega
    have hsn2 : ¬ s = 0 := by omega
    have hsb : ((s : Int) == 0) = false := by simp; omega
    gi_wp2
    refine region_in_round (by kernel_rfl) (by kernel_rfl) ?_
    refine wpAnyIn_take (i := 1) (v := .int .u64 k) rfl rfl (by kernel_rfl) (by kernel_rfl) (by kernel_rfl) (fun _ _ _ h => h) ⟨Or.inl ⟨by rfl, fun w => by go_simp⟩, fun _ => rfl⟩ ?_
    refine wpAnyIn_take (i := 2) (v := .int .u64 s) rfl rfl (by kernel_rfl) (by kernel_rfl) (by kernel_rfl) (fun _ _ _ h => h) ⟨Or.inl ⟨by rfl, fun w => by go_simp⟩, fun _ => rfl⟩ ?_
    refine wpAnyIn_take (i := 3) (v := .int .u64 q) rfl rfl (by kernel_rfl) (by kernel_rfl) (by kernel_rfl) (fun _ _ _ h => h) ⟨Or.inl ⟨by rfl, fun w => by go_simp⟩, fun _ => rfl⟩ ?_
    refine wpAnyIn_ready (rs := [0]) (by kernel_rfl) (by simp) (AllReadyIn.cons rfl (fun K hK => ?_) AllReadyIn.nil)
    go_simp
    refine hK _ _ ?_
    clear hK K
    refine wpAnyIn_ready (rs := [4]) (by kernel_rfl) (by simp) (AllReadyIn.cons rfl (fun K hK => ?_) AllReadyIn.nil)
    go_simp
    refine ⟨trivial, rfl, ?_⟩
    refine (callsIn_wide.2 (HT.out W5.drew hO5)).mono ?_
    rintro e W6 ⟨v', qs', rfl, hO6, hsm6, hla6, hvq6, hle6, hb6⟩
    have hz6 : W5.heap.size ≤ W6.heap.size := hb6.size
    have hk6 : ∀ b, b < W5.heap.size → W6.heap[b]? = W5.heap[b]? := fun b hb => hb6.block b hb
    have hN6 : Boxed W6 w2.heap.size 75 (.slice av nv cv) := (hk6 _ hN5.lt).trans hN5
    have hR6 : Blk W6 w.heap.size 26 [.int .i64 0, .int .i64 0] := hR5.of_eq (hk6 _ hR5.lt)
    have hB6 : Below w.heap.size w W6 := hB5.trans ⟨hb6.os, hb6.tape, hb6.output, hz6, fun b hb => hk6 b (by have := hB5.size; omega)⟩
    obtain ⟨⟨a6, n6, c6, rfl⟩, hbk6⟩ := row_block hO6
    have hcN6 := hN6.cell
    have hfN6 := hN6.frozen
    have hgb := gb_set W6 w2.heap.size 0 (.slice a6 n6 c6)
    have hbk6' : ∀ j, Value.ownBlock (.slice a6 n6 c6) = some j → W5.heap.size ≤ j := fun j hj => (hbk6 j hj).1
    have hN7 := hN6.set (.slice a6 n6 c6)
    have hO7 := hO6.kept hgb (.inr (fun e => by have := hbk6' _ e; have := hN5.lt; omega))
    clear hcN hfN hb6 hN5 hO5 hN6
    go_simp
    refine hK _ _ ?_
    clear hK K
    refine wpAnyIn_ready (rs := [5]) (by kernel_rfl) (by simp) (AllReadyIn.cons rfl (fun K hK => ?_) AllReadyIn.nil)
    go_simp
    refine hK _ _ ?_
    clear hK K
    refine wpAnyIn_done (by kernel_rfl) ?_ _
    gi_wp2
    refine ⟨⟨by rw [size_set]; omega, fun b hb => ?_⟩, ⟨⟨_, qs', hN7, owns_mono hO7 (by have := hB5.size; show _ ≤ W5.heap.size; omega), fun j hj => ?_, hsm6, hla6, ?_, ?_⟩, ?_, ?_⟩⟩
    · rw [Below.heap_setCell _ _ _ b (by simp; omega), hk6 b (by omega), hk5 b (by omega)]
    · have := hbk6' j hj; omega
    · rw [hvq6, Nat.add_zero, HLT.out, HVQ.out, List.map_append, List.map_cons, List.map_nil, lcmL_snoc, HK.out]
    · simp; omega
    · exact hR6.other (by simp; omega) _
    · exact hB6.setCell (by simp; omega) _
  case fin =>
    rintro W ⟨⟨v, qs, hN, hO, hne, hsm, hla, hvq, hle⟩, hR, hB⟩ hD hz
    have hcN := hN.cell
    have hcl := cyc_len zs
    obtain ⟨⟨av, nv, cv, rfl⟩, hbk⟩ := row_block hO
    have hdm := decimal_any w.heap.size _ qs W hO hsm hla (by omega) ((htab.below hB).mono hB.size)
    rw [hvq] at hdm
    have HDM := hide hdm
    clear hdm hvq
    gi_wp2_with fail
    refine ⟨trivial, ?_⟩
    refine (callsIn_wide.2 HDM.out).mono ?_
    rintro e W2 ⟨rfl, hb2⟩
    have hR2 := hR.of_eq (hb2.block _ hR.lt)
    have hD2 : W2.heap[w3.heap.size]? = some (.deferred (some [])) := (hb2.block _ (by have := HS3.out; omega)).trans hD
    have hB2 := bcat hB hb2 hB.size
    obtain ⟨_, c0, c1, f0, f1, s0, s1⟩ := Two.mk' hR2
    gi_wp2
    refine ⟨by simp, .inl ⟨_, _, rfl, run_takeDeferred hD2, ?_⟩⟩
    have hR7 : Blk (W2.putObj w3.heap.size (.deferred none)) w.heap.size 26 [.int .i64 0, .int .i64 0] := hR2.of_eq (World.putObj_heap_other (by have := HS3.out; omega))
    have h70 := hR7.cell 0
    have h71 := hR7.cell 1
    exact ⟨.tuple #[.string ⟨(Lib.decDigits (lcmL (lens zs))).toArray⟩, .agg #[.int .i64 0, .int .i64 0]], by simp [results, Tryd.results20, go_sem, h70, h71, lens], rfl, hB2.trans ⟨rfl, rfl, rfl, by simp, fun k hk => World.putObj_heap_other (by have := HS3.out; omega)⟩⟩
end Go.Proofs.YtjchmhngfnlbhaaDoor
