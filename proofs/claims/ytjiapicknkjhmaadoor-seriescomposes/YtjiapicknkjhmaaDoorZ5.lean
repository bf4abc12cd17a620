/- math/bits.OnesCount64 and (set.Set).Len: how many things a set has. What package sylow's grown answers: a subgroup of a power of p things that no thing makes a greater one of that kind. Condition: the library's table of places lies as its text lays it. What package sylow's subgroups answers: a map whose keys are the conjugates of one of Sylow's subgroups. Condition: the library's table of places lies as its text lays it. What package quot's Simple and Abel answer; the subgroup of commutators, and the quotient by it. Condition: the library's table of places lies as its text lays it. Package sub and coset again: sets that came in, Made, Is, Normal, Closure, cosets. Condition: the library's table of places lies as its text lays it. Package sub's Centre at a group, the commutator of two things, what two lists have both. Condition: the library's table of places lies as its text lays it. The subgroup that the commutators of two sets make; the least subgroup that has a set and is, conjugated by each thing of another, the same. Condition: the library's table of places lies as its text lays it. -/
import Derived.Test.YtjiapicknkjhmaaDoorZ4
import Derived.Test.YtjiapicknkjhmaaDoorZ1
import Derived.Test.YtjiapicknkjhmaaDoorZ3
import Derived.Deep.RegionHeld3
import Derived.WalkMore
import Derived.Maps.OwnSet
import Derived.Maps.AppendAt
import Derived.BigQuiet
import Derived.Deep.AppendLies
import Derived.Deep.DeepCutAuto
import Derived.Deep.RegionLaw
import Derived.Laws.EntriesVeiled
import Derived.Maps.Ext
import Derived.Maps.OwnOps
namespace Go.Proofs.YtjiapicknkjhmaaDoor
open Go Go.RowKit

theorem and_nat (a b : Nat) (ha : a < 18446744073709551616) (hb : b < 18446744073709551616) : bits BinOp.and IntKind.u64 (a : Int) (b : Int) = ((a &&& b : Nat) : Int) := bits_and_u64_nat a b ha hb
theorem and_127 (y : Nat) (hy : y < 9223372036854775808) : bits BinOp.and IntKind.i64 (y : Int) 127 = ((y % 128 : Nat) : Int) := by
  have h1 : (BitVec.ofInt 64 (y : Int) &&& BitVec.ofInt 64 127).toNat = y % 128 := by
    rw [BitVec.toNat_and]
    have e1 : (BitVec.ofInt 64 (y : Int)).toNat = y := by rw [BitVec.toNat_ofInt]; omega
    have e2 : (BitVec.ofInt 64 (127 : Int)).toNat = 2 ^ 7 - 1 := by decide
    rw [e1, e2, Nat.and_two_pow_sub_one_eq_mod]
  show IntKind.i64.wrap ((BitVec.ofInt 64 (y : Int) &&& BitVec.ofInt 64 127).toNat : Int) = _
  rw [h1, IntKind.wrap_i64]
  omega
theorem wrap_nat {z : Int} (y : Nat) (h : z = (y : Int)) (hy : y < 18446744073709551616) : IntKind.u64.wrap z = (y : Int) := by
  rw [h, IntKind.wrap_u64]
  omega
set_option maxRecDepth 100000 in
set_option maxHeartbeats 1000000 in
theorem ones_cnt (x : Nat) (hx : x < 18446744073709551616) (w : World) :
    Calls Tryd.prog 95 #[.int .u64 x] w fun e w' => e = .returned (.int .i64 (Pop.cnt x)) ∧ w' = w := by
  have k1 : Pop.mask 1 32 = 6148914691236517205 := by decide +kernel
  have k2 : Pop.mask 2 16 = 3689348814741910323 := by decide +kernel
  have k3 : Pop.mask 4 8 = 1085102592571150095 := by decide +kernel
  obtain ⟨x1, h1⟩ : ∃ x1, x1 = ((x / 2 ^ 1) &&& Pop.mask 1 32) + (x &&& Pop.mask 1 32) := ⟨_, rfl⟩
  obtain ⟨x2, h2⟩ : ∃ x2, x2 = ((x1 / 2 ^ 2) &&& Pop.mask 2 16) + (x1 &&& Pop.mask 2 16) := ⟨_, rfl⟩
  obtain ⟨x3, h3⟩ : ∃ x3, x3 = (x2 / 2 ^ 4 + x2) &&& Pop.mask 4 8 := ⟨_, rfl⟩
  obtain ⟨y1, h4⟩ : ∃ y1, y1 = x3 + x3 / 256 := ⟨_, rfl⟩
  obtain ⟨y2, h5⟩ : ∃ y2, y2 = y1 + y1 / 65536 := ⟨_, rfl⟩
  obtain ⟨y3, h6⟩ : ∃ y3, y3 = y2 + y2 / 4294967296 := ⟨_, rfl⟩
  have hc : Pop.cnt x = y3 % 128 := by
    unfold Pop.cnt
    rw [h6, h5, h4, h3, h2, h1]
  have b1 : x1 < 18446744073709551616 := by
    have := Nat.and_le_right (n := x / 2 ^ 1) (m := Pop.mask 1 32)
    have := Nat.and_le_right (n := x) (m := Pop.mask 1 32)
    omega
  have b2 : x2 ≤ 7378697629483820646 := by
    have := Nat.and_le_right (n := x1 / 2 ^ 2) (m := Pop.mask 2 16)
    have := Nat.and_le_right (n := x1) (m := Pop.mask 2 16)
    omega
  have b3 : x3 ≤ 1085102592571150095 := by
    have := Nat.and_le_right (n := x2 / 2 ^ 4 + x2) (m := Pop.mask 4 8)
    omega
  have E1 : IntKind.u64.wrap (bits BinOp.and IntKind.u64 ((x : Int) / 2) 6148914691236517205 + bits BinOp.and IntKind.u64 (x : Int) 6148914691236517205) = (x1 : Int) := by
    have a1 := and_nat (x / 2) 6148914691236517205 (by omega) (by decide)
    have a2 := and_nat x 6148914691236517205 hx (by decide)
    rw [Int.natCast_ediv] at a1
    refine wrap_nat x1 ?_ b1
    rw [k1] at h1
    have a1' : bits BinOp.and IntKind.u64 ((x : Int) / 2) 6148914691236517205 = ((x / 2 &&& 6148914691236517205 : Nat) : Int) := a1
    have a2' : bits BinOp.and IntKind.u64 (x : Int) 6148914691236517205 = ((x &&& 6148914691236517205 : Nat) : Int) := a2
    rw [a1', a2', h1, Int.natCast_add, Nat.pow_one]
  have E2 : IntKind.u64.wrap (bits BinOp.and IntKind.u64 ((x1 : Int) / 4) 3689348814741910323 + bits BinOp.and IntKind.u64 (x1 : Int) 3689348814741910323) = (x2 : Int) := by
    have a1 := and_nat (x1 / 4) 3689348814741910323 (by omega) (by decide)
    have a2 := and_nat x1 3689348814741910323 b1 (by decide)
    rw [Int.natCast_ediv] at a1
    refine wrap_nat x2 ?_ (by omega)
    rw [k2] at h2
    have a1' : bits BinOp.and IntKind.u64 ((x1 : Int) / 4) 3689348814741910323 = ((x1 / 4 &&& 3689348814741910323 : Nat) : Int) := a1
    have a2' : bits BinOp.and IntKind.u64 (x1 : Int) 3689348814741910323 = ((x1 &&& 3689348814741910323 : Nat) : Int) := a2
    rw [a1', a2', h2, Int.natCast_add]
  have E3 : bits BinOp.and IntKind.u64 (IntKind.u64.wrap ((x2 : Int) / 16 + (x2 : Int))) 1085102592571150095 = (x3 : Int) := by
    rw [wrap_nat (x2 / 16 + x2) (by rw [Int.natCast_add, Int.natCast_ediv]; rfl) (by omega)]
    rw [k3] at h3
    rw [h3]
    exact and_nat (x2 / 16 + x2) 1085102592571150095 (by omega) (by decide)
  have E4 : IntKind.u64.wrap ((x3 : Int) + (x3 : Int) / 256) = (y1 : Int) := wrap_nat y1 (by omega) (by omega)
  have E5 : IntKind.u64.wrap ((y1 : Int) + (y1 : Int) / 65536) = (y2 : Int) := wrap_nat y2 (by omega) (by omega)
  have E6 : IntKind.u64.wrap ((y2 : Int) + (y2 : Int) / 4294967296) = (y3 : Int) := wrap_nat y3 (by omega) (by omega)
  have b6 : y3 < 9223372036854775808 := by omega
  have E7 : IntKind.i64.wrap (y3 : Int) = (y3 : Int) := by rw [IntKind.wrap_i64]; omega
  have E8 := and_127 y3 b6
  rw [hc]
  clear h1 h2 h3 h4 h5 h6 k1 k2 k3 hc b1 b2 b3 b6
  go_enter Tryd.func95, Tryd.ntmps95
  go_wp2
  go_ret
  exact ⟨rfl, rfl⟩
/-- How many things a set has. -/
theorem len_cnt (n : Nat) (p : Nat → Bool) (hn : n ≤ 60) (w : World) :
    Calls Tryd.prog 62 #[.int .u64 (bs p n)] w fun e w' => e = .returned (.int .i64 (lst n p).length) ∧ w' = w := by
  go_enter Tryd.func62, Tryd.ntmps62
  go_wp2_with fail
  refine (ones_cnt (bs p n) (bs_64 hn) w).mono ?_
  rintro e w1 ⟨rfl, rfl⟩
  rw [Pop.cnt_bs p hn]
  go_wp2
  go_ret
  exact ⟨rfl, rfl⟩
end Go.Proofs.YtjiapicknkjhmaaDoor

namespace Go.Proofs.YtjiapicknkjhmaaDoor
open Go Go.RowKit

theorem lst_same {n : Nat} {p q : Nat → Bool} (h : ∀ x, x < n → (p x = true ↔ q x = true)) : lst n p = lst n q := lst_congr fun x hx => by
  have := h x hx
  cases h1 : p x <;> cases h2 : q x <;> simp_all
theorem lst_less {n : Nat} {p q : Nat → Bool} (h : ∀ x, x < n → p x = true → q x = true) : (lst n p).length ≤ (lst n q).length ∧ ((∃ x, x < n ∧ q x = true ∧ ¬ p x = true) → (lst n p).length < (lst n q).length) := by
  have e1 : lst n p = (lst n q).filter p := by
    unfold lst
    rw [List.filter_filter]
    refine List.filter_congr fun x hx => ?_
    cases hp : p x with
    | false => simp
    | true => simp [h x (List.mem_range.1 hx) hp]
  rw [e1]
  refine ⟨List.length_filter_le _ _, ?_⟩
  rintro ⟨x, hx, h1, h2⟩
  exact List.length_filter_lt_length_iff_exists.2 ⟨x, mem_lst.2 ⟨hx, h1⟩, h2⟩
/-- A subgroup of a power of p things with no greater one by a thing more. -/
structure Grown (n : Nat) (zs : List Int) (e p : Nat) (s : Nat → Bool) : Prop where
  sub : subT n zs e s = true
  pow : isPw (lst n s).length p
  top : ∀ a (q : Nat → Bool), a < n → (∀ x, x < n → (q x = true ↔ Mkd n zs e (fun y => s y || decide (y = a)) x)) → bs q n = bs s n ∨ ¬ isPw (lst n q).length p
theorem one_lst {n e : Nat} (he : e < n) : lst n (fun a => decide (a = e)) = [e] := by
  have hnd : (lst n (fun a => decide (a = e))).Nodup := List.nodup_range.sublist List.filter_sublist
  have hm : ∀ x, x ∈ lst n (fun a => decide (a = e)) ↔ x ∈ [e] := fun x => by
    rw [mem_lst]
    simp
    intro h9
    omega
  exact (List.perm_singleton.1 ((List.perm_ext_iff_of_nodup hnd (by simp)).2 hm))
theorem one_sub {n e : Nat} {zs : List Int} (g : IsGrp n zs e) : subT n zs e (fun a => decide (a = e)) = true := by
  rw [subT_iff]
  refine ⟨by simp, fun a b _ _ h1 h2 => ?_⟩
  have h1 := of_decide_eq_true h1
  have h2 := of_decide_eq_true h2
  rw [h1, h2]
  exact decide_eq_true (g.left e g.elt)
theorem mkd_ex' (n : Nat) (zs : List Int) (e : Nat) (q : Nat → Bool) : ∃ p : Nat → Bool, ∀ a, a < n → (p a = true ↔ Mkd n zs e q a) := by
  obtain ⟨p, hp⟩ := Fin.test_of (Mkd n zs e q)
  exact ⟨p, fun a _ => hp a⟩
set_option maxRecDepth 100000 in
set_option maxHeartbeats 8000000 in
theorem grown_ok (n e p : Nat) (v u : Value) (zs : List Int) (w : World) (hG : GA w n v e u zs) (hT : Tab w) (hp2 : 2 ≤ p) (hp1 : p ≤ 100) :
    Calls Tryd.prog 65 #[.agg #[.int .i64 n, v, .int .i64 e, u], .int .i64 p] w fun x w' => ∃ s : Nat → Bool, x = .returned (.int .u64 (bs s n)) ∧ Grown n zs e p s ∧ Below w.heap.size w w' := by
  have hn := hG.le
  have hen := hG.grp.elt
  have HGR := hide hG.grp
  have hB0 : Below w.heap.size w (w.alloc (.cells #[.int .i64 n, v, .int .i64 e, u] 50)) := balloc w _
  have hX0 : Blk (w.alloc (.cells #[.int .i64 n, v, .int .i64 e, u] 50)) w.heap.size 50 [.int .i64 n, v, .int .i64 e, u] := blk4 _ _ _ _
  have HMA := hide (fun W (q p : Nat → Bool) (h : Below w.heap.size w W) (hp : ∀ a, a < n → (p a = true ↔ Mkd n zs e q a)) => made_ok n v u zs e q p W (hG.below h) (hT.below h) hp)
  have HO1 := hide (fun (W : World) (g k : Nat) (hlt : k < n) (hc : W.cell? ⟨g, 0, none⟩ = some (.int .i64 k)) => of_one n g k W hn hlt hc)
  have HLN := hide (fun (p' : Nat → Bool) W => len_cnt n p' hn W)
  obtain ⟨_, c0, c1, c2, c3, _⟩ := Four.mk' hX0
  have HOF := hide (of_one n (w.heap.size + 1) e ((w.alloc (.cells #[.int .i64 n, v, .int .i64 e, u] 50)).alloc (.cells #[.int .i64 e] 3)) hn hen (by have := cell1 (w.alloc (.cells #[.int .i64 n, v, .int .i64 e, u] 50)) (.int .i64 e) 3; rwa [World.size_alloc] at this))
  go_enter Tryd.func65, Tryd.ntmps65
  go_wp2_with fail
  go_step3
  go_wp2_with fail
  refine HOF.out.mono ?_
  rintro e1 w1 ⟨rfl, rfl⟩
  have hB1 := bcat2 hB0 (balloc _ (.cells #[.int .i64 e] 3))
  have hX1 := blk_below hX0 (balloc _ (.cells #[.int .i64 e] 3))
  clear c0 c1 c2 c3 hX0 hB0 HOF
  generalize (w.alloc (.cells #[.int .i64 n, v, .int .i64 e, u] 50)).alloc (.cells #[.int .i64 e] 3) = w1 at *
  go_wp2_with fail
  go_step3
  go_wp2_with fail
  go_loopw [5] (fun sv wr => ∃ s : Nat → Bool, sv = .int .u64 (bs s n) ∧ subT n zs e s = true ∧ isPw (lst n s).length p ∧ Blk wr w.heap.size 50 [.int .i64 n, v, .int .i64 e, u] ∧ Below w.heap.size w wr) (fun sv _ => 60 - Pop.cnt (intOf sv).toNat)
  case atStart => exact ⟨_, rfl, one_sub HGR.out, ⟨0, by rw [one_lst hen]; rfl⟩, hX1, hB1⟩
  case round =>
    clear hX1 hB1
    obtain ⟨s, rfl, hs, hpw, hX, hB⟩ := hrel
    have HS := hide hs
    have HPW := hide hpw
    clear hs hpw
    obtain ⟨_, c0, c1, c2, c3, _⟩ := Four.mk' hX
    go_wp2_with fail
    clear c0 c1 c2 c3
    go_loopw [5, 15] (fun sv i wr => ∃ k : Nat, k ≤ n ∧ i = .int .i64 k ∧ sv = .int .u64 (bs s n) ∧ (∀ a (q : Nat → Bool), a < k → (∀ x, x < n → (q x = true ↔ Mkd n zs e (fun y => s y || decide (y = a)) x)) → bs q n = bs s n ∨ ¬ isPw (lst n q).length p) ∧ Blk wr w.heap.size 50 [.int .i64 n, v, .int .i64 e, u] ∧ Below w.heap.size w wr) (fun _ i _ => n - (intOf i).toNat)
    case atStart => exact ⟨0, Nat.zero_le _, rfl, rfl, fun a q h => by omega, hX, hB⟩
    case round =>
      clear hX hB
      obtain ⟨k, hk, rfl, rfl, hno, hX, hB⟩ := hrel
      have HN := hide hno
      clear hno
      by_cases hlt : k < n
      · obtain ⟨_, c0, c1, c2, c3, _⟩ := Four.mk' hX
        obtain ⟨r, hr⟩ := mkd_ex' n zs e (fun y => s y || decide (y = k))
        have HR := hide hr
        clear hr
        have HMX := hide (fun W (h : Below w.heap.size w W) => HMA.out W (fun y => s y || decide (y = k)) r h HR.out)
        have hor : Go.bits BinOp.or IntKind.u64 (bs s n : Int) (bs (fun a => decide (a = k)) n : Int) = (bs (fun y => s y || decide (y = k)) n : Int) := or_bs _ _ hn
        have HO1 := hide (fun (W : World) (g : Nat) (hc : W.cell? ⟨g, 0, none⟩ = some (.int .i64 k)) => HO1.out W g k hlt hc)
        have hS : ∀ W, Below wr.heap.size wr W → ((fun W9 => Below wr.heap.size wr W9 ∧ W9.cell? ⟨w.heap.size, 0, none⟩ = some (.int .i64 n) ∧ W9.cell? ⟨w.heap.size, 1, none⟩ = some v ∧ W9.cell? ⟨w.heap.size, 2, none⟩ = some (.int .i64 e) ∧ W9.cell? ⟨w.heap.size, 3, none⟩ = some u) W) := fun W h => ⟨h, below_cell h c0, below_cell h c1, below_cell h c2, below_cell h c3⟩
        have hS0 := hS _ (bdrew (Below.refl _ wr))
        have hki : (k : Int) < (n : Int) := by omega
        generalize bs (fun y => s y || decide (y = k)) n = Q9 at *
        generalize bs (fun a => decide (a = k)) n = Q2 at *
        go_wp2_with fail
        clear c0 c1 c2 c3
        have hBc : Below wr.heap.size wr wr.drew := bdrew (Below.refl _ wr)
        refine wp_region_held_drew (S := (fun W9 => Below wr.heap.size wr W9 ∧ W9.cell? ⟨w.heap.size, 0, none⟩ = some (.int .i64 n) ∧ W9.cell? ⟨w.heap.size, 1, none⟩ = some v ∧ W9.cell? ⟨w.heap.size, 2, none⟩ = some (.int .i64 e) ∧ W9.cell? ⟨w.heap.size, 3, none⟩ = some u)) (by kernel_rfl) hS0 (fun hHeld => ?_)
        refine wpAnyH_take (i := 0) (oi := ({ dst := some 18, op := Go.Op.load 50 (Go.Operand.tmp 2), type := 50, pos := _, after := #[], guard := none } : Oper)) (v := ?_) rfl (by kernel_rfl) (by kernel_rfl) (by kernel_rfl) (fun _ _ _ h => h) (Or.inl ⟨by rfl, ?_⟩) (by assumption) ?_
        rotate_left
        · (intro w hSw; (try dsimp only at hSw); go_simp; try with_reducible rfl)
        simp only [Act.put, List.setIfInBounds_toArray, List.set_cons_zero, List.set_cons_succ]
        refine wpAnyH_take (i := 1) (oi := ({ dst := some 19, op := Go.Op.move (Go.Operand.tmp 5), type := 52, pos := _, after := #[], guard := none } : Oper)) (v := ?_) rfl (by kernel_rfl) (by kernel_rfl) (by kernel_rfl) (fun _ _ _ h => h) (Or.inl ⟨by rfl, ?_⟩) (by assumption) ?_
        rotate_left
        · (intro w hSw; (try dsimp only at hSw); go_simp; try with_reducible rfl)
        simp only [Act.put, List.setIfInBounds_toArray, List.set_cons_zero, List.set_cons_succ]
        refine wpAnyH_take (i := 2) (oi := ({ dst := some 20, op := Go.Op.move (Go.Operand.tmp 6), type := 3, pos := _, after := #[], guard := none } : Oper)) (v := ?_) rfl (by kernel_rfl) (by kernel_rfl) (by kernel_rfl) (fun _ _ _ h => h) (Or.inl ⟨by rfl, ?_⟩) (by assumption) ?_
        rotate_left
        · (intro w hSw; (try dsimp only at hSw); go_simp; try with_reducible rfl)
        simp only [Act.put, List.setIfInBounds_toArray, List.set_cons_zero, List.set_cons_succ]
        refine wpAnyH_ready (rs := [3]) (by kernel_rfl) (by simp) (AllReadyH.cons (o := ({ dst := some 21, op := Go.Op.buildSlice 22 1 #[(0, Go.Operand.tmp 20)], type := 22, pos := _, after := #[{ on := 2, ground := Go.Ground.data }], guard := none } : Oper)) rfl (fun KK hK => ?_) AllReadyH.nil)
        go_simp
        have hBd := bcat2 hBc (balloc _ (.cells #[.int .i64 (k : Int)] 3))
        refine hK.out _ _ (hS _ hBd) (fun hHeld => ?_)
        clear hK
        try simp only [Act.put, List.setIfInBounds_toArray, List.set_cons_zero, List.set_cons_succ]
        refine wpAnyH_ready (rs := [4]) (by kernel_rfl) (by simp) (AllReadyH.cons (o := ({ dst := some 22, op := Go.Op.call { callee := Go.Callee.value (Go.Operand.func 72), args := #[Go.Operand.tmp 21], argTypes := #[22] }, type := 52, pos := _, after := #[{ on := 3, ground := Go.Ground.data }], guard := none } : Oper)) rfl (fun KK hK => ?_) AllReadyH.nil)
        go_simp
        refine (HO1.out _ _ (by simp)).mono ?_
        rintro e6 U2 ⟨rfl, rfl⟩
        try go_wp2_with fail
        refine hK.out _ _ (hS _ hBd) (fun hHeld => ?_)
        clear hK
        try simp only [Act.put, List.setIfInBounds_toArray, List.set_cons_zero, List.set_cons_succ]
        refine wpAnyH_take (i := 5) (oi := ({ dst := some 23, op := Go.Op.binOp Go.BinOp.or 52 (Go.Operand.tmp 19) (Go.Operand.tmp 22) 52, type := 52, pos := _, after := #[{ on := 1, ground := Go.Ground.data }, { on := 4, ground := Go.Ground.data }], guard := none } : Oper)) (v := ?_) rfl (by kernel_rfl) (by kernel_rfl) (by kernel_rfl) (fun _ _ _ h => h) (Or.inl ⟨by rfl, ?_⟩) (by assumption) ?_
        rotate_left
        · (intro w hSw; (try dsimp only at hSw); go_simp; try with_reducible rfl)
        simp only [Act.put, List.setIfInBounds_toArray, List.set_cons_zero, List.set_cons_succ]
        refine wpAnyH_ready (rs := [6]) (by kernel_rfl) (by simp) (AllReadyH.cons (o := ({ dst := some 24, op := Go.Op.call { callee := Go.Callee.value (Go.Operand.func 39), args := #[Go.Operand.tmp 18, Go.Operand.tmp 23], argTypes := #[50, 52] }, type := 52, pos := _, after := #[{ on := 0, ground := Go.Ground.data }, { on := 5, ground := Go.Ground.data }, { on := 4, ground := Go.Ground.chain }], guard := none } : Oper)) rfl (fun KK hK => ?_) AllReadyH.nil)
        go_simp
        refine (HMX.out _ (bcat2 hB hBd)).mono ?_
        rintro e7 U3 ⟨rfl, hl3⟩
        try go_wp2_with fail
        have hBe := bcat2 hBd hl3
        refine hK.out _ _ (hS _ hBe) (fun hHeld => ?_)
        clear hK
        try simp only [Act.put, List.setIfInBounds_toArray, List.set_cons_zero, List.set_cons_succ]
        refine wpAnyH_take (i := 7) (oi := ({ dst := some 7, op := Go.Op.assign (Go.Operand.tmp 24), type := 52, pos := _, after := #[{ on := 6, ground := Go.Ground.data }, { on := 6, ground := Go.Ground.chain }, { on := 0, ground := Go.Ground.phase }, { on := 1, ground := Go.Ground.phase }, { on := 2, ground := Go.Ground.phase }, { on := 3, ground := Go.Ground.phase }, { on := 4, ground := Go.Ground.phase }, { on := 5, ground := Go.Ground.phase }, { on := 6, ground := Go.Ground.phase }], guard := none } : Oper)) (v := ?_) rfl (by kernel_rfl) (by kernel_rfl) (by kernel_rfl) (fun _ _ _ h => h) (Or.inl ⟨by rfl, ?_⟩) (by assumption) ?_
        rotate_left
        · (intro w hSw; (try dsimp only at hSw); go_simp; try with_reducible rfl)
        simp only [Act.put, List.setIfInBounds_toArray, List.set_cons_zero, List.set_cons_succ]
        refine wpAnyH_done (by kernel_rfl) ?_ _
        clear hHeld hS hS0 hor
        have hXe := blk_below hX hBe
        have hBf := bcat2 hB hBe
        by_cases hrs : bs r n = bs s n
        · have HRS := hide hrs
          rw [hrs]
          clear hrs
          go_wp2
          go_roundw
          case rel => exact ⟨k + 1, by omega, by go_num, rfl, fun a q ha hq => by
            by_cases hak : a < k
            · exact HN.out a q hak hq
            · have hak : a = k := by omega
              subst hak
              exact .inl ((bs_ext fun x hx => by rw [Bool.eq_iff_iff]; exact (hq x hx).trans (HR.out x hx).symm).trans HRS.out), hXe, hBf⟩
          case measure => simp [intOf]; omega
        · have hne : ((bs r n : Int) != (bs s n : Int)) = true := by
            have : ¬ (bs r n : Int) = (bs s n : Int) := by omega
            simpa using this
          have hln := lst_len n r
          have hle : 1 ≤ (lst n r).length := List.length_pos_of_mem (mem_lst.2 ⟨hen, (HR.out e hen).2 (Fin.Gen.sg _).one⟩)
          have hsub : ∀ x, x < n → s x = true → r x = true := fun x hx h1 => (HR.out x hx).2 (Fin.Gen.base (List.mem_range.2 hx) (by simp [h1]))
          have hgt : (lst n s).length < (lst n r).length := (lst_less hsub).2 (Classical.byContradiction fun h9 => hrs (bs_ext fun x hx => by
            cases h1 : r x with
            | true =>
              cases h2 : s x with
              | true => rfl
              | false => exact absurd ⟨x, hx, h1, by simp [h2]⟩ h9
            | false =>
              cases h2 : s x with
              | true => rw [hsub x hx h2] at h1; cases h1
              | false => rfl))
          have HPO := hide (fun W => isPower_ok (lst n r).length p W hle (by omega) hp2 hp1)
          go_wp2_with fail
          refine (HLN.out r _).mono ?_
          rintro e8 U4 ⟨rfl, rfl⟩
          go_wp2_with fail
          refine (HPO.out _).mono ?_
          rintro e9 U5 ⟨b, rfl, hb, hb5⟩
          have HBB := hide hb
          clear hb
          have hXg := blk_below hXe hb5
          have hBg := bcat2 hBf hb5
          cases b with
          | true =>
            have HPR := hide (HBB.out.1 rfl)
            clear HBB
            have hcr := Pop.cnt_bs r hn
            have hcs := Pop.cnt_bs s hn
            have HSR := hide (show subT n zs e r = true from subT_iff.2 ⟨(HR.out e hen).2 (Fin.Gen.sg _).one, fun a b ha hb h1 h2 => (HR.out _ (tm_lt HGR.out.tab (List.mem_range.1 ha) (List.mem_range.1 hb))).2 ((Fin.Gen.sg _).mul a b ha hb ((HR.out a (List.mem_range.1 ha)).1 h1) ((HR.out b (List.mem_range.1 hb)).1 h2))⟩)
            go_wp2
            go_roundw
            case rel => exact ⟨r, rfl, HSR.out, HPR.out, hXg, hBg⟩
            case measure => simp [intOf]; omega
          | false =>
            have HPR := hide (show ¬ isPw (lst n r).length p from fun h9 => by have := HBB.out.2 h9; cases this)
            clear HBB
            go_wp2
            go_roundw
            case rel => exact ⟨k + 1, by omega, by go_num, rfl, fun a q ha hq => by
              by_cases hak : a < k
              · exact HN.out a q hak hq
              · have hak : a = k := by omega
                subst hak
                rw [lst_same (fun x hx => (hq x hx).trans (HR.out x hx).symm)]
                exact .inr HPR.out, hXg, hBg⟩
            case measure => simp [intOf]; omega
      · have hki : ¬ (k : Int) < (n : Int) := by omega
        have hkk : k = n := by omega
        have HNN := hide (fun a (q : Nat → Bool) (ha : a < n) => HN.out a q (by omega))
        go_wp2
        go_ret
        exact ⟨s, rfl, ⟨HS.out, HPW.out, HNN.out⟩, hB⟩
end Go.Proofs.YtjiapicknkjhmaaDoor

namespace Go.Proofs.YtjiapicknkjhmaaDoor
open Go Go.RowKit Go.Maps

set_option maxRecDepth 100000 in
set_option maxHeartbeats 2000000 in
theorem conjd_ok (n : Nat) (v u : Value) (zs : List Int) (e a : Nat) (q : Nat → Bool) (w : World) (hG : GA w n v e u zs) (hT : Tab w) (ha : a < n) :
    Calls Tryd.prog 59 #[.agg #[.int .i64 n, v, .int .i64 e, u], .int .u64 (bs q n), .int .i64 a] w fun x w' => x = .returned (.int .u64 (bs (cjq n zs e q a) n)) ∧ Below w.heap.size w w' := by
  have hn := hG.le
  have hg := hG.grp
  have hB0 : Below w.heap.size w (w.alloc (.cells #[.int .i64 n, v, .int .i64 e, u] 50)) := balloc w _
  have hX0 := Box4.new w n e v u
  obtain ⟨w0, hw0⟩ : ∃ w0, w0 = w.alloc (.cells #[.int .i64 n, v, .int .i64 e, u] 50) := ⟨_, rfl⟩
  rw [← hw0] at hB0 hX0
  have hT0 := hT.below hB0
  have HL := hide (list_ok n q w0 hn hT0)
  have HM := hide (fun x (h : x ∈ lst n q) => (mem_lst.1 h).1)
  have hll := lst_len n q
  show Calls Tryd.prog 59 _ w fun x w' => x = .returned (.int .u64 (bs (cjl n zs e (lst n q) a) n)) ∧ Below w.heap.size w w'
  generalize lst n q = xs at *
  go_enter Tryd.func59, Tryd.ntmps59
  go_wp2_with fail
  rw [← hw0]
  clear hw0
  refine HL.out.mono ?_
  rintro x w1 ⟨r, rfl, hr, hb1⟩
  obtain ⟨ra, rc, pb, po, rfl, hr, hp, hq3, hq4, _⟩ := hr
  rw [li_len] at hq3 ⊢
  have hB1 := bcat2 hB0 hb1
  have HR := hide hr
  have HLL := hide (li_len xs)
  clear hr hq4
  go_wp2
  go_loopw [7, 13] (fun s i wr => ∃ k : Nat, k ≤ xs.length ∧ i = .int .i64 k ∧ s = .int .u64 (bs (cjl n zs e (xs.take k) a) n) ∧ Below w1.heap.size w1 wr) (fun _ i _ => xs.length - (intOf i).toNat)
  case atStart => exact ⟨0, Nat.zero_le _, rfl, by rw [List.take_zero, show bs (cjl n zs e [] a) n = 0 from bs_none n]; rfl, Below.refl _ _⟩
  case round =>
    obtain ⟨k, hk, rfl, rfl, hB⟩ := hrel
    by_cases hlt : k < xs.length
    · have hck := (HR.out.below hB hp).cell k (by rw [HLL.out]; exact hlt)
      rw [li_get hlt] at hck
      obtain rfl := HR.out.at_ (by rw [HLL.out]; omega)
      obtain ⟨x, hxe⟩ : ∃ x, xs[k] = x := ⟨_, rfl⟩
      have hxn : x < n := by rw [← hxe]; exact HM.out _ (List.getElem_mem hlt)
      have hsn : xs.take (k + 1) = xs.take k ++ [x] := by rw [List.take_succ_eq_append_getElem hlt, hxe]
      rw [hxe] at hck
      have hGr := (hG.below hB1).below hB
      have hct : Fin.cj (tm n zs) (iv n zs e) x a < n := List.mem_range.1 (Fin.cj_mem (grp_fg hg) (grp_iv hg) (List.mem_range.2 hxn) (List.mem_range.2 ha))
      have hor := bs_put (n := n) (t := Fin.cj (tm n zs) (iv n zs e) x a) (p := cjl n zs e (xs.take k) a) (q := cjl n zs e (xs.take (k + 1)) a) hn (fun z => by
        unfold cjl
        rw [hsn, List.any_append]
        simp only [List.any_cons, List.any_nil, Bool.or_false]
        congr 1
        rw [Bool.eq_iff_iff, decide_eq_true_eq, decide_eq_true_eq]
        exact eq_comm)
      have HCM := hide (conj_ok n v u zs e x a wr hGr hxn ha)
      have HOF := hide (fun W b (h : W.cell? ⟨b, 0, none⟩ = some (.int .i64 (Fin.cj (tm n zs) (iv n zs e) x a))) => of_one n b (Fin.cj (tm n zs) (iv n zs e) x a) W hn hct h)
      obtain ⟨g0, g1, g2, g3⟩ := (hX0.below (bcat2 hb1 hB)).cells
      generalize Fin.cj (tm n zs) (iv n zs e) x a = t at *
      generalize bs (fun z => decide (z = t)) n = T9 at *
      clear hsn hxe
      go_wp2_with fail
      refine HCM.out.mono ?_
      rintro x9 w7 ⟨rfl, hb7⟩
      have hB8 := bcat2 hB (bcat2 hb7 (balloc w7 (.cells #[.int .i64 t] 3)))
      clear g0 g1 g2 g3
      go_wp2_with fail
      refine (HOF.out _ _ (cell1 _ _ _)).mono ?_
      rintro x9 w8 ⟨rfl, rfl⟩
      go_wp2
      go_roundw
      case rel => exact ⟨k + 1, by omega, by go_num, rfl, hB8⟩
      case measure => simp [intOf]; omega
    · have hkn : k = xs.length := by omega
      subst hkn
      rw [List.take_length]
      go_wp2
      go_ret
      exact ⟨rfl, bcat2 hB1 hB⟩
theorem und58 : Tryd.prog.underlying 52 = some (.int .u64) := by kernel_rfl
theorem und69 : Tryd.prog.underlying 65 = some (.map 52 92) := by kernel_rfl
theorem key58 : Keyed Tryd.prog 52 := int_keyed und58
/-- A map whose keys are the conjugates of s by the things below k. -/
def Cjs (W : World) (n : Nat) (zs : List Int) (e M k : Nat) (s : Nat → Bool) : Prop :=
  ∃ D : DataW Unit, W.ownsMap Tryd.prog 52 unitElem M k D ∧ ∀ t : Nat, Maps.has D (.int .u64 t) = true ↔ ∃ a, a < k ∧ t = bs (cjq n zs e s a) n
theorem below_grown' {w w' : World} (h : Below w.heap.size w w') (row : Option Nat) : w.grownBy w' row := ⟨h.os, h.tape, h.output, h.size, fun b hb _ => h.block b hb⟩
theorem Cjs.below {W W' : World} {n e M k : Nat} {zs : List Int} {s : Nat → Bool} (h : Cjs W n zs e M k s) (hb : Below W.heap.size W W') : Cjs W' n zs e M k s := by
  obtain ⟨D, h1, h2⟩ := h
  exact ⟨D, h1.kept (below_grown' hb none) (by simp), h2⟩
set_option maxRecDepth 100000 in
set_option maxHeartbeats 4000000 in
theorem sgs_ok (n e p : Nat) (v u : Value) (zs : List Int) (w : World) (hG : GA w n v e u zs) (hT : Tab w) (hp2 : 2 ≤ p) (hp1 : p ≤ 100) :
    Calls Tryd.prog 34 #[.agg #[.int .i64 n, v, .int .i64 e, u], .int .i64 p] w fun x w' => ∃ (s : Nat → Bool) (M : Nat), x = .returned (.map (some M)) ∧ w.heap.size ≤ M ∧ Grown n zs e p s ∧ Cjs w' n zs e M n s ∧ Below w.heap.size w w' := by
  have hn := hG.le
  have hB0 : Below w.heap.size w (w.alloc (.cells #[.int .i64 n, v, .int .i64 e, u] 50)) := balloc w _
  have hX0 : Blk (w.alloc (.cells #[.int .i64 n, v, .int .i64 e, u] 50)) w.heap.size 50 [.int .i64 n, v, .int .i64 e, u] := blk4 _ _ _ _
  have HGW := hide (grown_ok n e p v u zs _ (hG.below hB0) (hT.below hB0) hp2 hp1)
  have HCJ := hide (fun W (a : Nat) (s : Nat → Bool) (h : Below w.heap.size w W) (ha : a < n) => conjd_ok n v u zs e a s W (hG.below h) (hT.below h) ha)
  obtain ⟨_, c0, c1, c2, c3, _⟩ := Four.mk' hX0
  have hmm := @run_makeMap Tryd.prog
  go_enter Tryd.func34, Tryd.ntmps34
  go_wp2_with fail
  refine HGW.out.mono ?_
  rintro x1 w1 ⟨s, rfl, hgr, hb1⟩
  have HGR := hide hgr
  have hX1 := blk_below hX0 hb1
  have hB1 := bcat2 hB0 hb1
  have hs1 : w.heap.size + 1 ≤ w1.heap.size := by have := hb1.size; simpa using this
  clear hgr hX0 hB0 hb1 c0 c1 c2 c3 HGW
  have hX2 := blk_below hX1 (balloc w1 (.map #[] 0))
  have hB2 := bcat2 hB1 (balloc w1 (.map #[] 0))
  have hM0 : Cjs (w1.alloc (.map #[] 0)) n zs e w1.heap.size 0 s := ⟨_, World.ownsMap_made (H := Unit) w1 Tryd.prog 52 unitElem, fun t => by simp [Maps.has]⟩
  obtain ⟨_, c0, c1, c2, c3, _⟩ := Four.mk' hX2
  go_wp2_with fail
  clear c0 c1 c2 c3 hmm hX1 hB1
  generalize w1.alloc (.map #[] 0) = w2 at *
  obtain ⟨M, hM⟩ : ∃ M, M = w1.heap.size := ⟨_, rfl⟩
  rw [← hM] at hM0 hs1 ⊢
  clear hM
  go_loopw [15] (fun i wr => ∃ k : Nat, k ≤ n ∧ i = .int .i64 k ∧ Cjs wr n zs e M k s ∧ Blk wr w.heap.size 50 [.int .i64 n, v, .int .i64 e, u] ∧ Below w.heap.size w wr) (fun i _ => n - (intOf i).toNat)
  case atStart => exact ⟨0, Nat.zero_le _, rfl, hM0, hX2, hB2⟩
  case round =>
    clear hM0 hX2 hB2
    obtain ⟨k, hk, rfl, hC, hX, hB⟩ := hrel
    by_cases hlt : k < n
    · have hki : (k : Int) < (n : Int) := by omega
      obtain ⟨_, c0, c1, c2, c3, _⟩ := Four.mk' hX
      have HC := hide hC
      clear hC
      have HCK := hide (HCJ.out wr k s hB hlt)
      have hkw : (Lit.int .u64 (bs (cjq n zs e s k) n : Nat)).wf = true := WalkArith.wf_u64 (by have := bs_64 (p := cjq n zs e s k) hn; omega)
      have HKEY := hide (keyOf_int_mk und58 hkw)
      clear hkw
      have HK2 := hide (fun (D : DataW Unit) (hI : IsMap D) (hD : ∀ t : Nat, Maps.has D (.int .u64 t) = true ↔ ∃ a, a < k ∧ t = bs (cjq n zs e s a) n) (t : Nat) => show Maps.has (D.put (.int .u64 (bs (cjq n zs e s k) n : Nat)) (.agg [])) (.int .u64 t) = true ↔ ∃ a, a < k + 1 ∧ t = bs (cjq n zs e s a) n from by
        by_cases e9 : t = bs (cjq n zs e s k) n
        · subst e9
          rw [has_put_same hI (by trivial)]
          simp only [true_iff]
          exact ⟨k, by omega, rfl⟩
        · rw [has_put_other (fun h9 => e9 (by injection h9 with _ h9; omega)), hD t]
          constructor
          · rintro ⟨a, ha, h9⟩
            exact ⟨a, by omega, h9⟩
          · rintro ⟨a, ha, h9⟩
            refine ⟨a, ?_, h9⟩
            rcases Nat.lt_succ_iff_lt_or_eq.1 ha with h8 | h8
            · exact h8
            · exact absurd (h8 ▸ h9) e9)
      generalize bs (cjq n zs e s k) n = X9 at *
      go_wp2_with fail
      refine HCK.out.mono ?_
      rintro x5 w5 ⟨rfl, hb5⟩
      obtain ⟨D, hown, hD⟩ := HC.out.below hb5
      have hX5 := blk_below hX hb5
      have hB5 := bcat2 hB hb5
      have hI : IsMap D := by
        obtain ⟨es, clock, hb, F, hs, hD⟩ := hown
        exact ⟨_, hD⟩
      have HD := hide (HK2.out D hI hD)
      have hkey := HKEY.out
      clear hX hB c0 c1 c2 c3 HCK HC hD HK2 HKEY hb5
      go_wp2_with (first
        | (at_mapUpdate; refine wpList_mapUpdate_own _ rfl _ _ _ 65 rfl 52 92 key58 und69 _ M _ D rfl hown (by unfold maxLen; omega) _ _ _ rfl rfl hkey _ [] unitElem_mk ?_; intro w6 hown6 hgrow6))
      go_roundw
      case rel => exact ⟨k + 1, by omega, by go_num, ⟨_, hown6, HD.out⟩, hX5.of_eq (hgrow6.block _ (by have := hB5.size; have := World.block_lt_of_cell? _ _ (Four.mk' hX5).c0; simpa using this) (by simp; omega)), ⟨hgrow6.os.trans hB5.os, hgrow6.tape.trans hB5.tape, hgrow6.output.trans hB5.output, Nat.le_trans hB5.size hgrow6.size, fun g hg => (hgrow6.block g (by have := hB5.size; omega) (by simp; omega)).trans (hB5.block g hg)⟩⟩
      case measure => simp [intOf]; omega
    · have hkk : k = n := by omega
      subst hkk
      have hki : ¬ (k : Int) < (k : Int) := by omega
      go_wp2
      go_ret
      exact ⟨s, M, rfl, by omega, HGR.out, hC, hB⟩
end Go.Proofs.YtjiapicknkjhmaaDoor

namespace Go.Proofs.YtjiapicknkjhmaaDoor
open Go Go.RowKit

theorem one_lsx : ∀ (n a : Nat), a < n → lst n (fun y => decide (y = a)) = [a]
  | 0, a, h => by omega
  | n + 1, a, h => by
    unfold lst
    rw [List.range_succ, List.filter_append]
    by_cases e : a = n
    · subst e
      have : (List.range a).filter (fun y => decide (y = a)) = [] := List.filter_eq_nil_iff.2 fun y hy => by
        have := List.mem_range.1 hy
        simp; omega
      rw [this]
      simp
    · have h9 := one_lsx n a (by omega)
      unfold lst at h9
      rw [h9]
      have : ¬ n = a := fun e9 => e e9.symm
      simp [this]
theorem one_fault {n a : Nat} (h : a < n) : lfault n [(a : Int)] = (0, 0) := by
  have := lst_fault n (fun y => decide (y = a))
  rw [one_lsx n a h] at this
  exact this
theorem lst_le (n : Nat) (p : Nat → Bool) : (lst n p).length ≤ n := by unfold lst; exact Nat.le_trans (List.length_filter_le _ _) (by simp)
/-- Has each thing but the one all, by a number? -/
def smq (n e : Nat) (L : Nat → Nat) : Bool := decide (1 < n) && (List.range n).all fun a => decide (a = e) || !decide (L a < n)
end Go.Proofs.YtjiapicknkjhmaaDoor

namespace Go.Proofs.YtjiapicknkjhmaaDoor
open Go Go.RowKit Go.Maps

theorem slF_blk {w : World} {g n B : Nat} {zs : List Int} (h : Blk w g 3 (zs.map (Value.int .i64))) (hn : n = zs.length) (hl : zs.length ≤ 1000000) (hB : B ≤ g) : SlF B w (.slice (some ⟨g, 0, none⟩) n n) zs := by
  subst hn
  exact ⟨some ⟨g, 0, none⟩, zs.length, g, 0, rfl, ⟨fun _ => rfl, fun j hj => by rw [Nat.zero_add]; exact h.int hj⟩, h.lt, Nat.le_refl _, by unfold maxLen; omega, hB⟩
theorem slF_row {w : World} {base B : Nat} {v : Value} {zs : List Int} (h : Row w base v zs) (hB : B ≤ base) (h0 : 0 < zs.length) : SlF B w v zs := by
  rcases h.2 with ⟨_, hz⟩ | ⟨g, cap, cur, rfl, hgb, hh, h1, h2, _⟩
  · omega
  · refine ⟨some ⟨g, 0, none⟩, cap, g, 0, rfl, ⟨fun _ => rfl, fun j hj => ?_⟩, (Array.getElem?_eq_some_iff.1 hh).1, h1, h2, by omega⟩
    have h3 := h.cells (g := g) rfl j (.int .i64 (zs[j]?.getD 0)) (by simp [hj])
    rw [show (⟨g, 0, none⟩ : Addr).add j = ⟨g, j, none⟩ by unfold Addr.add; split <;> simp_all] at h3
    rw [Nat.zero_add]; exact h3
theorem slF_keep {B : Nat} {w w' : World} {v : Value} {zs : List Int} (h : SlF B w v zs) (hs : w.heap.size ≤ w'.heap.size) (hk : ∀ g, B ≤ g → g < w.heap.size → w'.heap[g]? = w.heap[g]?) : Sl w' v zs := by
  obtain ⟨a, cap, pb, po, rfl, h1, h2, h3, h4, h5⟩ := h
  exact ⟨a, cap, pb, po, rfl, h1.of_eq (hk pb h5 h2), Nat.lt_of_lt_of_le h2 hs, h3, h4⟩
end Go.Proofs.YtjiapicknkjhmaaDoor

namespace Go.Proofs.YtjiapicknkjhmaaDoor
open Go Go.RowKit

theorem all_lst (n : Nat) : lst n (fun _ => true) = List.range n := by unfold lst; simp
theorem all_pset (n : Nat) : lst n (pset (li (List.range n))) = List.range n := by
  have := lst_pset n (fun _ => true)
  rwa [all_lst] at this
section
variable {n e : Nat} {zs : List Int} {p : Nat → Bool}
theorem der_sub (g : IsGrp n zs e) (hp : ∀ a, a < n → (p a = true ↔ Mkd n zs e (cmq n zs e (List.range n) (List.range n)) a)) : subT n zs e (pset (li (lst n p))) = true :=
  sg_test g (Fin.Gen.sg _) hp
theorem der_nrm (g : IsGrp n zs e) (hp : ∀ a, a < n → (p a = true ↔ Mkd n zs e (cmq n zs e (List.range n) (List.range n)) a)) : nrmq n zs e (pset (li (lst n p))) = true :=
  nm_test g (Fin.der_nm (grp_fg g) (grp_iv g)) (fun a ha => (hp a ha).trans (cms_iff a))
/-- The quotient by the commutators commutes. -/
theorem der_com (g : IsGrp n zs e) (hp : ∀ a, a < n → (p a = true ↔ Mkd n zs e (cmq n zs e (List.range n) (List.range n)) a)) :
    comB (fsts n (rgtq n zs (lst n (pset (li (lst n p))))) n).length (mkT (fsts n (rgtq n zs (lst n (pset (li (lst n p))))) n).length (quoF n zs (rgtq n zs (lst n (pset (li (lst n p))))))) = true := by
  have hs := der_sub g hp
  have hN := der_nrm g hp
  have PP := rgt_parts g hs
  rw [comB_iff]
  intro i j hi hj
  rw [tm_mk hi hj, tm_mk hj hi]
  have ha := fst_lt hi
  have hb := fst_lt hj
  have ea := prts_num_at PP hi
  have eb := prts_num_at PP hj
  generalize (fsts n (rgtq n zs (lst n (pset (li (lst n p))))) n)[i] = a at *
  generalize (fsts n (rgtq n zs (lst n (pset (li (lst n p))))) n)[j] = b at *
  rw [← ea, ← eb, quo_hom g hs hN ha hb, quo_hom g hs hN hb ha]
  have hab := tm_lt g.tab ha hb
  have hba := tm_lt g.tab hb ha
  have hc := List.mem_range.1 (Fin.cm_mem (grp_fg g) (grp_iv g) (List.mem_range.2 ha) (List.mem_range.2 hb))
  have hce := Fin.cm_eq (grp_fg g) (grp_iv g) (List.mem_range.2 ha) (List.mem_range.2 hb)
  have hcp : Fin.cm (tm n zs) (iv n zs e) a b ∈ lst n (pset (li (lst n p))) := by
    rw [lst_pset, mem_lst]
    refine ⟨hc, (hp _ hc).2 ((cms_iff _).2 (Fin.Gen.base (List.mem_range.2 hc) ⟨a, b, List.mem_range.2 ha, List.mem_range.2 hb, rfl⟩))⟩
  generalize Fin.cm (tm n zs) (iv n zs e) a b = c at *
  have h1 : rgtq n zs (lst n (pset (li (lst n p)))) e c = true := mem_rgt.2 ⟨c, hcp, g.right c hc⟩
  have h2 := rgt_both g hs hN hba g.elt hba hc (PP.refl _ hba) h1
  rw [g.right _ hba, hce] at h2
  exact ((prts_num_eq PP hba hab).2 h2).symm
end
end Go.Proofs.YtjiapicknkjhmaaDoor

namespace Go.Proofs.YtjiapicknkjhmaaDoor
open Go Go.RowKit Go.Maps

set_option maxRecDepth 100000 in
set_option maxHeartbeats 4000000 in
theorem setOf_any (n : Nat) (v : Value) (ls : List Int) (w : World) (hn : n ≤ 60) (hv : Sl w v ls) :
    Calls Tryd.prog 58 #[.int .i64 n, v] w fun x w' => x = .returned (.tuple #[.int .u64 (okN (lfault n ls).1 (bs (pset ls) n)), .agg #[.int .i64 (lfault n ls).1, .int .i64 (lfault n ls).2]]) ∧ Below w.heap.size w w' := by
  have hB0 : Below w.heap.size w (w.alloc (.cells #[.int .i64 0, .int .i64 0] 27)) := balloc w _
  have hR0 := Two.new w
  have hv0 := hv.below hB0
  obtain ⟨a, cap, pb, po, rfl, hrw0, hpw0, hq3, hq4⟩ := id hv
  have HRW := hide hrw0
  have HPB := hide hpw0
  have hr := hrw0.below hB0 hpw0
  have hp := Nat.lt_of_lt_of_le hpw0 hB0.size
  clear hrw0 hpw0
  obtain ⟨_, y0, y1, fy0, fy1, s0, s1⟩ := id hR0
  by_cases hmany : n < ls.length
  · have hR6 : Blk ((w.alloc (.cells #[.int .i64 0, .int .i64 0] 27)).setCell ⟨w.heap.size, 0, none⟩ (.int .i64 2)) w.heap.size 27 [.int .i64 2, .int .i64 0] := hR0.blk.set 0 _
    have hB6 : Below w.heap.size w ((w.alloc (.cells #[.int .i64 0, .int .i64 0] 27)).setCell ⟨w.heap.size, 0, none⟩ (.int .i64 2)) := hB0.setCell (p := ⟨w.heap.size, 0, none⟩) (by simp) _
    rw [lfault_many hmany]
    have hmi : (n : Int) < (ls.length : Int) := by omega
    go_enter Tryd.func58, Tryd.ntmps58
    go_wp2
    have hR7 := blk0 (w := w) (T := 27) (.int .i64 2) (.int .i64 0)
    obtain ⟨z0, z1, _, _⟩ := hR7.two
    exact bodyPost_ret (v := .tuple #[.int .u64 0, .agg #[.int .i64 2, .int .i64 0]]) (by simp [results, Tryd.results58, go_sem, z0, z1]) rfl ⟨rfl, balloc w _⟩
  · have hle : ls.length ≤ n := by omega
    have hmi : ¬ (n : Int) < (ls.length : Int) := by omega
    have HV := hide hv
    clear y0 y1 fy0 fy1 s0 s1 hv0 hv
    go_enter Tryd.func58, Tryd.ntmps58
    go_wp2
    go_loopw [15] (fun i wr => ∃ k : Nat, k ≤ ls.length ∧ i = .int .i64 k ∧ (∀ t, t < k → (rbad n ls t || fbad ls t) = false) ∧ Two wr w.heap.size ∧ Below w.heap.size w wr) (fun i _ => ls.length - (intOf i).toNat)
    case atStart => exact ⟨0, Nat.zero_le _, rfl, fun t ht => by omega, hR0, hB0⟩
    case round =>
      obtain ⟨k, hk, rfl, hno, hR, hB⟩ := hrel
      have HNO := hide hno
      clear hno
      obtain ⟨_, y0, y1, fy0, fy1, s0, s1⟩ := id hR
      have hrw : Reads wr a pb po ls := by
        exact HRW.out.below hB HPB.out
      by_cases hlt : k < ls.length
      · have hck := hrw.cell k hlt
        obtain rfl := hrw.at_ (by omega)
        obtain ⟨c, hc⟩ : ∃ c, ls[k]?.getD 0 = c := ⟨_, rfl⟩
        rw [hc] at hck
        have hki : (k : Int) < (ls.length : Int) := by omega
        by_cases hc0 : c < 0
        · have HLF := hide (lfault_r hle hlt HNO.out (by unfold rbad; rw [hc]; simp [hc0]))
          clear hc hrw hr
          obtain ⟨hR9, hB9⟩ := put2 hR.blk hB (Nat.le_refl _) 3 k
          go_wp2
          generalize (wr.setCell ⟨w.heap.size, 0, none⟩ (.int .i64 3)).setCell ⟨w.heap.size, 1, none⟩ (.int .i64 k) = W at hR9 hB9 ⊢
          obtain ⟨z0, z1, _, _⟩ := hR9.two
          exact bodyPost_ret (v := .tuple #[.int .u64 0, .agg #[.int .i64 3, .int .i64 k]]) (by simp [results, Tryd.results58, go_sem, z0, z1]) rfl ⟨by rw [HLF.out]; rfl, hB9⟩
        · by_cases hcn : (n : Int) ≤ c
          · have HLF := hide (lfault_r hle hlt HNO.out (by unfold rbad; rw [hc]; simp [hcn]))
            clear hc hrw hr
            obtain ⟨hR9, hB9⟩ := put2 hR.blk hB (Nat.le_refl _) 3 k
            go_wp2
            generalize (wr.setCell ⟨w.heap.size, 0, none⟩ (.int .i64 3)).setCell ⟨w.heap.size, 1, none⟩ (.int .i64 k) = W at hR9 hB9 ⊢
            obtain ⟨z0, z1, _, _⟩ := hR9.two
            exact bodyPost_ret (v := .tuple #[.int .u64 0, .agg #[.int .i64 3, .int .i64 k]]) (by simp [results, Tryd.results58, go_sem, z0, z1]) rfl ⟨by rw [HLF.out]; rfl, hB9⟩
          · have HRB := hide (show rbad n ls k = false by unfold rbad; rw [hc]; simp; omega)
            have hcn' : c < (n : Int) := by omega
            rcases Nat.eq_zero_or_pos k with rfl | hkp
            · have HFB := hide (show fbad ls 0 = false by simp [fbad])
              rw [Nat.add_zero] at hck
              clear hc hrw hr
              go_wp2
              go_roundw
              case rel => exact ⟨1, by omega, by go_num, fun t ht => by
                have : t = 0 := by omega
                subst this; rw [HRB.out, HFB.out]; rfl, hR, hB⟩
              case measure => simp [intOf]; omega
            · obtain ⟨m, rfl⟩ : ∃ m, k = m + 1 := ⟨k - 1, by omega⟩
              have hcm := hrw.cell m (by omega)
              obtain ⟨d, hd⟩ : ∃ d, ls[m]?.getD 0 = d := ⟨_, rfl⟩
              rw [hd] at hcm
              have hfb : fbad ls (m + 1) = decide (c ≤ d) := by
                unfold fbad
                rw [Nat.add_sub_cancel, hc, hd]
                simp
              have hmi2 : (m : Int) < (ls.length : Int) := by omega
              by_cases hcd : c ≤ d
              · have HLF := hide (lfault_f hle hlt HNO.out HRB.out (by rw [hfb]; simp [hcd]))
                clear hc hd hfb hrw hr
                obtain ⟨hR9, hB9⟩ := put2 hR.blk hB (Nat.le_refl _) 5 ((m : Int) + 1)
                go_wp2
                generalize (wr.setCell ⟨w.heap.size, 0, none⟩ (.int .i64 5)).setCell ⟨w.heap.size, 1, none⟩ (.int .i64 ((m : Int) + 1)) = W at hR9 hB9 ⊢
                obtain ⟨z0, z1, _, _⟩ := hR9.two
                exact bodyPost_ret (v := .tuple #[.int .u64 0, .agg #[.int .i64 5, .int .i64 ((m : Int) + 1)]]) (by simp [results, Tryd.results58, go_sem, z0, z1]) rfl ⟨by rw [HLF.out]; simp [okN], hB9⟩
              · have HFB := hide (show fbad ls (m + 1) = false by rw [hfb]; simp; omega)
                clear hc hd hfb hrw hr
                go_wp2
                go_roundw
                case rel => exact ⟨m + 1 + 1, by omega, by go_num, fun t ht => by
                  by_cases e : t = m + 1
                  · rw [e, HRB.out, HFB.out]; rfl
                  · exact HNO.out t (by omega), hR, hB⟩
                case measure => simp [intOf]; omega
      · have hkk : k = ls.length := by omega
        subst hkk
        have hlf := lfault_ok hle HNO.out
        have hlz : (lfault n ls).1 = 0 := by rw [hlf]
        have hset := set_lst hlz
        have hmem : ∀ x, x ∈ lst n (pset ls) → x < n := fun x hx => (mem_lst.1 hx).1
        have hll : (lst n (pset ls)).length ≤ 60 := Nat.le_trans (lst_len _ _) hn
        have hso := HV.out.below hB
        rw [hset] at hso
        have hof := of_ok n _ (lst n (pset ls)) wr hn hll (by rw [← hset] at hso ⊢; exact hso) hmem
        have hbs : bs (fun a => decide (a ∈ lst n (pset ls))) n = bs (pset ls) n := bs_ext fun a ha => by
          rw [Bool.eq_iff_iff, decide_eq_true_eq, mem_lst]; simp [ha]
        rw [hbs] at hof
        have HOF := hide hof
        have HLF := hide hlf
        clear hof hlf hlz hset hso hbs hmem hrw hr
        go_wp2_with fail
        refine HOF.out.mono ?_
        rintro e1 w1 ⟨rfl, rfl⟩
        go_wp2
        exact bodyPost_ret (v := .tuple #[.int .u64 (bs (pset ls) n), .agg #[.int .i64 0, .int .i64 0]]) (by simp [results, Tryd.results58, go_sem, y0, y1]) rfl ⟨by rw [HLF.out]; rfl, hB⟩
set_option maxRecDepth 100000 in
set_option maxHeartbeats 4000000 in
theorem oset_badg (N : Int) (v u : Value) (zs : List Int) (w : World) (hv : Sl w v zs) (hc : (gfault N zs).1 ≠ 0) :
    Calls Tryd.prog 26 #[.agg #[.int .i64 N, v], u] w fun x w' => x = .returned (.tuple #[.agg #[.int .i64 0, .slice none 0 0, .int .i64 0, .slice none 0 0], .int .u64 0, .agg #[.int .i64 (gfault N zs).1, .int .i64 (gfault N zs).2]]) ∧ Below w.heap.size w w' := by
  obtain ⟨w0, BG⟩ := Beg4.new w N v
  have hv0 := hv.below BG.bel
  obtain ⟨c0, c1, _, _⟩ := BG.box.two
  have hck := opened_bad N v zs w0 hv0 hc
  obtain ⟨c, i, hci⟩ : ∃ c i, gfault N zs = (c, i) := ⟨_, _, rfl⟩
  rw [hci] at hck hc ⊢
  simp only at hc hck
  have HCK := hide hck
  clear hck hci
  have hcb : (c != 0) = true := by simpa using hc
  rw [BG.eq] at c0 c1
  go_enter Tryd.func26, Tryd.ntmps26
  go_wp2_with fail
  rw [← BG.eq]
  refine HCK.out.mono ?_
  rintro x w1 ⟨rfl, hb1⟩
  clear c0 c1
  obtain ⟨w2, hw2⟩ : ∃ w2, w2 = (w1.alloc (.cells #[.int .i64 0, .slice none 0 0, .int .i64 0, .slice none 0 0] 50)).alloc (.cells #[.int .i64 c, .int .i64 i] 27) := ⟨_, rfl⟩
  have hB1 : Below w0.heap.size w0 w2 := by rw [hw2]; exact bcat2 hb1 ((balloc w1 _).alloc (by simp) _)
  have hF1 : Blk w2 (w1.heap.size + 1) 27 [.int .i64 c, .int .i64 i] := by
    rw [hw2]
    have := blk0 (w := w1.alloc (.cells #[.int .i64 0, .slice none 0 0, .int .i64 0, .slice none 0 0] 50)) (T := 27) (.int .i64 c) (.int .i64 i)
    rwa [World.size_alloc] at this
  obtain ⟨hG1, g0, g1, g2, g3, gf0, gf1, gf2, gf3, gs0, gs1, gs2, gs3⟩ := Four.mk' (blk_below BG.grp hB1)
  have hR1 := blk_below BG.res hB1
  have hBw := bcat BG.bel hB1 BG.bel.size
  obtain ⟨y0, y1, fy0, fy1⟩ := hR1.two
  obtain ⟨t0, t1, _, _⟩ := hF1.two
  rw [hw2] at t0 t1
  go_wp2_with fail
  rw [← hw2]
  rw [← hw2] at t0 t1
  clear hw2
  go_region
  all_goals (
    go_wp2
    obtain ⟨hR6, hB6⟩ := put2 hR1 hBw (by omega) c i
    have hB7 := bdrew hB6
    have hR7 : Blk ((w2.setCell ⟨w.heap.size + 1 + 1, 0, none⟩ (.int .i64 c)).setCell ⟨w.heap.size + 1 + 1, 1, none⟩ (.int .i64 i)).drew (w.heap.size + 1 + 1) 27 [.int .i64 c, .int .i64 i] := hR6
    have hG7 : Blk ((w2.setCell ⟨w.heap.size + 1 + 1, 0, none⟩ (.int .i64 c)).setCell ⟨w.heap.size + 1 + 1, 1, none⟩ (.int .i64 i)).drew (w.heap.size + 1) 50 [.int .i64 0, .slice none 0 0, .int .i64 0, .slice none 0 0] :=
      (hG1.other (p := ⟨w.heap.size + 1 + 1, 0, none⟩) (by simp) (.int .i64 c)).other (p := ⟨w.heap.size + 1 + 1, 1, none⟩) (by simp) (.int .i64 i)
    generalize ((w2.setCell ⟨w.heap.size + 1 + 1, 0, none⟩ (.int .i64 c)).setCell ⟨w.heap.size + 1 + 1, 1, none⟩ (.int .i64 i)).drew = W at hR7 hB7 hG7 ⊢
    obtain ⟨z0, z1, _, _⟩ := hR7.two
    obtain ⟨_, q0, q1, q2, q3, _⟩ := Four.mk' hG7
    exact bodyPost_ret (v := .tuple #[.agg #[.int .i64 0, .slice none 0 0, .int .i64 0, .slice none 0 0], .int .u64 0, .agg #[.int .i64 c, .int .i64 i]]) (by simp [results, Tryd.results26, go_sem, z0, z1, q0, q1, q2, q3]) rfl ⟨rfl, hB7⟩)
set_option maxRecDepth 100000 in
set_option maxHeartbeats 4000000 in
theorem oset_badl (n e : Nat) (v u : Value) (zs ls : List Int) (w : World) (hv : Sl w v zs) (hg : IsGrp n zs e) (hu : Sl w u ls) (hc : (lfault n ls).1 ≠ 0) :
    Calls Tryd.prog 26 #[.agg #[.int .i64 n, v], u] w fun x w' => x = .returned (.tuple #[.agg #[.int .i64 0, .slice none 0 0, .int .i64 0, .slice none 0 0], .int .u64 0, .agg #[.int .i64 (lfault n ls).1, .int .i64 (lfault n ls).2]]) ∧ Below w.heap.size w w' := by
  obtain ⟨va, vl, vc, rfl⟩ := hv.isSlice
  obtain ⟨w0, BG⟩ := Beg4.new w n (.slice va vl vc)
  have hv0 := hv.below BG.bel
  have hu0 := hu.below BG.bel
  obtain ⟨c0, c1, _, _⟩ := BG.box.two
  have HCK := hide (opened_good n e (.slice va vl vc) zs w0 hv0 hg)
  have HSO := hide (fun W (h : Sl W u ls) => setOf_any n u ls W hg.tab.le h)
  obtain ⟨c, i, hci⟩ : ∃ c i, lfault n ls = (c, i) := ⟨_, _, rfl⟩
  rw [hci] at HSO hc ⊢
  simp only at hc HSO
  rw [show okN c (bs (pset ls) n) = 0 from if_neg hc] at HSO
  clear hci
  have hcb : (c != 0) = true := by simpa using hc
  rw [BG.eq] at c0 c1
  go_enter Tryd.func26, Tryd.ntmps26
  go_wp2_with fail
  rw [← BG.eq]
  refine HCK.out.mono ?_
  rintro x w1 ⟨iv9, rfl, hGA, hb1⟩
  obtain ⟨ia, il, ic, rfl⟩ := hGA.sl.isSlice
  clear c0 c1 HCK
  obtain ⟨w2, hw2⟩ : ∃ w2, w2 = (w1.alloc (.cells #[.int .i64 n, (.slice va vl vc), .int .i64 e, (.slice ia il ic)] 50)).alloc (.cells #[.int .i64 0, .int .i64 0] 27) := ⟨_, rfl⟩
  have hB1 : Below w0.heap.size w0 w2 := by rw [hw2]; exact bcat2 hb1 ((balloc w1 _).alloc (by simp) _)
  have hF1 : Blk w2 (w1.heap.size + 1) 27 [.int .i64 0, .int .i64 0] := by
    rw [hw2]
    have := blk0 (w := w1.alloc (.cells #[.int .i64 n, (.slice va vl vc), .int .i64 e, (.slice ia il ic)] 50)) (T := 27) (.int .i64 0) (.int .i64 0)
    rwa [World.size_alloc] at this
  obtain ⟨t0, t1, _, _⟩ := hF1.two
  obtain ⟨k0, k1, _, _⟩ := (blk_below BG.box hB1).two
  rw [hw2] at t0 t1 k0 k1
  have hz9 : w.heap.size + 3 ≤ w1.heap.size := by rw [← BG.size]; exact hb1.size
  go_wp2_with fail
  rw [← hw2]
  clear t0 t1 k0 k1 hw2
  refine (HSO.out w2 (hu0.below hB1)).mono ?_
  rintro x w3 ⟨rfl, hb3⟩
  have hF3 := blk_below hF1 hb3
  have hB3 := bcat2 hB1 hb3
  obtain ⟨f0, f1, ff0, ff1⟩ := hF3.two
  have hBw3 := bcat BG.bel hB3 BG.bel.size
  have hG3 := blk_below BG.grp hB3
  have hR3 := blk_below BG.res hB3
  obtain ⟨hF4, hB4⟩ := put2 hF3 hBw3 (by omega) c i
  have hG4 := (hG3.other (p := ⟨w1.heap.size + 1, 0, none⟩) (by simp; omega) (.int .i64 c)).other (p := ⟨w1.heap.size + 1, 1, none⟩) (by simp; omega) (.int .i64 i)
  have hR4 := (hR3.other (p := ⟨w1.heap.size + 1, 0, none⟩) (by simp; omega) (.int .i64 c)).other (p := ⟨w1.heap.size + 1, 1, none⟩) (by simp; omega) (.int .i64 i)
  go_wp2_with fail
  generalize (w3.setCell ⟨w1.heap.size + 1, 0, none⟩ (.int .i64 c)).setCell ⟨w1.heap.size + 1, 1, none⟩ (.int .i64 i) = w4 at hF4 hB4 hG4 hR4 ⊢
  obtain ⟨hG1, g0, g1, g2, g3, gf0, gf1, gf2, gf3, gs0, gs1, gs2, gs3⟩ := Four.mk' hG4
  obtain ⟨y0, y1, fy0, fy1⟩ := hR4.two
  obtain ⟨t0, t1, _, _⟩ := hF4.two
  go_wp2_with fail
  go_region
  all_goals (
    go_wp2
    obtain ⟨hR6, hB6⟩ := put2 hR4 hB4 (by omega) c i
    have hB7 := bdrew hB6
    have hR7 : Blk ((w4.setCell ⟨w.heap.size + 1 + 1, 0, none⟩ (.int .i64 c)).setCell ⟨w.heap.size + 1 + 1, 1, none⟩ (.int .i64 i)).drew (w.heap.size + 1 + 1) 27 [.int .i64 c, .int .i64 i] := hR6
    have hG7 : Blk ((w4.setCell ⟨w.heap.size + 1 + 1, 0, none⟩ (.int .i64 c)).setCell ⟨w.heap.size + 1 + 1, 1, none⟩ (.int .i64 i)).drew (w.heap.size + 1) 50 [.int .i64 0, .slice none 0 0, .int .i64 0, .slice none 0 0] :=
      (hG1.other (p := ⟨w.heap.size + 1 + 1, 0, none⟩) (by simp) (.int .i64 c)).other (p := ⟨w.heap.size + 1 + 1, 1, none⟩) (by simp) (.int .i64 i)
    generalize ((w4.setCell ⟨w.heap.size + 1 + 1, 0, none⟩ (.int .i64 c)).setCell ⟨w.heap.size + 1 + 1, 1, none⟩ (.int .i64 i)).drew = W at hR7 hB7 hG7 ⊢
    obtain ⟨z0, z1, _, _⟩ := hR7.two
    obtain ⟨_, q0, q1, q2, q3, _⟩ := Four.mk' hG7
    exact bodyPost_ret (v := .tuple #[.agg #[.int .i64 0, .slice none 0 0, .int .i64 0, .slice none 0 0], .int .u64 0, .agg #[.int .i64 c, .int .i64 i]]) (by simp [results, Tryd.results26, go_sem, z0, z1, q0, q1, q2, q3]) rfl ⟨rfl, hB7⟩)
theorem oset_bad (N : Int) (v u : Value) (zs ls : List Int) (w : World) (hv : Sl w v zs) (hu : Sl w u ls) (hc : (sfault N zs ls).1 ≠ 0) :
    Calls Tryd.prog 26 #[.agg #[.int .i64 N, v], u] w fun x w' => x = .returned (.tuple #[.agg #[.int .i64 0, .slice none 0 0, .int .i64 0, .slice none 0 0], .int .u64 0, .agg #[.int .i64 (sfault N zs ls).1, .int .i64 (sfault N zs ls).2]]) ∧ Below w.heap.size w w' := by
  rcases sfault_cases N zs ls hc with ⟨h1, h2⟩ | ⟨n, e, rfl, hg, h1, h2⟩
  · rw [h2]; exact oset_badg N v u zs w hv h1
  · rw [h2]; exact oset_badl n e v u zs ls w hv hg hu h1
set_option maxRecDepth 100000 in
set_option maxHeartbeats 4000000 in
theorem oset_good (n e : Nat) (v u : Value) (zs ls : List Int) (w : World) (hv : Sl w v zs) (hg : IsGrp n zs e) (hu : Sl w u ls) (hc : lfault n ls = (0, 0)) :
    Calls Tryd.prog 26 #[.agg #[.int .i64 n, v], u] w fun x w' => ∃ iv9, x = .returned (.tuple #[.agg #[.int .i64 n, v, .int .i64 e, iv9], .int .u64 (bs (pset ls) n), .agg #[.int .i64 0, .int .i64 0]]) ∧ SlF w.heap.size w' iv9 (li ((List.range n).map (iv n zs e))) ∧ Below w.heap.size w w' := by
  obtain ⟨va, vl, vc, rfl⟩ := hv.isSlice
  obtain ⟨w0, BG⟩ := Beg4.new w n (.slice va vl vc)
  have hv0 := hv.below BG.bel
  have hu0 := hu.below BG.bel
  obtain ⟨c0, c1, _, _⟩ := BG.box.two
  have HCK := hide (opened_good n e (.slice va vl vc) zs w0 hv0 hg)
  have HSO := hide (fun W (h : Sl W u ls) => setOf_any n u ls W hg.tab.le h)
  rw [hc] at HSO
  simp only at HSO
  rw [show okN 0 (bs (pset ls) n) = bs (pset ls) n from rfl] at HSO
  clear hc
  rw [BG.eq] at c0 c1
  go_enter Tryd.func26, Tryd.ntmps26
  go_wp2_with fail
  rw [← BG.eq]
  refine HCK.out.mono ?_
  rintro x w1 ⟨iv9, rfl, hGA, hb1⟩
  obtain ⟨ia, il, ic, rfl⟩ := hGA.sl.isSlice
  clear c0 c1 HCK
  obtain ⟨w2, hw2⟩ : ∃ w2, w2 = (w1.alloc (.cells #[.int .i64 n, (.slice va vl vc), .int .i64 e, (.slice ia il ic)] 50)).alloc (.cells #[.int .i64 0, .int .i64 0] 27) := ⟨_, rfl⟩
  have hb2 : Below w1.heap.size w1 w2 := by rw [hw2]; exact (balloc w1 _).alloc (by simp) _
  have hB1 : Below w0.heap.size w0 w2 := bcat2 hb1 hb2
  have hF1 : Blk w2 (w1.heap.size + 1) 27 [.int .i64 0, .int .i64 0] := by
    rw [hw2]
    have := blk0 (w := w1.alloc (.cells #[.int .i64 n, (.slice va vl vc), .int .i64 e, (.slice ia il ic)] 50)) (T := 27) (.int .i64 0) (.int .i64 0)
    rwa [World.size_alloc] at this
  have hH1 : Blk w2 w1.heap.size 50 [.int .i64 n, (.slice va vl vc), .int .i64 e, (.slice ia il ic)] := by
    rw [hw2]; exact (blk4 _ _ _ _).alloc _
  obtain ⟨t0, t1, _, _⟩ := hF1.two
  obtain ⟨k0, k1, _, _⟩ := (blk_below BG.box hB1).two
  rw [hw2] at t0 t1 k0 k1
  have hz9 : w.heap.size + 3 ≤ w1.heap.size := by rw [← BG.size]; exact hb1.size
  go_wp2_with fail
  rw [← hw2]
  clear t0 t1 k0 k1 hw2
  refine (HSO.out w2 (hu0.below hB1)).mono ?_
  rintro x w3 ⟨rfl, hb3⟩
  have hB3 := bcat2 hB1 hb3
  obtain ⟨_, f0, f1, ff0, ff1, fs0, fs1⟩ := Two.mk' (blk_below hF1 hb3)
  have hBw3 := bcat BG.bel hB3 BG.bel.size
  have hG3 := blk_below BG.grp hB3
  obtain ⟨_, h0, h1, h2, h3, _⟩ := Four.mk' (blk_below hH1 hb3)
  obtain ⟨_, g0, g1, g2, g3, gf0, gf1, gf2, gf3, _⟩ := Four.mk' hG3
  obtain ⟨hR3, y0, y1, fy0, fy1, s0, s1⟩ := Two.mk' (blk_below BG.res hB3)
  have hGA3 := (hGA.below (bcat2 hb2 hb3)).mono (show w.heap.size + 3 ≤ w0.heap.size by rw [BG.size]; exact Nat.le_refl _)
  go_wp2
  obtain ⟨W, hW, hG8, hR8, hB8, hS8, hK8⟩ := put6 hG3 hR3 hBw3 (.int .i64 n) (.slice va vl vc) (.int .i64 e) (.slice ia il ic) (.int .i64 0) (.int .i64 0)
  rw [← hW]
  clear hW
  obtain ⟨z0, z1, _, _⟩ := hR8.two
  obtain ⟨_, q0, q1, q2, q3, _⟩ := Four.mk' hG8
  have hGA9 := (hGA3.keep (fun b h1 _ => hK8 b h1) (by omega)).mono (show w.heap.size ≤ w.heap.size + 3 by omega)
  exact bodyPost_ret (v := .tuple #[.agg #[.int .i64 n, .slice va vl vc, .int .i64 e, .slice ia il ic], .int .u64 (bs (pset ls) n), .agg #[.int .i64 0, .int .i64 0]]) (by simp [results, Tryd.results26, go_sem, z0, z1, q0, q1, q2, q3]) rfl ⟨_, rfl, hGA9, hB8⟩
set_option maxRecDepth 100000 in
set_option maxHeartbeats 4000000 in
theorem mde_bad (N : Int) (v u0 : Value) (zs l0 : List Int) (w : World) (hv : Sl w v zs) (hu : Sl w u0 l0) (hc : (sfault N zs l0).1 ≠ 0) :
    Calls Tryd.prog 12 #[.agg #[.int .i64 N, v], u0] w fun x w' => x = .returned (.tuple #[.slice none 0 0, .agg #[.int .i64 (sfault N zs l0).1, .int .i64 (sfault N zs l0).2]]) ∧ Below w.heap.size w w' := by
  obtain ⟨w0, BG⟩ := Beg.new w N v
  have hv0 := hv.below BG.bel
  obtain ⟨c0, c1, _, _⟩ := BG.box.two
  have hck := oset_bad N v u0 zs l0 w0 hv0 (hu.below BG.bel) hc
  obtain ⟨c, i, hci⟩ : ∃ c i, sfault N zs l0 = (c, i) := ⟨_, _, rfl⟩
  rw [hci] at hck hc ⊢
  simp only at hc hck
  have HCK := hide hck
  clear hck hci
  have hcb : (c != 0) = true := by simpa using hc
  rw [BG.eq] at c0 c1
  go_enter Tryd.func12, Tryd.ntmps12
  go_wp2_with fail
  rw [← BG.eq]
  refine HCK.out.mono ?_
  rintro x w1 ⟨rfl, hb1⟩
  clear c0 c1
  obtain ⟨w2, hw2⟩ : ∃ w2, w2 = (w1.alloc (.cells #[.int .i64 0, .slice none 0 0, .int .i64 0, .slice none 0 0] 50)).alloc (.cells #[.int .i64 c, .int .i64 i] 27) := ⟨_, rfl⟩
  have hB1 : Below w0.heap.size w0 w2 := by rw [hw2]; exact bcat2 hb1 ((balloc w1 _).alloc (by simp) _)
  have hF1 : Blk w2 (w1.heap.size + 1) 27 [.int .i64 c, .int .i64 i] := by
    rw [hw2]
    have := blk0 (w := w1.alloc (.cells #[.int .i64 0, .slice none 0 0, .int .i64 0, .slice none 0 0] 50)) (T := 27) (.int .i64 c) (.int .i64 i)
    rwa [World.size_alloc] at this
  have hR1 := blk_below BG.res hB1
  have hBw := bcat BG.bel hB1 BG.bel.size
  obtain ⟨y0, y1, fy0, fy1⟩ := hR1.two
  obtain ⟨t0, t1, _, _⟩ := hF1.two
  rw [hw2] at t0 t1
  go_wp2_with fail
  rw [← hw2]
  rw [← hw2] at t0 t1
  clear hw2
  go_region
  all_goals (
    go_wp2
    obtain ⟨hR6, hB6⟩ := put2 hR1 hBw (by omega) c i
    have hB7 := bdrew hB6
    have hR7 : Blk ((w2.setCell ⟨w.heap.size + 1, 0, none⟩ (.int .i64 c)).setCell ⟨w.heap.size + 1, 1, none⟩ (.int .i64 i)).drew (w.heap.size + 1) 27 [.int .i64 c, .int .i64 i] := hR6
    generalize ((w2.setCell ⟨w.heap.size + 1, 0, none⟩ (.int .i64 c)).setCell ⟨w.heap.size + 1, 1, none⟩ (.int .i64 i)).drew = W at hR7 hB7 ⊢
    obtain ⟨z0, z1, _, _⟩ := hR7.two
    exact bodyPost_ret (v := .tuple #[.slice none 0 0, .agg #[.int .i64 c, .int .i64 i]]) (by simp [results, Tryd.results12, go_sem, z0, z1]) rfl ⟨rfl, hB7⟩)
set_option maxRecDepth 100000 in
set_option maxHeartbeats 4000000 in
theorem mde_good (n e : Nat) (v u0 : Value) (zs l0 : List Int) (p : Nat → Bool) (w : World) (hv : Sl w v zs) (hg : IsGrp n zs e) (hu : Sl w u0 l0) (hT : Tab w) (hc : lfault n l0 = (0, 0)) (hp : ∀ a, a < n → (p a = true ↔ Mkd n zs e (pset l0) a)) :
    Calls Tryd.prog 12 #[.agg #[.int .i64 n, v], u0] w fun x w' => ∃ r, x = .returned (.tuple #[r, .agg #[.int .i64 0, .int .i64 0]]) ∧ SlF w.heap.size w' r (li (lst n p)) ∧ Below w.heap.size w w' := by
  obtain ⟨va, vl, vc, rfl⟩ := hv.isSlice
  obtain ⟨w0, BG⟩ := Beg.new w n (.slice va vl vc)
  have hv0 := hv.below BG.bel
  obtain ⟨c0, c1, _, _⟩ := BG.box.two
  have HCK := hide (oset_good n e (.slice va vl vc) u0 zs l0 w0 hv0 hg (hu.below BG.bel) hc)
  have HZ0 := hide (show w.heap.size + 2 ≤ w0.heap.size by rw [BG.eq]; simp)
  rw [BG.eq] at c0 c1
  go_enter Tryd.func12, Tryd.ntmps12
  go_wp2_with fail
  rw [← BG.eq]
  refine HCK.out.mono ?_
  rintro x w1 ⟨iv9, rfl, hSI, hb1⟩
  obtain ⟨ia, il, ic, rfl⟩ := hSI.sl.isSlice
  clear c0 c1 HCK
  obtain ⟨w2, hw2⟩ : ∃ w2, w2 = (w1.alloc (.cells #[.int .i64 n, (.slice va vl vc), .int .i64 e, (.slice ia il ic)] 50)).alloc (.cells #[.int .i64 0, .int .i64 0] 27) := ⟨_, rfl⟩
  have hb2 : Below w1.heap.size w1 w2 := by rw [hw2]; exact (balloc w1 _).alloc (by simp) _
  have hB1 : Below w0.heap.size w0 w2 := bcat2 hb1 hb2
  have hF1 : Blk w2 (w1.heap.size + 1) 27 [.int .i64 0, .int .i64 0] := by
    rw [hw2]
    have := blk0 (w := w1.alloc (.cells #[.int .i64 n, (.slice va vl vc), .int .i64 e, (.slice ia il ic)] 50)) (T := 27) (.int .i64 0) (.int .i64 0)
    rwa [World.size_alloc] at this
  have hH2 : Blk w2 w1.heap.size 50 [.int .i64 n, (.slice va vl vc), .int .i64 e, (.slice ia il ic)] := by
    rw [hw2]; exact (blk4 _ _ _ _).alloc _
  have hBw2 := bcat BG.bel hB1 BG.bel.size
  have hR2 := blk_below BG.res hB1
  have hT2 := hT.below hBw2
  have hGA2 : GA w2 n (.slice va vl vc) e (.slice ia il ic) zs := ⟨hg, hv.below hBw2, (hSI.below hb2).sl⟩
  obtain ⟨t0, t1, _, _⟩ := hF1.two
  obtain ⟨_, h0, h1, h2, h3, _⟩ := Four.mk' hH2
  have hx2 := blk_below BG.box hB1
  have HZ1 := hide (Nat.le_trans HZ0.out hb1.size)
  have HZ2 := hide hb2.size
  rw [hw2] at t0 t1 h0 h1 h2 h3
  go_wp2_with fail
  rw [← hw2]
  clear hw2 t0 t1 h0 h1 h2 h3
  refine (made_ok n _ _ zs e (pset l0) p w2 hGA2 hT2 hp).mono ?_
  rintro x w3 ⟨rfl, hb3⟩
  go_wp2_with fail
  refine (list_ok n p w3 hg.tab.le (hT2.below hb3)).mono ?_
  rintro x w4 ⟨r, rfl, hr, hb4⟩
  have hb5 := bcat2 hb3 hb4
  have hB5 := bcat hBw2 hb5 hBw2.size
  obtain ⟨_, y0, y1, fy0, fy1, s0, s1⟩ := Two.mk' (blk_below hR2 hb5)
  have hr9 := hr.mono (show w.heap.size ≤ w3.heap.size from Nat.le_trans hBw2.size hb3.size)
  go_wp2
  exact bodyPost_ret (v := .tuple #[r, .agg #[.int .i64 0, .int .i64 0]]) (by simp [results, Tryd.results12, go_sem, y0, y1]) rfl ⟨_, rfl, hr9, hB5⟩
set_option maxRecDepth 100000 in
set_option maxHeartbeats 4000000 in
theorem rlist_any (n : Nat) (v u : Value) (ls : List Int) (w : World) (hn : n ≤ 60) (hu : Sl w u ls) :
    Calls Tryd.prog 47 #[.agg #[.int .i64 n, v], u] w fun x w' => x = .returned (.agg #[.int .i64 (lfault n ls).1, .int .i64 (lfault n ls).2]) ∧ Below w.heap.size w w' := by
  obtain ⟨w0, BG⟩ := Beg.new w n v
  obtain ⟨a, cap, pb, po, rfl, hr, hp, hq3, hq4⟩ := hu
  have HR := hide hr
  obtain ⟨c0, c1, _, _⟩ := BG.box.two
  obtain ⟨_, y0, y1, fy0, fy1, s0, s1⟩ := Two.mk' BG.res
  by_cases hmany : n < ls.length
  · rw [lfault_many hmany]
    have hmi : (n : Int) < (ls.length : Int) := by omega
    have hF := hide (f_any 2 0)
    rw [BG.eq] at c0 c1
    go_enter Tryd.func47, Tryd.ntmps47
    go_wp2_with fail
    rw [← BG.eq]
    clear c0 c1 y0 y1 fy0 fy1 s0 s1
    refine (hF.out w0).mono ?_
    rintro x w1 ⟨rfl, hb1⟩
    have hR1 := blk_below BG.res hb1
    obtain ⟨y0, y1, fy0, fy1⟩ := hR1.two
    obtain ⟨hR6, hB6⟩ := put2 hR1 (bcat BG.bel hb1 BG.bel.size) (by omega) 2 0
    go_wp2
    generalize (w1.setCell ⟨w.heap.size + 1, 0, none⟩ (.int .i64 2)).setCell ⟨w.heap.size + 1, 1, none⟩ (.int .i64 0) = W at hR6 hB6 ⊢
    obtain ⟨z0, z1, _, _⟩ := hR6.two
    exact bodyPost_ret (v := .agg #[.int .i64 2, .int .i64 0]) (by simp [results, Tryd.results47, go_sem, z0, z1]) rfl ⟨rfl, hB6⟩
  · have hle : ls.length ≤ n := by omega
    have hmi : ¬ (n : Int) < (ls.length : Int) := by omega
    rw [BG.eq] at c0 c1
    clear y0 y1 fy0 fy1 s0 s1 hr
    go_enter Tryd.func47, Tryd.ntmps47
    go_wp2
    rw [← BG.eq]
    clear c0 c1
    go_loopw [5] (fun i wr => ∃ k : Nat, k ≤ ls.length ∧ i = .int .i64 k ∧ (∀ t, t < k → (rbad n ls t || fbad ls t) = false) ∧ Below w0.heap.size w0 wr) (fun i _ => ls.length - (intOf i).toNat)
    case atStart => exact ⟨0, Nat.zero_le _, rfl, fun t ht => by omega, Below.refl _ _⟩
    case round =>
      obtain ⟨k, hk, rfl, hno, hB⟩ := hrel
      have HNO := hide hno
      clear hno
      obtain ⟨c0, c1, _, _⟩ := (blk_below BG.box hB).two
      have hRk := blk_below BG.res hB
      obtain ⟨_, y0, y1, fy0, fy1, s0, s1⟩ := Two.mk' hRk
      have hBw := bcat BG.bel hB BG.bel.size
      by_cases hlt : k < ls.length
      · have hck := (HR.out.below hBw hp).cell k hlt
        obtain rfl := HR.out.at_ (by omega)
        obtain ⟨c, hc⟩ : ∃ c, ls[k]?.getD 0 = c := ⟨_, rfl⟩
        rw [hc] at hck
        have hki : (k : Int) < (ls.length : Int) := by omega
        by_cases hrb : c < 0 ∨ (n : Int) ≤ c
        · have HLF := hide (lfault_r hle hlt HNO.out (by unfold rbad; rw [hc]; simp [hrb]))
          clear hc
          rcases hrb with hc0 | hcn
          · have hc0i : c < 0 := hc0
            go_wp2_with fail
            go_quiet (fail)
            have hBq := bdrewN hB nq
            generalize wr.drewN nq = wq at hBq ⊢
            clear c0 c1 y0 y1 fy0 fy1 s0 s1
            obtain ⟨c0, c1, _, _⟩ := (blk_below BG.box hBq).two
            obtain ⟨_, y0, y1, fy0, fy1, s0, s1⟩ := Two.mk' (blk_below BG.res hBq)
            go_wp2_with fail
            refine (f_any 3 k wq).mono ?_
            rintro x w8 ⟨rfl, hb8⟩
            clear c0 c1 y0 y1 fy0 fy1 s0 s1
            have hB8 := bcat2 hBq hb8
            have hR8 := blk_below BG.res hB8
            obtain ⟨y0, y1, fy0, fy1⟩ := hR8.two
            obtain ⟨hR6, hB6⟩ := put2 hR8 (bcat BG.bel hB8 BG.bel.size) (by omega) 3 k
            go_wp2
            generalize (w8.setCell ⟨w.heap.size + 1, 0, none⟩ (.int .i64 3)).setCell ⟨w.heap.size + 1, 1, none⟩ (.int .i64 k) = W at hR6 hB6 ⊢
            obtain ⟨z0, z1, _, _⟩ := hR6.two
            exact bodyPost_ret (v := .agg #[.int .i64 3, .int .i64 k]) (by simp [results, Tryd.results47, go_sem, z0, z1]) rfl ⟨by first | (rw [HLF.out]; done) | (rw [HLF.out]; simp), hB6⟩
          · by_cases hc0 : c < 0
            · exfalso; omega
            · have hc0i : ¬ c < 0 := hc0
              go_wp2_with fail
              go_quiet (fail)
              have hBq := bdrewN hB nq
              generalize wr.drewN nq = wq at hBq ⊢
              clear c0 c1 y0 y1 fy0 fy1 s0 s1
              obtain ⟨c0, c1, _, _⟩ := (blk_below BG.box hBq).two
              obtain ⟨_, y0, y1, fy0, fy1, s0, s1⟩ := Two.mk' (blk_below BG.res hBq)
              go_wp2_with fail
              refine (f_any 3 k wq).mono ?_
              rintro x w8 ⟨rfl, hb8⟩
              clear c0 c1 y0 y1 fy0 fy1 s0 s1
              have hB8 := bcat2 hBq hb8
              have hR8 := blk_below BG.res hB8
              obtain ⟨y0, y1, fy0, fy1⟩ := hR8.two
              obtain ⟨hR6, hB6⟩ := put2 hR8 (bcat BG.bel hB8 BG.bel.size) (by omega) 3 k
              go_wp2
              generalize (w8.setCell ⟨w.heap.size + 1, 0, none⟩ (.int .i64 3)).setCell ⟨w.heap.size + 1, 1, none⟩ (.int .i64 k) = W at hR6 hB6 ⊢
              obtain ⟨z0, z1, _, _⟩ := hR6.two
              exact bodyPost_ret (v := .agg #[.int .i64 3, .int .i64 k]) (by simp [results, Tryd.results47, go_sem, z0, z1]) rfl ⟨by first | (rw [HLF.out]; done) | (rw [HLF.out]; simp), hB6⟩
        · have hc0 : ¬ c < 0 := fun h => hrb (.inl h)
          have hcn : ¬ (n : Int) ≤ c := fun h => hrb (.inr h)
          have HRB := hide (show rbad n ls k = false by unfold rbad; rw [hc]; simp; omega)
          clear hrb
          have HC := hide hc
          clear hc
          go_wp2_with fail
          go_quiet (fail)
          have hBq := bdrewN hB nq
          generalize wr.drewN nq = wq at hBq ⊢
          clear c0 c1 y0 y1 fy0 fy1 s0 s1
          obtain ⟨c0, c1, _, _⟩ := (blk_below BG.box hBq).two
          obtain ⟨_, y0, y1, fy0, fy1, s0, s1⟩ := Two.mk' (blk_below BG.res hBq)
          have hBwq := bcat BG.bel hBq BG.bel.size
          clear hck
          rcases Nat.eq_zero_or_pos k with rfl | hkp
          · have HFB := hide (show fbad ls 0 = false by simp [fbad])
            have h00 : ¬ ((0 : Int) < ((0 : Nat) : Int)) := by simp
            go_wp2_with fail
            go_quiet (fail)
            have hBq := bdrewN hBq nq
            generalize wq.drewN nq = wz at hBq ⊢
            clear c0 c1 y0 y1 fy0 fy1 s0 s1
            go_wp2
            go_roundw
            case rel => exact ⟨1, by omega, by go_num, fun t ht => by
              have : t = 0 := by omega
              subst this; rw [HRB.out, HFB.out]; rfl, hBq⟩
            case measure => simp [intOf]; omega
          · obtain ⟨m, rfl⟩ : ∃ m, k = m + 1 := ⟨k - 1, by omega⟩
            have hrq := HR.out.below hBwq hp
            have hck := hrq.cell (m + 1) hlt
            have hcm := hrq.cell m (by omega)
            rw [HC.out] at hck
            obtain ⟨d, hd⟩ : ∃ d, ls[m]?.getD 0 = d := ⟨_, rfl⟩
            rw [hd] at hcm
            have hfb : fbad ls (m + 1) = decide (c ≤ d) := by
              unfold fbad
              rw [Nat.add_sub_cancel, HC.out, hd]
              simp
            have hmi2 : (m : Int) < (ls.length : Int) := by omega
            have hmp : (0 : Int) < (m : Int) + 1 := by omega
            have hmw : IntKind.i64.wrap ((m : Int) + 1 - 1) = (m : Int) := by rw [IntKind.wrap_i64]; omega
            clear hrq hd
            by_cases hcd : c ≤ d
            · have HLF := hide (lfault_f hle hlt HNO.out HRB.out (by rw [hfb]; simp [hcd]))
              clear hfb
              go_wp2_with fail
              go_quiet (fail)
              have hBq := bdrewN hBq nq
              generalize wq.drewN nq = wz at hBq ⊢
              clear c0 c1 y0 y1 fy0 fy1 s0 s1
              clear hck hcm
              obtain ⟨c0, c1, _, _⟩ := (blk_below BG.box hBq).two
              obtain ⟨_, y0, y1, fy0, fy1, s0, s1⟩ := Two.mk' (blk_below BG.res hBq)
              go_wp2_with fail
              refine (f_any 5 ((m : Int) + 1) wz).mono ?_
              rintro x w8 ⟨rfl, hb8⟩
              clear c0 c1 y0 y1 fy0 fy1 s0 s1
              have hB8 := bcat2 hBq hb8
              have hR8 := blk_below BG.res hB8
              obtain ⟨y0, y1, fy0, fy1⟩ := hR8.two
              obtain ⟨hR6, hB6⟩ := put2 hR8 (bcat BG.bel hB8 BG.bel.size) (by omega) 5 ((m : Int) + 1)
              go_wp2
              generalize (w8.setCell ⟨w.heap.size + 1, 0, none⟩ (.int .i64 5)).setCell ⟨w.heap.size + 1, 1, none⟩ (.int .i64 ((m : Int) + 1)) = W at hR6 hB6 ⊢
              obtain ⟨z0, z1, _, _⟩ := hR6.two
              exact bodyPost_ret (v := .agg #[.int .i64 5, .int .i64 ((m : Int) + 1)]) (by simp [results, Tryd.results47, go_sem, z0, z1]) rfl ⟨by first | (rw [HLF.out]; done) | (rw [HLF.out]; simp), hB6⟩
            · have HFB := hide (show fbad ls (m + 1) = false by rw [hfb]; simp; omega)
              clear hfb
              go_wp2_with fail
              go_quiet (fail)
              have hBq := bdrewN hBq nq
              generalize wq.drewN nq = wz at hBq ⊢
              clear c0 c1 y0 y1 fy0 fy1 s0 s1
              clear hck hcm
              go_wp2
              go_roundw
              case rel => exact ⟨m + 1 + 1, by omega, by go_num, fun t ht => by
                by_cases e : t = m + 1
                · rw [e, HRB.out, HFB.out]; rfl
                · exact HNO.out t (by omega), hBq⟩
              case measure => simp [intOf]; omega
      · have hkk : k = ls.length := by omega
        subst hkk
        have HLF := hide (lfault_ok hle HNO.out)
        go_wp2
        exact bodyPost_ret (v := .agg #[.int .i64 0, .int .i64 0]) (by simp [results, Tryd.results47, go_sem, y0, y1]) rfl ⟨by rw [HLF.out], hBw⟩
/-- What Made answers, whatever is wrong. -/
theorem mde_any (N : Int) (v u : Value) (zs ls : List Int) (w : World) (hv : Sl w v zs) (hu : Sl w u ls) (hT : Tab w) :
    Calls Tryd.prog 12 #[.agg #[.int .i64 N, v], u] w fun x w' => ∃ a l c, x = .returned (.tuple #[.slice a l c, .agg #[.int .i64 (sfault N zs ls).1, .int .i64 (sfault N zs ls).2]]) ∧ Below w.heap.size w w' := by
  by_cases hc : (sfault N zs ls).1 = 0
  · obtain ⟨n, e, rfl, hg, hl, h0⟩ := sfault_zero hc
    obtain ⟨p, hp⟩ := mkd_test n zs e (pset ls)
    rw [h0]
    refine (mde_good n e v u zs ls p w hv hg hu hT hl hp).mono ?_
    rintro x w' ⟨r, rfl, hr, hb⟩
    obtain ⟨a, l, c, rfl⟩ := hr.sl.isSlice
    exact ⟨a, l, c, rfl, hb⟩
  · refine (mde_bad N v u zs ls w hv hu hc).mono ?_
    rintro x w' ⟨rfl, hb⟩
    exact ⟨_, _, _, rfl, hb⟩
theorem call116 (a : Int) (x y : Value) (W : World) : Sem.run Tryd.prog (callFunc 69 (#[.int .i64 a] ++ #[x, y])) W = .ok (.enter 69 (#[.int .i64 a] ++ #[x, y])) W := by kernel_rfl
set_option maxRecDepth 100000 in
set_option maxHeartbeats 2000000 in
theorem nor1_ok (n : Nat) (v u : Value) (zs : List Int) (e a gb sb : Nat) (q : Nat → Bool) (w : World) (hG : GA w n v e u zs) (hT : Tab w) (ha : a < n) (hb : Box4 w gb n e v u) (hs : Boxed w sb 52 (.int .u64 (bs q n))) :
    Calls Tryd.prog 69 (#[.int .i64 a] ++ #[.pointer (some ⟨gb, 0, none⟩), .pointer (some ⟨sb, 0, none⟩)]) w fun y w' => y = .returned (.bool (norq n zs e q a)) ∧ Below w.heap.size w w' := by
  show Calls Tryd.prog 69 #[.int .i64 a, .pointer (some ⟨gb, 0, none⟩), .pointer (some ⟨sb, 0, none⟩)] w _
  have HC := hide (fun W (h : Below w.heap.size w W) => conjd_ok n v u zs e a q W (hG.below h) (hT.below h) ha)
  have hsc := hs.cell
  have hS : ∀ W, Below w.heap.size w W → (Below w.heap.size w W ∧ W.cell? ⟨gb, 0, none⟩ = some (.int .i64 n) ∧ W.cell? ⟨gb, 1, none⟩ = some v ∧ W.cell? ⟨gb, 2, none⟩ = some (.int .i64 e) ∧ W.cell? ⟨gb, 3, none⟩ = some u ∧ W.cell? ⟨sb, 0, none⟩ = some (.int .u64 (bs q n))) := fun W h => by
    obtain ⟨c0, c1, c2, c3⟩ := (hb.below h).cells
    exact ⟨h, c0, c1, c2, c3, below_cell h hsc⟩
  have hS0 := hS _ (bdrew (Below.refl _ w))
  have HN : Hid (norq n zs e q a = decide (bs (cjq n zs e q a) n = bs q n)) := rfl
  clear hsc
  by_cases heq : bs (cjq n zs e q a) n = bs q n
  · rw [decide_eq_true heq] at HN
    rw [heq] at HC
    generalize bs q n = Q at *
    go_enter Tryd.func69, Tryd.ntmps69
    go_wp2_with fail
    go_region_held3 (fun W => Below w.heap.size w W ∧ W.cell? ⟨gb, 0, none⟩ = some (.int .i64 n) ∧ W.cell? ⟨gb, 1, none⟩ = some v ∧ W.cell? ⟨gb, 2, none⟩ = some (.int .i64 e) ∧ W.cell? ⟨gb, 3, none⟩ = some u ∧ W.cell? ⟨sb, 0, none⟩ = some (.int .u64 (Q : Int)))
      (first | exact hS0 | assumption | exact hS _ (bcat2 (And.left ‹_›) hl1))
      (first | (go_at_call 59; refine (HC.out _ (And.left ‹_›)).mono ?_; rintro e1 W1 ⟨rfl, hl1⟩))
    all_goals (
      have hB9 := And.left ‹Below w.heap.size w W1 ∧ _›
      go_wp2
      go_ret
      exact ⟨by rw [HN.out]; simp, hB9⟩)
  · rw [decide_eq_false heq] at HN
    generalize bs (cjq n zs e q a) n = P at *
    generalize bs q n = Q at *
    have hpi : ¬ ((P : Int) = (Q : Int)) := by omega
    go_enter Tryd.func69, Tryd.ntmps69
    go_wp2_with fail
    go_region_held3 (fun W => Below w.heap.size w W ∧ W.cell? ⟨gb, 0, none⟩ = some (.int .i64 n) ∧ W.cell? ⟨gb, 1, none⟩ = some v ∧ W.cell? ⟨gb, 2, none⟩ = some (.int .i64 e) ∧ W.cell? ⟨gb, 3, none⟩ = some u ∧ W.cell? ⟨sb, 0, none⟩ = some (.int .u64 (Q : Int)))
      (first | exact hS0 | assumption | exact hS _ (bcat2 (And.left ‹_›) hl1))
      (first | (go_at_call 59; refine (HC.out _ (And.left ‹_›)).mono ?_; rintro e1 W1 ⟨rfl, hl1⟩))
    all_goals (
      have hB9 := And.left ‹Below w.heap.size w W1 ∧ _›
      go_wp2
      go_ret
      exact ⟨by rw [HN.out]; simp [hpi], hB9⟩)
set_option maxRecDepth 100000 in
set_option maxHeartbeats 2000000 in
theorem norm_ok (n : Nat) (v u : Value) (zs : List Int) (e : Nat) (q : Nat → Bool) (w : World) (hG : GA w n v e u zs) (hT : Tab w) :
    Calls Tryd.prog 38 #[.agg #[.int .i64 n, v, .int .i64 e, u], .int .u64 (bs q n)] w fun x w' => x = .returned (.int .u64 (bs (norq n zs e q) n)) ∧ Below w.heap.size w w' := by
  have hB0 : Below w.heap.size w ((w.alloc (.cells #[.int .i64 n, v, .int .i64 e, u] 50)).alloc (.cells #[.int .u64 (bs q n)] 52)) := (balloc w _).alloc (by simp) _
  have hX0 : Box4 ((w.alloc (.cells #[.int .i64 n, v, .int .i64 e, u] 50)).alloc (.cells #[.int .u64 (bs q n)] 52)) w.heap.size n e v u := ⟨(blk4 _ _ _ _).alloc _⟩
  have hS0 := Boxed.new (w.alloc (.cells #[.int .i64 n, v, .int .i64 e, u] 50)) 52 (.int .u64 (bs q n))
  rw [World.size_alloc] at hS0
  obtain ⟨c0, c1, c2, c3⟩ := hX0.cells
  go_enter Tryd.func38, Tryd.ntmps38
  go_wp2_with fail
  generalize (w.alloc (.cells #[.int .i64 n, v, .int .i64 e, u] 50)).alloc (.cells #[.int .u64 (bs q n)] 52) = w0 at *
  refine (those_ok n 69 v u e #[.pointer (some ⟨w.heap.size, 0, none⟩), .pointer (some ⟨w.heap.size + 1, 0, none⟩)] (norq n zs e q) w0 hG.le (fun a W => call116 a _ _ W) (fun W a hW ha => nor1_ok n v u zs e a w.heap.size (w.heap.size + 1) q W ((hG.below hB0).below hW) ((hT.below hB0).below hW) ha (hX0.below hW) (Boxed.below hS0 hW))).mono ?_
  rintro x w3 ⟨rfl, hb3⟩
  go_wp2
  go_ret
  exact ⟨rfl, bcat2 hB0 hb3⟩
set_option maxRecDepth 100000 in
set_option maxHeartbeats 4000000 in
theorem osub_good (n e : Nat) (v u : Value) (zs ls : List Int) (w : World) (hv : Sl w v zs) (hg : IsGrp n zs e) (hu : Sl w u ls) (hT : Tab w) (hc : lfault n ls = (0, 0)) (hsb : subT n zs e (pset ls) = true) :
    Calls Tryd.prog 37 #[.agg #[.int .i64 n, v], u] w fun x w' => ∃ iv9, x = .returned (.tuple #[.agg #[.int .i64 n, v, .int .i64 e, iv9], .int .u64 (bs (pset ls) n), .agg #[.int .i64 0, .int .i64 0]]) ∧ SlF w.heap.size w' iv9 (li ((List.range n).map (iv n zs e))) ∧ Below w.heap.size w w' := by
  obtain ⟨va, vl, vc, rfl⟩ := hv.isSlice
  obtain ⟨w0, BG⟩ := Beg4.new w n (.slice va vl vc)
  have hv0 := hv.below BG.bel
  have hu0 := hu.below BG.bel
  obtain ⟨c0, c1, _, _⟩ := BG.box.two
  have HCK := hide (oset_good n e (.slice va vl vc) u zs ls w0 hv0 hg hu0 hc)
  obtain ⟨p, hp⟩ := mkd_test n zs e (pset ls)
  have hpe0 := subT_made hp hg.elt (fun a b ha hb => tm_lt hg.tab ha hb)
  rw [hsb] at hpe0
  have hpe : bs p n = bs (pset ls) n := by simpa using hpe0.symm
  clear hpe0
  have HMK := hide (fun W iv8 (h : GA W n (.slice va vl vc) e iv8 zs) (h2 : Tab W) => made_ok n (.slice va vl vc) iv8 zs e (pset ls) p W h h2 hp)
  rw [hpe] at HMK
  clear hc hsb hp hpe
  rw [BG.eq] at c0 c1
  go_enter Tryd.func37, Tryd.ntmps37
  go_wp2_with fail
  rw [← BG.eq]
  refine HCK.out.mono ?_
  rintro x w1 ⟨iv9, rfl, hGA, hb1⟩
  obtain ⟨ia, il, ic, rfl⟩ := hGA.sl.isSlice
  clear c0 c1 HCK
  obtain ⟨w2, hw2⟩ : ∃ w2, w2 = (w1.alloc (.cells #[.int .i64 n, (.slice va vl vc), .int .i64 e, (.slice ia il ic)] 50)).alloc (.cells #[.int .i64 0, .int .i64 0] 27) := ⟨_, rfl⟩
  have hb2 : Below w1.heap.size w1 w2 := by rw [hw2]; exact (balloc w1 _).alloc (by simp) _
  have hB1 : Below w0.heap.size w0 w2 := bcat2 hb1 hb2
  have hF1 : Blk w2 (w1.heap.size + 1) 27 [.int .i64 0, .int .i64 0] := by
    rw [hw2]
    have := blk0 (w := w1.alloc (.cells #[.int .i64 n, (.slice va vl vc), .int .i64 e, (.slice ia il ic)] 50)) (T := 27) (.int .i64 0) (.int .i64 0)
    rwa [World.size_alloc] at this
  have hH1 : Blk w2 w1.heap.size 50 [.int .i64 n, (.slice va vl vc), .int .i64 e, (.slice ia il ic)] := by
    rw [hw2]; exact (blk4 _ _ _ _).alloc _
  obtain ⟨t0, t1, _, _⟩ := hF1.two
  obtain ⟨_, k0, k1, k2, k3, _⟩ := Four.mk' hH1
  rw [hw2] at t0 t1 k0 k1 k2 k3
  go_wp2_with fail
  rw [← hw2]
  clear t0 t1 k0 k1 k2 k3 hw2
  have hGA2 : GA w2 n (.slice va vl vc) e (.slice ia il ic) zs := ⟨hg, hv0.below hB1, (hGA.below hb2).sl⟩
  refine (HMK.out w2 _ hGA2 ((hT.below BG.bel).below hB1)).mono ?_
  rintro x w3 ⟨rfl, hb3⟩
  have hB3 := bcat2 hB1 hb3
  obtain ⟨_, f0, f1, ff0, ff1, fs0, fs1⟩ := Two.mk' (blk_below hF1 hb3)
  have hBw3 := bcat BG.bel hB3 BG.bel.size
  have hG3 := blk_below BG.grp hB3
  obtain ⟨_, h0, h1, h2, h3, _⟩ := Four.mk' (blk_below hH1 hb3)
  obtain ⟨_, g0, g1, g2, g3, gf0, gf1, gf2, gf3, _⟩ := Four.mk' hG3
  obtain ⟨hR3, y0, y1, fy0, fy1, s0, s1⟩ := Two.mk' (blk_below BG.res hB3)
  have hGA3 := (hGA.below (bcat2 hb2 hb3)).mono (show w.heap.size + 3 ≤ w0.heap.size by rw [BG.size]; exact Nat.le_refl _)
  go_wp2
  obtain ⟨W, hW, hG8, hR8, hB8, hS8, hK8⟩ := put6 hG3 hR3 hBw3 (.int .i64 n) (.slice va vl vc) (.int .i64 e) (.slice ia il ic) (.int .i64 0) (.int .i64 0)
  rw [← hW]
  clear hW
  obtain ⟨z0, z1, _, _⟩ := hR8.two
  obtain ⟨_, q0, q1, q2, q3, _⟩ := Four.mk' hG8
  have hGA9 := (hGA3.keep (fun b h1 _ => hK8 b h1) (by omega)).mono (show w.heap.size ≤ w.heap.size + 3 by omega)
  exact bodyPost_ret (v := .tuple #[.agg #[.int .i64 n, .slice va vl vc, .int .i64 e, .slice ia il ic], .int .u64 (bs (pset ls) n), .agg #[.int .i64 0, .int .i64 0]]) (by simp [results, Tryd.results37, go_sem, z0, z1, q0, q1, q2, q3]) rfl ⟨_, rfl, hGA9, hB8⟩
set_option maxRecDepth 100000 in
set_option maxHeartbeats 4000000 in
theorem nrm_good (n e : Nat) (v u0 : Value) (zs l0 : List Int) (w : World) (hv : Sl w v zs) (hg : IsGrp n zs e) (hu : Sl w u0 l0) (hT : Tab w) (hc : lfault n l0 = (0, 0)) (hs : subT n zs e (pset l0) = true) :
    Calls Tryd.prog 30 #[.agg #[.int .i64 n, v], u0] w fun x w' => x = .returned (.tuple #[.bool (nrmq n zs e (pset l0)), .agg #[.int .i64 0, .int .i64 0]]) ∧ Below w.heap.size w w' := by
  obtain ⟨va, vl, vc, rfl⟩ := hv.isSlice
  obtain ⟨w0, BG⟩ := Beg.new w n (.slice va vl vc)
  have hv0 := hv.below BG.bel
  obtain ⟨c0, c1, _, _⟩ := BG.box.two
  have HCK := hide (osub_good n e (.slice va vl vc) u0 zs l0 w0 hv0 hg (hu.below BG.bel) (hT.below BG.bel) hc hs)
  have HZ0 := hide (show w.heap.size + 2 ≤ w0.heap.size by rw [BG.eq]; simp)
  rw [BG.eq] at c0 c1
  go_enter Tryd.func30, Tryd.ntmps30
  go_wp2_with fail
  rw [← BG.eq]
  refine HCK.out.mono ?_
  rintro x w1 ⟨iv9, rfl, hSI, hb1⟩
  obtain ⟨ia, il, ic, rfl⟩ := hSI.sl.isSlice
  clear c0 c1 HCK
  obtain ⟨w2, hw2⟩ : ∃ w2, w2 = (w1.alloc (.cells #[.int .i64 n, (.slice va vl vc), .int .i64 e, (.slice ia il ic)] 50)).alloc (.cells #[.int .i64 0, .int .i64 0] 27) := ⟨_, rfl⟩
  have hb2 : Below w1.heap.size w1 w2 := by rw [hw2]; exact (balloc w1 _).alloc (by simp) _
  have hB1 : Below w0.heap.size w0 w2 := bcat2 hb1 hb2
  have hF1 : Blk w2 (w1.heap.size + 1) 27 [.int .i64 0, .int .i64 0] := by
    rw [hw2]
    have := blk0 (w := w1.alloc (.cells #[.int .i64 n, (.slice va vl vc), .int .i64 e, (.slice ia il ic)] 50)) (T := 27) (.int .i64 0) (.int .i64 0)
    rwa [World.size_alloc] at this
  have hH2 : Blk w2 w1.heap.size 50 [.int .i64 n, (.slice va vl vc), .int .i64 e, (.slice ia il ic)] := by
    rw [hw2]; exact (blk4 _ _ _ _).alloc _
  have hBw2 := bcat BG.bel hB1 BG.bel.size
  have hR2 := blk_below BG.res hB1
  have hT2 := hT.below hBw2
  have hGA2 : GA w2 n (.slice va vl vc) e (.slice ia il ic) zs := ⟨hg, hv.below hBw2, (hSI.below hb2).sl⟩
  obtain ⟨t0, t1, _, _⟩ := hF1.two
  obtain ⟨_, h0, h1, h2, h3, _⟩ := Four.mk' hH2
  have hx2 := blk_below BG.box hB1
  have HZ1 := hide (Nat.le_trans HZ0.out hb1.size)
  have HZ2 := hide hb2.size
  rw [hw2] at t0 t1 h0 h1 h2 h3
  go_wp2_with fail
  rw [← hw2]
  rw [← hw2] at t0 t1 h0 h1 h2 h3
  clear hw2
  have hS : ∀ W, Below w2.heap.size w2 W → (Below w2.heap.size w2 W ∧ W.cell? ⟨w1.heap.size, 0, none⟩ = some (.int .i64 n) ∧ W.cell? ⟨w1.heap.size, 1, none⟩ = some (.slice va vl vc) ∧ W.cell? ⟨w1.heap.size, 2, none⟩ = some (.int .i64 e) ∧ W.cell? ⟨w1.heap.size, 3, none⟩ = some (.slice ia il ic) ∧ W.cell? ⟨w.heap.size + 1, 0, none⟩ = some (.int .i64 0) ∧ W.cell? ⟨w.heap.size + 1, 1, none⟩ = some (.int .i64 0) ∧ W.frozen? ⟨w.heap.size + 1, 0, none⟩ = false ∧ W.frozen? ⟨w.heap.size + 1, 1, none⟩ = false ∧ W.setCell ⟨w.heap.size + 1, 0, none⟩ (.int .i64 0) = W ∧ W.setCell ⟨w.heap.size + 1, 1, none⟩ (.int .i64 0) = W) := fun W h => by
    obtain ⟨_, y0, y1, fy0, fy1, s0, s1⟩ := Two.mk' (blk_below hR2 h)
    exact ⟨h, below_cell h h0, below_cell h h1, below_cell h h2, below_cell h h3, y0, y1, fy0, fy1, s0, s1⟩
  have hS0 := hS _ (bdrew (Below.refl _ w2))
  have HA := hide (fun W => all_ok n (.slice va vl vc) (.slice ia il ic) e W hg.tab.le)
  have HC := hide (fun W (h : Below w2.heap.size w2 W) => norm_ok n (.slice va vl vc) (.slice ia il ic) zs e (pset l0) W (hGA2.below h) (hT2.below h))
  clear h0 h1 h2 h3 t0 t1
  have HN : Hid (nrmq n zs e (pset l0) = decide (bs (norq n zs e (pset l0)) n = bs (fun _ => true) n)) := rfl
  by_cases heq : bs (norq n zs e (pset l0)) n = bs (fun _ => true) n
  · rw [heq] at HC HN
    rw [decide_eq_true rfl] at HN
    generalize bs (norq n zs e (pset l0)) n = P at *
    generalize bs (fun _ => true) n = A at *
    
    go_region_held3 (fun W => Below w2.heap.size w2 W ∧ W.cell? ⟨w1.heap.size, 0, none⟩ = some (.int .i64 n) ∧ W.cell? ⟨w1.heap.size, 1, none⟩ = some (.slice va vl vc) ∧ W.cell? ⟨w1.heap.size, 2, none⟩ = some (.int .i64 e) ∧ W.cell? ⟨w1.heap.size, 3, none⟩ = some (.slice ia il ic) ∧ W.cell? ⟨w.heap.size + 1, 0, none⟩ = some (.int .i64 0) ∧ W.cell? ⟨w.heap.size + 1, 1, none⟩ = some (.int .i64 0) ∧ W.frozen? ⟨w.heap.size + 1, 0, none⟩ = false ∧ W.frozen? ⟨w.heap.size + 1, 1, none⟩ = false ∧ W.setCell ⟨w.heap.size + 1, 0, none⟩ (.int .i64 0) = W ∧ W.setCell ⟨w.heap.size + 1, 1, none⟩ (.int .i64 0) = W)
      (first | exact hS0 | assumption | exact hS _ (bcat2 (And.left ‹_›) hl1))
      (first
        | (go_at_call 38; refine (HC.out _ (And.left ‹_›)).mono ?_; rintro e1 W1 ⟨rfl, hl1⟩)
        | (go_at_call 28; refine (HA.out _).mono ?_; rintro e2 W2 ⟨rfl, hl1⟩))
    all_goals (
      obtain ⟨hB9, _, _, _, _, y0, y1, _⟩ := ‹Below w2.heap.size w2 W2 ∧ _›
      have hBz := bcat hBw2 hB9 hBw2.size
      clear hS hS0
      go_wp2
      exact bodyPost_ret (v := .tuple #[.bool true, .agg #[.int .i64 0, .int .i64 0]]) (by simp [results, Tryd.results30, go_sem, y0, y1]) rfl ⟨by rw [HN.out], hBz⟩)
  · skip
    rw [decide_eq_false heq] at HN
    generalize bs (norq n zs e (pset l0)) n = P at *
    generalize bs (fun _ => true) n = A at *
    have hpi : ¬ ((P : Int) = (A : Int)) := by omega
    go_region_held3 (fun W => Below w2.heap.size w2 W ∧ W.cell? ⟨w1.heap.size, 0, none⟩ = some (.int .i64 n) ∧ W.cell? ⟨w1.heap.size, 1, none⟩ = some (.slice va vl vc) ∧ W.cell? ⟨w1.heap.size, 2, none⟩ = some (.int .i64 e) ∧ W.cell? ⟨w1.heap.size, 3, none⟩ = some (.slice ia il ic) ∧ W.cell? ⟨w.heap.size + 1, 0, none⟩ = some (.int .i64 0) ∧ W.cell? ⟨w.heap.size + 1, 1, none⟩ = some (.int .i64 0) ∧ W.frozen? ⟨w.heap.size + 1, 0, none⟩ = false ∧ W.frozen? ⟨w.heap.size + 1, 1, none⟩ = false ∧ W.setCell ⟨w.heap.size + 1, 0, none⟩ (.int .i64 0) = W ∧ W.setCell ⟨w.heap.size + 1, 1, none⟩ (.int .i64 0) = W)
      (first | exact hS0 | assumption | exact hS _ (bcat2 (And.left ‹_›) hl1))
      (first
        | (go_at_call 38; refine (HC.out _ (And.left ‹_›)).mono ?_; rintro e1 W1 ⟨rfl, hl1⟩)
        | (go_at_call 28; refine (HA.out _).mono ?_; rintro e2 W2 ⟨rfl, hl1⟩))
    all_goals (
      obtain ⟨hB9, _, _, _, _, y0, y1, _⟩ := ‹Below w2.heap.size w2 W2 ∧ _›
      have hBz := bcat hBw2 hB9 hBw2.size
      clear hS hS0
      go_wp2
      exact bodyPost_ret (v := .tuple #[.bool false, .agg #[.int .i64 0, .int .i64 0]]) (by simp [results, Tryd.results30, go_sem, y0, y1, hpi]) rfl ⟨by rw [HN.out], hBz⟩)
set_option maxRecDepth 100000 in
set_option maxHeartbeats 4000000 in
theorem osub_bads (N : Int) (v u : Value) (zs ls : List Int) (w : World) (hv : Sl w v zs) (hu : Sl w u ls) (hc : (sfault N zs ls).1 ≠ 0) :
    Calls Tryd.prog 37 #[.agg #[.int .i64 N, v], u] w fun x w' => x = .returned (.tuple #[.agg #[.int .i64 0, .slice none 0 0, .int .i64 0, .slice none 0 0], .int .u64 0, .agg #[.int .i64 (sfault N zs ls).1, .int .i64 (sfault N zs ls).2]]) ∧ Below w.heap.size w w' := by
  obtain ⟨w0, BG⟩ := Beg4.new w N v
  have hv0 := hv.below BG.bel
  obtain ⟨c0, c1, _, _⟩ := BG.box.two
  have hck := oset_bad N v u zs ls w0 hv0 (hu.below BG.bel) hc
  obtain ⟨c, i, hci⟩ : ∃ c i, sfault N zs ls = (c, i) := ⟨_, _, rfl⟩
  rw [hci] at hck hc ⊢
  simp only at hc hck
  have HCK := hide hck
  clear hck hci
  have hcb : (c != 0) = true := by simpa using hc
  rw [BG.eq] at c0 c1
  go_enter Tryd.func37, Tryd.ntmps37
  go_wp2_with fail
  rw [← BG.eq]
  refine HCK.out.mono ?_
  rintro x w1 ⟨rfl, hb1⟩
  clear c0 c1
  obtain ⟨w2, hw2⟩ : ∃ w2, w2 = (w1.alloc (.cells #[.int .i64 0, .slice none 0 0, .int .i64 0, .slice none 0 0] 50)).alloc (.cells #[.int .i64 c, .int .i64 i] 27) := ⟨_, rfl⟩
  have hB1 : Below w0.heap.size w0 w2 := by rw [hw2]; exact bcat2 hb1 ((balloc w1 _).alloc (by simp) _)
  have hF1 : Blk w2 (w1.heap.size + 1) 27 [.int .i64 c, .int .i64 i] := by
    rw [hw2]
    have := blk0 (w := w1.alloc (.cells #[.int .i64 0, .slice none 0 0, .int .i64 0, .slice none 0 0] 50)) (T := 27) (.int .i64 c) (.int .i64 i)
    rwa [World.size_alloc] at this
  obtain ⟨hG1, g0, g1, g2, g3, gf0, gf1, gf2, gf3, gs0, gs1, gs2, gs3⟩ := Four.mk' (blk_below BG.grp hB1)
  have hR1 := blk_below BG.res hB1
  have hBw := bcat BG.bel hB1 BG.bel.size
  obtain ⟨y0, y1, fy0, fy1⟩ := hR1.two
  obtain ⟨t0, t1, _, _⟩ := hF1.two
  rw [hw2] at t0 t1
  go_wp2_with fail
  rw [← hw2]
  rw [← hw2] at t0 t1
  clear hw2
  go_region
  all_goals (
    go_wp2
    obtain ⟨hR6, hB6⟩ := put2 hR1 hBw (by omega) c i
    have hB7 := bdrew hB6
    have hR7 : Blk ((w2.setCell ⟨w.heap.size + 1 + 1, 0, none⟩ (.int .i64 c)).setCell ⟨w.heap.size + 1 + 1, 1, none⟩ (.int .i64 i)).drew (w.heap.size + 1 + 1) 27 [.int .i64 c, .int .i64 i] := hR6
    have hG7 : Blk ((w2.setCell ⟨w.heap.size + 1 + 1, 0, none⟩ (.int .i64 c)).setCell ⟨w.heap.size + 1 + 1, 1, none⟩ (.int .i64 i)).drew (w.heap.size + 1) 50 [.int .i64 0, .slice none 0 0, .int .i64 0, .slice none 0 0] :=
      (hG1.other (p := ⟨w.heap.size + 1 + 1, 0, none⟩) (by simp) (.int .i64 c)).other (p := ⟨w.heap.size + 1 + 1, 1, none⟩) (by simp) (.int .i64 i)
    generalize ((w2.setCell ⟨w.heap.size + 1 + 1, 0, none⟩ (.int .i64 c)).setCell ⟨w.heap.size + 1 + 1, 1, none⟩ (.int .i64 i)).drew = W at hR7 hB7 hG7 ⊢
    obtain ⟨z0, z1, _, _⟩ := hR7.two
    obtain ⟨_, q0, q1, q2, q3, _⟩ := Four.mk' hG7
    exact bodyPost_ret (v := .tuple #[.agg #[.int .i64 0, .slice none 0 0, .int .i64 0, .slice none 0 0], .int .u64 0, .agg #[.int .i64 c, .int .i64 i]]) (by simp [results, Tryd.results37, go_sem, z0, z1, q0, q1, q2, q3]) rfl ⟨rfl, hB7⟩)
set_option maxRecDepth 100000 in
set_option maxHeartbeats 4000000 in
theorem osub_badu (n e : Nat) (v u : Value) (zs ls : List Int) (w : World) (hv : Sl w v zs) (hg : IsGrp n zs e) (hu : Sl w u ls) (hT : Tab w) (hc : lfault n ls = (0, 0)) (hsb : subT n zs e (pset ls) = false) :
    Calls Tryd.prog 37 #[.agg #[.int .i64 n, v], u] w fun x w' => x = .returned (.tuple #[.agg #[.int .i64 0, .slice none 0 0, .int .i64 0, .slice none 0 0], .int .u64 0, .agg #[.int .i64 7, .int .i64 0]]) ∧ Below w.heap.size w w' := by
  obtain ⟨va, vl, vc, rfl⟩ := hv.isSlice
  obtain ⟨w0, BG⟩ := Beg4.new w n (.slice va vl vc)
  have hv0 := hv.below BG.bel
  have hu0 := hu.below BG.bel
  obtain ⟨c0, c1, _, _⟩ := BG.box.two
  have HCK := hide (oset_good n e (.slice va vl vc) u zs ls w0 hv0 hg hu0 hc)
  obtain ⟨p, hp⟩ := mkd_test n zs e (pset ls)
  have hpe0 := subT_made hp hg.elt (fun a b ha hb => tm_lt hg.tab ha hb)
  rw [hsb] at hpe0
  have hpe : ¬ bs p n = bs (pset ls) n := by simpa using hpe0.symm
  have hpi : ¬ ((bs p n : Nat) : Int) = ((bs (pset ls) n : Nat) : Int) := by omega
  clear hpe0
  have HMK := hide (fun W iv8 (h : GA W n (.slice va vl vc) e iv8 zs) (h2 : Tab W) => made_ok n (.slice va vl vc) iv8 zs e (pset ls) p W h h2 hp)
  clear hc hsb hp hpe
  rw [BG.eq] at c0 c1
  go_enter Tryd.func37, Tryd.ntmps37
  go_wp2_with fail
  rw [← BG.eq]
  refine HCK.out.mono ?_
  rintro x w1 ⟨iv9, rfl, hGA, hb1⟩
  obtain ⟨ia, il, ic, rfl⟩ := hGA.sl.isSlice
  clear c0 c1 HCK
  obtain ⟨w2, hw2⟩ : ∃ w2, w2 = (w1.alloc (.cells #[.int .i64 n, (.slice va vl vc), .int .i64 e, (.slice ia il ic)] 50)).alloc (.cells #[.int .i64 0, .int .i64 0] 27) := ⟨_, rfl⟩
  have hb2 : Below w1.heap.size w1 w2 := by rw [hw2]; exact (balloc w1 _).alloc (by simp) _
  have hB1 : Below w0.heap.size w0 w2 := bcat2 hb1 hb2
  have hF1 : Blk w2 (w1.heap.size + 1) 27 [.int .i64 0, .int .i64 0] := by
    rw [hw2]
    have := blk0 (w := w1.alloc (.cells #[.int .i64 n, (.slice va vl vc), .int .i64 e, (.slice ia il ic)] 50)) (T := 27) (.int .i64 0) (.int .i64 0)
    rwa [World.size_alloc] at this
  have hH1 : Blk w2 w1.heap.size 50 [.int .i64 n, (.slice va vl vc), .int .i64 e, (.slice ia il ic)] := by
    rw [hw2]; exact (blk4 _ _ _ _).alloc _
  obtain ⟨t0, t1, _, _⟩ := hF1.two
  obtain ⟨_, k0, k1, k2, k3, _⟩ := Four.mk' hH1
  rw [hw2] at t0 t1 k0 k1 k2 k3
  go_wp2_with fail
  rw [← hw2]
  clear t0 t1 k0 k1 k2 k3 hw2
  have hGA2 : GA w2 n (.slice va vl vc) e (.slice ia il ic) zs := ⟨hg, hv0.below hB1, (hGA.below hb2).sl⟩
  refine (HMK.out w2 _ hGA2 ((hT.below BG.bel).below hB1)).mono ?_
  rintro x w3 ⟨rfl, hb3⟩
  have hB3 := bcat2 hB1 hb3
  obtain ⟨_, f0, f1, ff0, ff1, fs0, fs1⟩ := Two.mk' (blk_below hF1 hb3)
  have hBw3 := bcat BG.bel hB3 BG.bel.size
  have hG3 := blk_below BG.grp hB3
  obtain ⟨_, h0, h1, h2, h3, _⟩ := Four.mk' (blk_below hH1 hb3)
  obtain ⟨_, g0, g1, g2, g3, gf0, gf1, gf2, gf3, _⟩ := Four.mk' hG3
  obtain ⟨hR3, y0, y1, fy0, fy1, s0, s1⟩ := Two.mk' (blk_below BG.res hB3)
  have hGA3 := (hGA.below (bcat2 hb2 hb3)).mono (show w.heap.size + 3 ≤ w0.heap.size by rw [BG.size]; exact Nat.le_refl _)
  obtain ⟨_, _, _, _, _, _, _, _, _, gs0, gs1, gs2, gs3⟩ := Four.mk' hG3
  obtain ⟨hR6, hB6⟩ := put2 hR3 hBw3 (by omega) 7 0
  have hG6 := (hG3.other (p := ⟨w.heap.size + 1 + 1, 0, none⟩) (by simp) (.int .i64 7)).other (p := ⟨w.heap.size + 1 + 1, 1, none⟩) (by simp) (.int .i64 0)
  clear s0 s1
  go_wp2
  generalize (w3.setCell ⟨w.heap.size + 1 + 1, 0, none⟩ (.int .i64 7)).setCell ⟨w.heap.size + 1 + 1, 1, none⟩ (.int .i64 0) = W at hR6 hB6 hG6 ⊢
  obtain ⟨z0, z1, _, _⟩ := hR6.two
  obtain ⟨_, q0, q1, q2, q3, _⟩ := Four.mk' hG6
  exact bodyPost_ret (v := .tuple #[.agg #[.int .i64 0, .slice none 0 0, .int .i64 0, .slice none 0 0], .int .u64 0, .agg #[.int .i64 7, .int .i64 0]]) (by simp [results, Tryd.results37, go_sem, z0, z1, q0, q1, q2, q3]) rfl ⟨rfl, hB6⟩
theorem osub_bad (N : Int) (v u : Value) (zs ls : List Int) (w : World) (hv : Sl w v zs) (hu : Sl w u ls) (hT : Tab w) (hc : (ufault N zs ls).1 ≠ 0) :
    Calls Tryd.prog 37 #[.agg #[.int .i64 N, v], u] w fun x w' => x = .returned (.tuple #[.agg #[.int .i64 0, .slice none 0 0, .int .i64 0, .slice none 0 0], .int .u64 0, .agg #[.int .i64 (ufault N zs ls).1, .int .i64 (ufault N zs ls).2]]) ∧ Below w.heap.size w w' := by
  rcases ufault_cases N zs ls hc with ⟨h1, h2⟩ | ⟨n, e, rfl, hg, h1, h2, h3⟩
  · rw [h2]; exact osub_bads N v u zs ls w hv hu h1
  · rw [h3]; exact osub_badu n e v u zs ls w hv hg hu hT h1 h2
set_option maxRecDepth 100000 in
set_option maxHeartbeats 4000000 in
theorem nrm_bad (N : Int) (v u0 : Value) (zs l0 : List Int) (w : World) (hv : Sl w v zs) (hu : Sl w u0 l0) (hT : Tab w) (hc : (ufault N zs l0).1 ≠ 0) :
    Calls Tryd.prog 30 #[.agg #[.int .i64 N, v], u0] w fun x w' => x = .returned (.tuple #[.bool false, .agg #[.int .i64 (ufault N zs l0).1, .int .i64 (ufault N zs l0).2]]) ∧ Below w.heap.size w w' := by
  obtain ⟨w0, BG⟩ := Beg.new w N v
  have hv0 := hv.below BG.bel
  obtain ⟨c0, c1, _, _⟩ := BG.box.two
  have hck := osub_bad N v u0 zs l0 w0 hv0 (hu.below BG.bel) (hT.below BG.bel) hc
  obtain ⟨c, i, hci⟩ : ∃ c i, ufault N zs l0 = (c, i) := ⟨_, _, rfl⟩
  rw [hci] at hck hc ⊢
  simp only at hc hck
  have HCK := hide hck
  clear hck hci
  have hcb : (c != 0) = true := by simpa using hc
  rw [BG.eq] at c0 c1
  go_enter Tryd.func30, Tryd.ntmps30
  go_wp2_with fail
  rw [← BG.eq]
  refine HCK.out.mono ?_
  rintro x w1 ⟨rfl, hb1⟩
  clear c0 c1
  obtain ⟨w2, hw2⟩ : ∃ w2, w2 = (w1.alloc (.cells #[.int .i64 0, .slice none 0 0, .int .i64 0, .slice none 0 0] 50)).alloc (.cells #[.int .i64 c, .int .i64 i] 27) := ⟨_, rfl⟩
  have hB1 : Below w0.heap.size w0 w2 := by rw [hw2]; exact bcat2 hb1 ((balloc w1 _).alloc (by simp) _)
  have hF1 : Blk w2 (w1.heap.size + 1) 27 [.int .i64 c, .int .i64 i] := by
    rw [hw2]
    have := blk0 (w := w1.alloc (.cells #[.int .i64 0, .slice none 0 0, .int .i64 0, .slice none 0 0] 50)) (T := 27) (.int .i64 c) (.int .i64 i)
    rwa [World.size_alloc] at this
  have hR1 := blk_below BG.res hB1
  have hBw := bcat BG.bel hB1 BG.bel.size
  obtain ⟨y0, y1, fy0, fy1⟩ := hR1.two
  obtain ⟨t0, t1, _, _⟩ := hF1.two
  rw [hw2] at t0 t1
  go_wp2_with fail
  rw [← hw2]
  rw [← hw2] at t0 t1
  clear hw2
  go_region
  all_goals (
    go_wp2
    obtain ⟨hR6, hB6⟩ := put2 hR1 hBw (by omega) c i
    have hB7 := bdrew hB6
    have hR7 : Blk ((w2.setCell ⟨w.heap.size + 1, 0, none⟩ (.int .i64 c)).setCell ⟨w.heap.size + 1, 1, none⟩ (.int .i64 i)).drew (w.heap.size + 1) 27 [.int .i64 c, .int .i64 i] := hR6
    generalize ((w2.setCell ⟨w.heap.size + 1, 0, none⟩ (.int .i64 c)).setCell ⟨w.heap.size + 1, 1, none⟩ (.int .i64 i)).drew = W at hR7 hB7 ⊢
    obtain ⟨z0, z1, _, _⟩ := hR7.two
    exact bodyPost_ret (v := .tuple #[.bool false, .agg #[.int .i64 c, .int .i64 i]]) (by simp [results, Tryd.results30, go_sem, z0, z1]) rfl ⟨rfl, hB7⟩)
end Go.Proofs.YtjiapicknkjhmaaDoor

namespace Go.Proofs.YtjiapicknkjhmaaDoor
open Go Go.RowKit

set_option maxRecDepth 100000 in
set_option maxHeartbeats 2000000 in
theorem cmt_ok (n : Nat) (v u : Value) (zs : List Int) (e a b : Nat) (w : World) (hG : GA w n v e u zs) (ha : a < n) (hb : b < n) :
    Calls Tryd.prog 132 #[.agg #[.int .i64 n, v, .int .i64 e, u], .int .i64 a, .int .i64 b] w fun y w' => y = .returned (.int .i64 (Fin.cm (tm n zs) (iv n zs e) a b)) ∧ Below w.heap.size w w' := by
  obtain ⟨hi, hi1, hi2, _⟩ := iv_spec hG.grp ha
  obtain ⟨hj, _, _, _⟩ := iv_spec hG.grp hb
  have hct : Fin.cj (tm n zs) (iv n zs e) a b < n := List.mem_range.1 (Fin.cj_mem (grp_fg hG.grp) (grp_iv hG.grp) (List.mem_range.2 ha) (List.mem_range.2 hb))
  have heq : Fin.cm (tm n zs) (iv n zs e) a b = tm n zs (iv n zs e a) (Fin.cj (tm n zs) (iv n zs e) a b) := by
    unfold Fin.cm Fin.cj
    rw [hG.grp.ass _ _ _ hi hj (tm_lt hG.grp.tab ha hb)]
  rw [heq]
  have hB0 : Below w.heap.size w (w.alloc (.cells #[.int .i64 n, v, .int .i64 e, u] 50)) := balloc w _
  have N0 := Box4.new w n e v u
  have hG0 := hG.below hB0
  obtain ⟨w0, hw0⟩ : ∃ w0, w0 = w.alloc (.cells #[.int .i64 n, v, .int .i64 e, u] 50) := ⟨_, rfl⟩
  rw [← hw0] at hB0 N0 hG0
  have HP1 := hide (fun W (h : Below w0.heap.size w0 W) => conj_ok n v u zs e a b W (hG0.below h) ha hb)
  have HP2 := hide (fun W (h : Below w0.heap.size w0 W) => prd_ok n v u zs e (iv n zs e a) (Fin.cj (tm n zs) (iv n zs e) a b) W hG.grp.tab (hG0.mul.below h) hi hct)
  obtain ⟨y, cap, pb, po, rfl, hr, hp, hq3, hq4⟩ := hG0.inv
  rw [ivs_len] at hq3
  have hiv := hr.cell a (by rw [ivs_len]; exact ha)
  rw [ivs_at ha] at hiv
  obtain rfl := hr.at_ (by rw [ivs_len]; omega)
  rw [ivs_len] at *
  clear hr hG hG0 hi1 hi2 heq
  generalize tm n zs (iv n zs e a) (Fin.cj (tm n zs) (iv n zs e) a b) = r at *
  generalize Fin.cj (tm n zs) (iv n zs e) a b = t at *
  generalize iv n zs e a = i at *
  have hai : (a : Int) < (n : Int) := by omega
  have hS : ∀ W, Below w0.heap.size w0 W → (Below w0.heap.size w0 W ∧ W.cell? ⟨w.heap.size, 0, none⟩ = some (.int .i64 n) ∧ W.cell? ⟨w.heap.size, 1, none⟩ = some v ∧ W.cell? ⟨w.heap.size, 2, none⟩ = some (.int .i64 e) ∧ W.cell? ⟨w.heap.size, 3, none⟩ = some (.slice (some ⟨pb, po, none⟩) n cap) ∧ W.cell? ⟨pb, po + a, none⟩ = some (.int .i64 i)) := fun W h => by
    obtain ⟨c0, c1, c2, c3⟩ := (N0.below h).cells
    exact ⟨h, c0, c1, c2, c3, below_cell h hiv⟩
  have hS0 := hS _ (bdrew (Below.refl _ w0))
  clear hiv N0
  go_enter Tryd.func132, Tryd.ntmps132
  go_wp2_with fail
  rw [← hw0]
  clear hw0
  go_region_held3 (fun W => Below w0.heap.size w0 W ∧ W.cell? ⟨w.heap.size, 0, none⟩ = some (.int .i64 n) ∧ W.cell? ⟨w.heap.size, 1, none⟩ = some v ∧ W.cell? ⟨w.heap.size, 2, none⟩ = some (.int .i64 e) ∧ W.cell? ⟨w.heap.size, 3, none⟩ = some (.slice (some ⟨pb, po, none⟩) n cap) ∧ W.cell? ⟨pb, po + a, none⟩ = some (.int .i64 i))
    (first | exact hS0 | assumption | exact hS _ (bcat2 (And.left ‹_›) hl1))
    (first
      | (go_at_call 94; refine (HP1.out _ (And.left ‹_›)).mono ?_; rintro e1 W1 ⟨rfl, hl1⟩)
      | (go_at_call 73; refine (HP2.out _ (And.left ‹_›)).mono ?_; rintro e2 W2 ⟨rfl, hl1⟩))
  all_goals (
    have hB9 := And.left ‹Below w0.heap.size w0 W2 ∧ _›
    go_wp2
    go_ret
    exact ⟨rfl, bcat hB0 hB9 hB0.size⟩)
end Go.Proofs.YtjiapicknkjhmaaDoor

namespace Go.Proofs.YtjiapicknkjhmaaDoor
open Go Go.RowKit

set_option maxRecDepth 100000 in
set_option maxHeartbeats 4000000 in
theorem cmms_ok (n : Nat) (v u : Value) (zs : List Int) (e : Nat) (q r c : Nat → Bool) (w : World) (hG : GA w n v e u zs) (hT : Tab w) (hc : ∀ a, a < n → (c a = true ↔ Mkd n zs e (cmq n zs e (lst n q) (lst n r)) a)) :
    Calls Tryd.prog 109 #[.agg #[.int .i64 n, v, .int .i64 e, u], .int .u64 (bs q n), .int .u64 (bs r n)] w fun x w' => x = .returned (.int .u64 (bs c n)) ∧ Below w.heap.size w w' := by
  have hg := hG.grp
  have hn := hG.le
  have hB0 : Below w.heap.size w (w.alloc (.cells #[.int .i64 n, v, .int .i64 e, u] 50)) := balloc w _
  have hX0 : Blk (w.alloc (.cells #[.int .i64 n, v, .int .i64 e, u] 50)) w.heap.size 50 [.int .i64 n, v, .int .i64 e, u] := blk4 _ _ _ _
  have HLS := hide (fun W (p : Nat → Bool) (h : Below w.heap.size w W) => list_ok n p W hn (hT.below h))
  have HMA := hide (fun W (h : Below w.heap.size w W) => made_ok n v u zs e _ c W (hG.below h) (hT.below h) hc)
  have HM0 := hide (fun x (h : x ∈ lst n q) => (mem_lst.1 h).1)
  have HM1 := hide (fun x (h : x ∈ lst n r) => (mem_lst.1 h).1)
  have hl0 := Nat.le_trans (lst_len n q) hn
  have hl1 := Nat.le_trans (lst_len n r) hn
  have HL0 := hide (li_len (lst n q))
  have HL1 := hide (li_len (lst n r))
  have HLQ := hide (fun W (h : Below w.heap.size w W) => HLS.out W q h)
  have HLR := hide (fun W (h : Below w.heap.size w W) => HLS.out W r h)
  clear hc HLS
  generalize lst n q = xs at *
  generalize lst n r = ys at *
  generalize bs q n = Q at *
  generalize bs r n = R at *
  go_enter Tryd.func109, Tryd.ntmps109
  go_wp2_with fail
  generalize w.alloc (.cells #[.int .i64 n, v, .int .i64 e, u] 50) = w0 at *
  refine (HLQ.out _ hB0).mono ?_
  rintro x w1 ⟨rv, rfl, hrv, hb1⟩
  obtain ⟨a0, cap0, pb0, po0, rfl, hr0, hp0, hq0, hm0, _⟩ := hrv
  have hB1 := bcat2 hB0 hb1
  have hX1 := blk_below hX0 hb1
  rw [HL0.out] at hq0 ⊢
  have HR0 := hide hr0
  clear hr0 hX0 hB0 HLQ hm0
  go_wp2_with fail
  go_loopw [7, 15] (fun s i wr => ∃ k : Nat, k ≤ xs.length ∧ i = .int .i64 k ∧ s = .int .u64 (bs (cmq n zs e (xs.take k) ys) n) ∧ Below w1.heap.size w1 wr) (fun _ i _ => xs.length - (intOf i).toNat)
  case atStart => exact ⟨0, Nat.zero_le _, rfl, by rw [List.take_zero, show bs (cmq n zs e [] ys) n = 0 from bs_none n]; rfl, Below.refl _ _⟩
  case round =>
    obtain ⟨k, hk, rfl, rfl, hB⟩ := hrel
    by_cases hlt : k < xs.length
    · have hck := (HR0.out.below hB hp0).cell k (by rw [HL0.out]; exact hlt)
      rw [li_get hlt] at hck
      obtain rfl := HR0.out.at_ (by rw [HL0.out]; omega)
      obtain ⟨x, hxe⟩ : ∃ x, xs[k] = x := ⟨_, rfl⟩
      have hxn : x < n := by rw [← hxe]; exact HM0.out _ (List.getElem_mem hlt)
      have hsn : xs.take (k + 1) = xs.take k ++ [x] := by rw [List.take_succ_eq_append_getElem hlt, hxe]
      rw [hxe] at hck
      have HSN := hide hsn
      clear hxe hsn
      go_wp2_with fail
      clear hck
      refine (HLR.out _ (bcat2 hB1 hB)).mono ?_
      rintro x9 w3 ⟨rv, rfl, hrv, hb3⟩
      obtain ⟨a1, cap1, pb1, po1, rfl, hr1, hp1, hq1, hm1, _⟩ := hrv
      have hB3 := bcat2 hB hb3
      rw [HL1.out] at hq1 ⊢
      have HR1 := hide hr1
      clear hr1 hm1
      go_wp2_with fail
      go_loopw [7, 22] (fun s i wr => ∃ j : Nat, j ≤ ys.length ∧ i = .int .i64 j ∧ s = .int .u64 (bs (fun y => cmq n zs e (xs.take k) ys y || (ys.take j).any fun b => decide (Fin.cm (tm n zs) (iv n zs e) x b = y)) n) ∧ Below w3.heap.size w3 wr) (fun _ i _ => ys.length - (intOf i).toNat)
      case atStart => exact ⟨0, Nat.zero_le _, rfl, by simp, Below.refl _ _⟩
      case round =>
        obtain ⟨j, hj, rfl, rfl, hB'⟩ := hrel
        clear hB
        have hBn := bcat2 hB3 hB'
        by_cases hltj : j < ys.length
        · have hcj := (HR1.out.below hB' hp1).cell j (by rw [HL1.out]; exact hltj)
          rw [li_get hltj] at hcj
          obtain rfl := HR1.out.at_ (by rw [HL1.out]; omega)
          obtain ⟨y, hye⟩ : ∃ y, ys[j] = y := ⟨_, rfl⟩
          have hyn : y < n := by rw [← hye]; exact HM1.out _ (List.getElem_mem hltj)
          have hsn : ys.take (j + 1) = ys.take j ++ [y] := by rw [List.take_succ_eq_append_getElem hltj, hye]
          rw [hye] at hcj
          have hGr := hG.below (bcat2 hB1 hBn)
          have hct : Fin.cm (tm n zs) (iv n zs e) x y < n := List.mem_range.1 (Fin.cm_mem (grp_fg hg) (grp_iv hg) (List.mem_range.2 hxn) (List.mem_range.2 hyn))
          have hor := bs_put (n := n) (t := Fin.cm (tm n zs) (iv n zs e) x y) (p := fun z => cmq n zs e (xs.take k) ys z || (ys.take j).any fun b => decide (Fin.cm (tm n zs) (iv n zs e) x b = z)) (q := fun z => cmq n zs e (xs.take k) ys z || (ys.take (j + 1)).any fun b => decide (Fin.cm (tm n zs) (iv n zs e) x b = z)) hn (fun z => by
            rw [hsn, List.any_append]
            simp only [List.any_cons, List.any_nil, Bool.or_false, Bool.or_assoc]
            congr 2
            rw [Bool.eq_iff_iff, decide_eq_true_eq, decide_eq_true_eq]
            exact eq_comm)
          have HCM := hide (cmt_ok n _ _ zs e x y wr hGr hxn hyn)
          have HOF := hide (fun W b (h : W.cell? ⟨b, 0, none⟩ = some (.int .i64 (Fin.cm (tm n zs) (iv n zs e) x y))) => of_one n b (Fin.cm (tm n zs) (iv n zs e) x y) W hn hct h)
          obtain ⟨_, g0, g1, g2, g3, _⟩ := Four.mk' (blk_below hX1 hBn)
          generalize Fin.cm (tm n zs) (iv n zs e) x y = t at *
          generalize bs (fun z => decide (z = t)) n = T9 at *
          clear hsn hye
          go_wp2_with fail
          refine HCM.out.mono ?_
          rintro x9 w7 ⟨rfl, hb7⟩
          have hB8 := bcat2 hB' (bcat2 hb7 (balloc w7 (.cells #[.int .i64 t] 3)))
          clear g0 g1 g2 g3
          go_wp2_with fail
          refine (HOF.out _ _ (cell1 _ _ _)).mono ?_
          rintro x9 w8 ⟨rfl, rfl⟩
          go_wp2
          go_roundw
          case rel => exact ⟨j + 1, by omega, by go_num, rfl, hB8⟩
          case measure => simp [intOf]; omega
        · have hjn : j = ys.length := by omega
          subst hjn
          have HE := hide (show bs (fun y => cmq n zs e (xs.take k) ys y || (ys.take ys.length).any fun b => decide (Fin.cm (tm n zs) (iv n zs e) x b = y)) n = bs (cmq n zs e (xs.take (k + 1)) ys) n from bs_ext fun y _ => by
            rw [List.take_length, HSN.out]
            simp [cmq])
          rw [HE.out]
          go_wp2
          go_roundw
          case rel => exact ⟨k + 1, by omega, by go_num, rfl, hBn⟩
          case measure => simp [intOf]; omega
    · have hkn : k = xs.length := by omega
      subst hkn
      rw [List.take_length]
      obtain ⟨_, g0, g1, g2, g3, _⟩ := Four.mk' (blk_below hX1 hB)
      go_wp2_with fail
      refine (HMA.out _ (bcat2 hB1 hB)).mono ?_
      rintro x9 w8 ⟨rfl, hb8⟩
      go_wp2
      go_ret
      exact ⟨rfl, bcat2 (bcat2 hB1 hB) hb8⟩
end Go.Proofs.YtjiapicknkjhmaaDoor
