/- What the law's ringOf and the document's OneToOne answer. The frame that all rows of this family share: how a table that came in reads. The frame that all rows of this family share: what the listed table gives a walk; how a list of ints that came in reads. How a list of lists of ints that came in reads. No condition. How a list of lists that came in reads, with how great its lists can be; and the law's own copy of it. No condition. Package prod: product, checkedEntry and strays. Condition: the library's table of places lies as its text lays it. -/
import Derived.Test.YtgdpgbldjpeopaaGreatDoorZ4
import Derived.Test.YtgdpgbldjpeopaaGreatDoorZ3
import Derived.Deep.AppendLies
import Derived.Test.YtgdpgbldjpeopaaGreatDoorRows
import Derived.Test.YtgdpgbldjpeopaaGreatDoorZ1
import Derived.ProofKit
import Derived.OpenShut
import Derived.ChangeOld
import Derived.Below
import Derived.SizedLaws
import Derived.LaidMore
import Derived.Stop.Joined
import Derived.Stop.LaidErr
import Derived.Lib.LaidTab
import Derived.Deep.Matrix
import Derived.BigQuiet
namespace Go.Proofs.YtgdpgbldjpeopaaGreatDoor
open Go Go.RowKit

section
variable {n : Nat}
/-- The table of adding, modulo n. -/
def rngT (n : Nat) : List Int := mkT n (fun a b => (a + b) % n)
theorem rng_grp (h1 : 1 ≤ n) (h2 : n ≤ 60) : IsGrp n (rngT n) 0 := by
  refine grp_mk h1 h2 (fun a b _ _ => Nat.mod_lt _ (by omega)) (by omega) (fun a ha => ?_) (fun a ha => ?_) (fun a b c ha hb hc => ?_) (fun a ha => ?_)
  · show (0 + a) % n = a
    rw [Nat.zero_add]; exact Nat.mod_eq_of_lt ha
  · show (a + 0) % n = a
    rw [Nat.add_zero]; exact Nat.mod_eq_of_lt ha
  · show ((a + b) % n + c) % n = (a + (b + c) % n) % n
    rw [Nat.mod_add_mod, Nat.add_mod_mod, Nat.add_assoc]
  · refine ⟨(n - a) % n, Nat.mod_lt _ (by omega), ?_⟩
    show (a + (n - a) % n) % n = 0
    rw [Nat.add_mod_mod, show a + (n - a) = n by omega, Nat.mod_self]
theorem rng_tm {a b : Nat} (ha : a < n) (hb : b < n) : tm n (rngT n) a b = (a + b) % n := tm_mk ha hb
end
theorem rng_get {n a b : Nat} (ha : a < n) (hb : b < n) : (rngT n)[a * n + b]?.getD 0 = (((a + b) % n : Nat) : Int) := by
  obtain ⟨e1, e2⟩ := dm' (a := a) hb
  unfold rngT
  rw [mkT_get (place_lt ha hb), e1, e2]
set_option maxRecDepth 100000 in
set_option maxHeartbeats 8000000 in
theorem ring_ok (n : Nat) (w : World) (hn1 : 1 ≤ n) (hn : n ≤ 60) :
    Calls Tryz.prog 18 #[.int .i64 n] w fun x w' => ∃ r, x = .returned (.agg #[.int .i64 n, r]) ∧ Row w' w.heap.size r (rngT n) ∧ Below w.heap.size w w' := by
  obtain ⟨i0, hi, hz0, hz1, hz2⟩ := info_parts info3b
  obtain ⟨T, hT⟩ : ∃ T, T = rngT n := ⟨_, rfl⟩
  have HTL := hide (show T.length = n * n by rw [hT]; exact mkT_len _ _)
  have HTG := hide (fun a b (ha : a < n) (hb : b < n) => show T[a * n + b]?.getD 0 = (((a + b) % n : Nat) : Int) by rw [hT]; exact rng_get ha hb)
  rw [← hT]
  clear hT
  have hnn : n * n ≤ 3600 := Nat.mul_le_mul hn hn
  have HNN := hide hnn
  clear hnn
  have hB0 : Below w.heap.size w ((w.alloc (.cells #[.int .i64 0, .slice none 0 0] 24)).alloc (.cells #[.int .i64 n, .slice none 0 0] 24)) := (balloc w _).alloc (by simp) _
  have hR0 : Blk ((w.alloc (.cells #[.int .i64 0, .slice none 0 0] 24)).alloc (.cells #[.int .i64 n, .slice none 0 0] 24)) w.heap.size 24 [.int .i64 0, .slice none 0 0] := (blk0 _ _).alloc _
  have hX0 : Blk ((w.alloc (.cells #[.int .i64 0, .slice none 0 0] 24)).alloc (.cells #[.int .i64 n, .slice none 0 0] 24)) (w.heap.size + 1) 24 [.int .i64 n, .slice none 0 0] := by
    have := blk0 (w := w.alloc (.cells #[.int .i64 0, .slice none 0 0] 24)) (T := 24) (.int .i64 n) (.slice none 0 0)
    rwa [World.size_alloc] at this
  go_enter Tryz.func18, Tryz.ntmps18
  go_wp2
  go_loopw [4] (fun i wr => ∃ (a : Nat) (r : Value), a ≤ n ∧ i = .int .i64 a ∧ Row wr (w.heap.size + 1 + 1) r (T.take (a * n)) ∧ Blk wr w.heap.size 24 [.int .i64 0, .slice none 0 0] ∧ Blk wr (w.heap.size + 1) 24 [.int .i64 n, r] ∧ Below w.heap.size w wr) (fun i _ => n - (intOf i).toNat)
  case atStart => exact ⟨0, .slice none 0 0, by omega, rfl, by simpa using nil_row _ _, hR0, hX0, hB0⟩
  case round =>
    obtain ⟨a, r, ha, rfl, hrow, hR, hX, hB⟩ := hrel
    clear hR0 hX0 hB0
    by_cases hlta : a < n
    · have hai : (a : Int) < (n : Int) := by omega
      go_wp2
      go_loopw [5] (fun i wr => ∃ (b : Nat) (r : Value), b ≤ n ∧ i = .int .i64 b ∧ Row wr (w.heap.size + 1 + 1) r (T.take (a * n + b)) ∧ Blk wr w.heap.size 24 [.int .i64 0, .slice none 0 0] ∧ Blk wr (w.heap.size + 1) 24 [.int .i64 n, r] ∧ Below w.heap.size w wr) (fun i _ => n - (intOf i).toNat)
      case atStart => exact ⟨0, r, by omega, rfl, hrow, hR, hX, hB⟩
      case round =>
        obtain ⟨b, r', hb, rfl, hrow', hR', hX', hB'⟩ := hrel
        clear hrow hR hX hB
        by_cases hltb : b < n
        · have hbi : (b : Int) < (n : Int) := by omega
          have HV := hide (HTG.out a b hlta hltb)
          have hpl : a * n + b < n * n := place_lt hlta hltb
          have hlen : (T.take (a * n + b)).length = a * n + b := by rw [List.length_take, HTL.out]; omega
          have hsn : T.take (a * n + (b + 1)) = T.take (a * n + b) ++ [(((a + b) % n : Nat) : Int)] := by
            rw [← Nat.add_assoc, take_snoc' (by rw [HTL.out]; exact hpl), HV.out]
          have HSN := hide hsn
          have HLL := hide (show (T.take (a * n + b)).length ≤ 3600 by have := HNN.out; omega)
          have hown : wr.ownsRow (w.heap.size + 1 + 1) 3 1 r' (T.take (a * n + b)).length ((T.take (a * n + b)).map (Value.int .i64)) := hrow'
          clear hsn hlen hrow' HV hpl
          generalize T.take (a * n + b) = xs at *
          obtain ⟨q9, hq9⟩ : ∃ q9 : Nat, (a + b) % n = q9 := ⟨_, rfl⟩
          rw [hq9] at HSN
          have hwp : IntKind.i64.wrap ((a : Int) + (b : Int)) = (a : Int) + (b : Int) := by rw [IntKind.wrap_i64]; omega
          have hrm : ((a : Int) + (b : Int)).tmod (n : Int) = (q9 : Int) := by rw [← hq9]; exact tmod_nat n (by omega)
          have hqn : q9 < n := by rw [← hq9]; exact Nat.mod_lt _ (by omega)
          have hwq : IntKind.i64.wrap (q9 : Int) = (q9 : Int) := by rw [IntKind.wrap_i64]; omega
          have hn0 : ¬ n = 0 := by omega
          have hn0i : ¬ (n : Int) = 0 := by omega
          clear hq9
          obtain ⟨rx, rcap, rfl⟩ := own_slice hown
          obtain ⟨x0, x1, fx0, fx1⟩ := hX'.two
          have hs2 := hX'.lt
          go_wp2_with fail
          have hS0 : (fun W => Below w.heap.size w W) wr.drew := bdrew hB'
          refine wp_region_held_drew (S := (fun W => Below w.heap.size w W)) (by kernel_rfl) hS0 (fun hHeld => ?_)
          refine wpAnyH_take (i := 0) (oi := ({ dst := some 18, op := Go.Op.fieldAddr 24 (Go.Operand.tmp 3) 1, type := 0, pos := _, after := #[], guard := none } : Oper)) (v := ?_) rfl (by kernel_rfl) (by kernel_rfl) (by kernel_rfl) (fun _ _ _ h => h) (Or.inl ⟨by rfl, ?_⟩) (by assumption) ?_
          rotate_left
          · (intro w hSw; (try dsimp only at hSw); go_simp; try with_reducible rfl)
          simp only [Act.put, List.setIfInBounds_toArray, List.set_cons_zero, List.set_cons_succ]
          refine wpAnyH_take (i := 2) (oi := ({ dst := some 20, op := Go.Op.move (Go.Operand.tmp 4), type := 3, pos := _, after := #[], guard := none } : Oper)) (v := ?_) rfl (by kernel_rfl) (by kernel_rfl) (by kernel_rfl) (fun _ _ _ h => h) (Or.inl ⟨by rfl, ?_⟩) (by assumption) ?_
          rotate_left
          · (intro w hSw; (try dsimp only at hSw); go_simp; try with_reducible rfl)
          simp only [Act.put, List.setIfInBounds_toArray, List.set_cons_zero, List.set_cons_succ]
          refine wpAnyH_take (i := 3) (oi := ({ dst := some 21, op := Go.Op.move (Go.Operand.tmp 5), type := 3, pos := _, after := #[], guard := none } : Oper)) (v := ?_) rfl (by kernel_rfl) (by kernel_rfl) (by kernel_rfl) (fun _ _ _ h => h) (Or.inl ⟨by rfl, ?_⟩) (by assumption) ?_
          rotate_left
          · (intro w hSw; (try dsimp only at hSw); go_simp; try with_reducible rfl)
          simp only [Act.put, List.setIfInBounds_toArray, List.set_cons_zero, List.set_cons_succ]
          refine wpAnyH_take (i := 4) (oi := ({ dst := some 22, op := Go.Op.binOp Go.BinOp.add 3 (Go.Operand.tmp 20) (Go.Operand.tmp 21) 3, type := 3, pos := _, after := #[{ on := 2, ground := Go.Ground.data }, { on := 3, ground := Go.Ground.data }], guard := none } : Oper)) (v := ?_) rfl (by kernel_rfl) (by kernel_rfl) (by kernel_rfl) (fun _ _ _ h => h) (Or.inl ⟨by rfl, ?_⟩) (by assumption) ?_
          rotate_left
          · (intro w hSw; (try dsimp only at hSw); go_simp; try with_reducible rfl)
          simp only [Act.put, List.setIfInBounds_toArray, List.set_cons_zero, List.set_cons_succ]
          refine wpAnyH_take (i := 5) (oi := ({ dst := some 23, op := Go.Op.move (Go.Operand.tmp 0), type := 3, pos := _, after := #[], guard := none } : Oper)) (v := ?_) rfl (by kernel_rfl) (by kernel_rfl) (by kernel_rfl) (fun _ _ _ h => h) (Or.inl ⟨by rfl, ?_⟩) (by assumption) ?_
          rotate_left
          · (intro w hSw; (try dsimp only at hSw); go_simp; try with_reducible rfl)
          simp only [Act.put, List.setIfInBounds_toArray, List.set_cons_zero, List.set_cons_succ]
          refine wpAnyH_take (i := 6) (oi := ({ dst := some 24, op := Go.Op.binOp Go.BinOp.rem 3 (Go.Operand.tmp 22) (Go.Operand.tmp 23) 3, type := 3, pos := _, after := #[{ on := 4, ground := Go.Ground.data }, { on := 5, ground := Go.Ground.data }], guard := none } : Oper)) (v := ?_) rfl (by kernel_rfl) (by kernel_rfl) (by kernel_rfl) (fun _ _ _ h => h) (Or.inl ⟨by rfl, ?_⟩) (by assumption) ?_
          rotate_left
          · (intro w hSw; (try dsimp only at hSw); go_simp; try with_reducible rfl)
          simp only [Act.put, List.setIfInBounds_toArray, List.set_cons_zero, List.set_cons_succ]
          refine wpAnyH_ready (rs := [1, 7]) (by kernel_rfl) (by simp) (AllReadyH.cons (o := ({ dst := some 19, op := Go.Op.load 22 (Go.Operand.tmp 18), type := 22, pos := _, after := #[{ on := 0, ground := Go.Ground.data }], guard := none } : Oper)) rfl (fun K hK => ?_) (AllReadyH.cons (o := ({ dst := some 25, op := Go.Op.buildSlice 22 1 #[(0, Go.Operand.tmp 24)], type := 22, pos := _, after := #[{ on := 6, ground := Go.Ground.data }], guard := none } : Oper)) rfl (fun K hK => ?_) AllReadyH.nil))
          · go_simp
            refine hK.out _ _ hHeld (fun hHeld => ?_)
            clear hK
            try simp only [Act.put, List.setIfInBounds_toArray, List.set_cons_zero, List.set_cons_succ]
            refine wpAnyH_ready (rs := [7]) (by kernel_rfl) (by simp) (AllReadyH.cons (o := ({ dst := some 25, op := Go.Op.buildSlice 22 1 #[(0, Go.Operand.tmp 24)], type := 22, pos := _, after := #[{ on := 6, ground := Go.Ground.data }], guard := none } : Oper)) rfl (fun K hK => ?_) AllReadyH.nil)
            go_simp
            refine hK.out _ _ (show Below w.heap.size w (wr.drew.alloc (.cells #[.int .i64 (q9 : Int)] 3)) from (bdrew hB').alloc (bdrew hB').size _) (fun hHeld => ?_)
            clear hK
            try simp only [Act.put, List.setIfInBounds_toArray, List.set_cons_zero, List.set_cons_succ]
            refine wpAnyH_ready (rs := [8]) (by kernel_rfl) (by simp) (AllReadyH.cons (o := ({ dst := some 26, op := Go.Op.call { callee := Go.Callee.builtin Go.Builtin.append, args := #[Go.Operand.tmp 19, Go.Operand.tmp 25], argTypes := #[22, 22] }, type := 22, pos := _, after := #[{ on := 1, ground := Go.Ground.data }, { on := 7, ground := Go.Ground.data }], guard := none } : Oper)) rfl (fun K hK => ?_) AllReadyH.nil)
            refine step_append_lies _ rfl _ _ 22 rfl (w.heap.size + 1 + 1) 3 i0 (.int .i64 0) 1 8 under22b hi hz0 hz1 hz2 rfl (by decide) _ _ _ rfl (World.ownsRow.alloc hown _) ⟨wr.heap.size, 0, none⟩ 1 1 [.int .i64 q9] rfl rfl (cell_one_new _ _ _) (by simp [Value.oneCell']) (by decide) (by unfold maxLen; have := HLL.out; omega) (by have := HLL.out; omega) (by simp; omega) _ rfl ?_
            intro g9 cap9 w9 hown9 hgrow hloc _
            have hk9 : ∀ k, k < w.heap.size + 1 + 1 → w9.heap[k]? = wr.heap[k]? := fun k hk => (hgrow.block k (by simp; omega) (fun e9 => by have := owns_ge hown k e9.symm; omega)).trans (Below.heap_alloc _ _ k (show k < wr.heap.size by omega))
            have hX9 : Blk w9 (w.heap.size + 1) 24 [.int .i64 n, .slice rx xs.length rcap] := hX'.of_eq (hk9 _ (by omega))
            have hR9 : Blk w9 w.heap.size 24 [.int .i64 0, .slice none 0 0] := hR'.of_eq (hk9 _ (by omega))
            have hcw := hX9.two.2.1
            have hfw := hX9.two.2.2.2
            have hB9 : Below w.heap.size w w9 := ((bdrew hB').alloc (bdrew hB').size _).grown hgrow (by have := hB'.size; simp; omega) (fun t e9 => by have := owns_ge hown t e9; omega)
            have hB3 := hB9.setCell (p := ⟨w.heap.size + 1, 1, none⟩) (by simp) (.slice (some ⟨g9, 0, none⟩) (xs.length + 1) cap9)
            refine hK.out _ _ hB9 (fun hHeld => ?_)
            clear hK
            try simp only [Act.put, List.setIfInBounds_toArray, List.set_cons_zero, List.set_cons_succ]
            refine wpAnyH_take (i := 9) (oi := ({ dst := some 27, op := Go.Op.fieldAddr 24 (Go.Operand.tmp 3) 1, type := 0, pos := _, after := #[{ on := 0, ground := Go.Ground.phase }, { on := 1, ground := Go.Ground.phase }, { on := 2, ground := Go.Ground.phase }, { on := 3, ground := Go.Ground.phase }, { on := 4, ground := Go.Ground.phase }, { on := 5, ground := Go.Ground.phase }, { on := 6, ground := Go.Ground.phase }, { on := 7, ground := Go.Ground.phase }, { on := 8, ground := Go.Ground.phase }], guard := none } : Oper)) (v := ?_) rfl (by kernel_rfl) (by kernel_rfl) (by kernel_rfl) (fun _ _ _ h => h) (Or.inl ⟨by rfl, ?_⟩) (by assumption) ?_
            rotate_left
            · (intro w hSw; (try dsimp only at hSw); go_simp; try with_reducible rfl)
            simp only [Act.put, List.setIfInBounds_toArray, List.set_cons_zero, List.set_cons_succ]
            refine wpAnyH_ready (rs := [10]) (by kernel_rfl) (by simp) (AllReadyH.cons (o := ({ dst := none, op := Go.Op.store 22 (Go.Operand.tmp 27) (Go.Operand.tmp 26), type := 0, pos := _, after := #[{ on := 9, ground := Go.Ground.data }, { on := 8, ground := Go.Ground.data }, { on := 8, ground := Go.Ground.chain }, { on := 0, ground := Go.Ground.phase }, { on := 1, ground := Go.Ground.phase }, { on := 2, ground := Go.Ground.phase }, { on := 3, ground := Go.Ground.phase }, { on := 4, ground := Go.Ground.phase }, { on := 5, ground := Go.Ground.phase }, { on := 6, ground := Go.Ground.phase }, { on := 7, ground := Go.Ground.phase }, { on := 8, ground := Go.Ground.phase }], guard := none } : Oper)) rfl (fun K hK => ?_) AllReadyH.nil)
            go_simp
            refine hK.out _ _ hB3 (fun hHeld => ?_)
            clear hK
            try simp only [Act.put, List.setIfInBounds_toArray, List.set_cons_zero, List.set_cons_succ]
            refine wpAnyH_done (by kernel_rfl) ?_ _
            have hX3 := hX9.set 1 (.slice (some ⟨g9, 0, none⟩) (xs.length + 1) cap9)
            have hR3 := hR9.other (p := ⟨w.heap.size + 1, 1, none⟩) (by simp) (.slice (some ⟨g9, 0, none⟩) (xs.length + 1) cap9)
            have hrow9 : Row w9 (w.heap.size + 1 + 1) (.slice (some ⟨g9, 0, none⟩) (xs.length + 1) cap9) (T.take (a * n + (b + 1))) := by
              unfold Row
              rw [HSN.out]
              simpa using hown9
            have hrow3 := row_keep (W' := w9.setCell ⟨w.heap.size + 1, 1, none⟩ (.slice (some ⟨g9, 0, none⟩) (xs.length + 1) cap9)) hrow9 (fun g h1 _ => Below.heap_setCell _ _ _ g (by simp; omega))
            clear hown9 hgrow hown hrow9 hk9 hloc
            go_wp2
            go_roundw
            case rel => exact ⟨b + 1, _, by omega, by go_num, hrow3, hR3, hX3, hB3⟩
            case measure => simp [intOf]; omega
          · go_simp
            refine hK.out _ _ (show Below w.heap.size w (wr.drew.alloc (.cells #[.int .i64 (q9 : Int)] 3)) from (bdrew hB').alloc (bdrew hB').size _) (fun hHeld => ?_)
            clear hK
            try simp only [Act.put, List.setIfInBounds_toArray, List.set_cons_zero, List.set_cons_succ]
            refine wpAnyH_ready (rs := [1]) (by kernel_rfl) (by simp) (AllReadyH.cons (o := ({ dst := some 19, op := Go.Op.load 22 (Go.Operand.tmp 18), type := 22, pos := _, after := #[{ on := 0, ground := Go.Ground.data }], guard := none } : Oper)) rfl (fun K hK => ?_) AllReadyH.nil)
            have x1a := (Blk.alloc (show Blk wr.drew (w.heap.size + 1) 24 [.int .i64 n, .slice rx xs.length rcap] from hX') (.cells #[.int .i64 q9] 3)).two.2.1
            go_simp
            refine hK.out _ _ hHeld (fun hHeld => ?_)
            clear hK
            try simp only [Act.put, List.setIfInBounds_toArray, List.set_cons_zero, List.set_cons_succ]
            refine wpAnyH_ready (rs := [8]) (by kernel_rfl) (by simp) (AllReadyH.cons (o := ({ dst := some 26, op := Go.Op.call { callee := Go.Callee.builtin Go.Builtin.append, args := #[Go.Operand.tmp 19, Go.Operand.tmp 25], argTypes := #[22, 22] }, type := 22, pos := _, after := #[{ on := 1, ground := Go.Ground.data }, { on := 7, ground := Go.Ground.data }], guard := none } : Oper)) rfl (fun K hK => ?_) AllReadyH.nil)
            refine step_append_lies _ rfl _ _ 22 rfl (w.heap.size + 1 + 1) 3 i0 (.int .i64 0) 1 8 under22b hi hz0 hz1 hz2 rfl (by decide) _ _ _ rfl (World.ownsRow.alloc hown _) ⟨wr.heap.size, 0, none⟩ 1 1 [.int .i64 q9] rfl rfl (cell_one_new _ _ _) (by simp [Value.oneCell']) (by decide) (by unfold maxLen; have := HLL.out; omega) (by have := HLL.out; omega) (by simp; omega) _ rfl ?_
            intro g9 cap9 w9 hown9 hgrow hloc _
            have hk9 : ∀ k, k < w.heap.size + 1 + 1 → w9.heap[k]? = wr.heap[k]? := fun k hk => (hgrow.block k (by simp; omega) (fun e9 => by have := owns_ge hown k e9.symm; omega)).trans (Below.heap_alloc _ _ k (show k < wr.heap.size by omega))
            have hX9 : Blk w9 (w.heap.size + 1) 24 [.int .i64 n, .slice rx xs.length rcap] := hX'.of_eq (hk9 _ (by omega))
            have hR9 : Blk w9 w.heap.size 24 [.int .i64 0, .slice none 0 0] := hR'.of_eq (hk9 _ (by omega))
            have hcw := hX9.two.2.1
            have hfw := hX9.two.2.2.2
            have hB9 : Below w.heap.size w w9 := ((bdrew hB').alloc (bdrew hB').size _).grown hgrow (by have := hB'.size; simp; omega) (fun t e9 => by have := owns_ge hown t e9; omega)
            have hB3 := hB9.setCell (p := ⟨w.heap.size + 1, 1, none⟩) (by simp) (.slice (some ⟨g9, 0, none⟩) (xs.length + 1) cap9)
            refine hK.out _ _ hB9 (fun hHeld => ?_)
            clear hK
            try simp only [Act.put, List.setIfInBounds_toArray, List.set_cons_zero, List.set_cons_succ]
            refine wpAnyH_take (i := 9) (oi := ({ dst := some 27, op := Go.Op.fieldAddr 24 (Go.Operand.tmp 3) 1, type := 0, pos := _, after := #[{ on := 0, ground := Go.Ground.phase }, { on := 1, ground := Go.Ground.phase }, { on := 2, ground := Go.Ground.phase }, { on := 3, ground := Go.Ground.phase }, { on := 4, ground := Go.Ground.phase }, { on := 5, ground := Go.Ground.phase }, { on := 6, ground := Go.Ground.phase }, { on := 7, ground := Go.Ground.phase }, { on := 8, ground := Go.Ground.phase }], guard := none } : Oper)) (v := ?_) rfl (by kernel_rfl) (by kernel_rfl) (by kernel_rfl) (fun _ _ _ h => h) (Or.inl ⟨by rfl, ?_⟩) (by assumption) ?_
            rotate_left
            · (intro w hSw; (try dsimp only at hSw); go_simp; try with_reducible rfl)
            simp only [Act.put, List.setIfInBounds_toArray, List.set_cons_zero, List.set_cons_succ]
            refine wpAnyH_ready (rs := [10]) (by kernel_rfl) (by simp) (AllReadyH.cons (o := ({ dst := none, op := Go.Op.store 22 (Go.Operand.tmp 27) (Go.Operand.tmp 26), type := 0, pos := _, after := #[{ on := 9, ground := Go.Ground.data }, { on := 8, ground := Go.Ground.data }, { on := 8, ground := Go.Ground.chain }, { on := 0, ground := Go.Ground.phase }, { on := 1, ground := Go.Ground.phase }, { on := 2, ground := Go.Ground.phase }, { on := 3, ground := Go.Ground.phase }, { on := 4, ground := Go.Ground.phase }, { on := 5, ground := Go.Ground.phase }, { on := 6, ground := Go.Ground.phase }, { on := 7, ground := Go.Ground.phase }, { on := 8, ground := Go.Ground.phase }], guard := none } : Oper)) rfl (fun K hK => ?_) AllReadyH.nil)
            go_simp
            refine hK.out _ _ hB3 (fun hHeld => ?_)
            clear hK
            try simp only [Act.put, List.setIfInBounds_toArray, List.set_cons_zero, List.set_cons_succ]
            refine wpAnyH_done (by kernel_rfl) ?_ _
            have hX3 := hX9.set 1 (.slice (some ⟨g9, 0, none⟩) (xs.length + 1) cap9)
            have hR3 := hR9.other (p := ⟨w.heap.size + 1, 1, none⟩) (by simp) (.slice (some ⟨g9, 0, none⟩) (xs.length + 1) cap9)
            have hrow9 : Row w9 (w.heap.size + 1 + 1) (.slice (some ⟨g9, 0, none⟩) (xs.length + 1) cap9) (T.take (a * n + (b + 1))) := by
              unfold Row
              rw [HSN.out]
              simpa using hown9
            have hrow3 := row_keep (W' := w9.setCell ⟨w.heap.size + 1, 1, none⟩ (.slice (some ⟨g9, 0, none⟩) (xs.length + 1) cap9)) hrow9 (fun g h1 _ => Below.heap_setCell _ _ _ g (by simp; omega))
            clear hown9 hgrow hown hrow9 hk9 hloc
            go_wp2
            go_roundw
            case rel => exact ⟨b + 1, _, by omega, by go_num, hrow3, hR3, hX3, hB3⟩
            case measure => simp [intOf]; omega
        · have hbi : ¬ (b : Int) < (n : Int) := by omega
          have hbn : b = n := by omega
          have hrow8 : Row wr (w.heap.size + 1 + 1) r' (T.take ((a + 1) * n)) := by rw [Nat.add_mul, Nat.one_mul]; rw [hbn] at hrow'; exact hrow'
          clear hbn hrow'
          go_wp2
          go_roundw
          case rel => exact ⟨a + 1, r', by omega, by go_num, hrow8, hR', hX', hB'⟩
          case measure => simp [intOf]; omega
    · have hai : ¬ (a : Int) < (n : Int) := by omega
      have han : a = n := by omega
      have hTT : T.take (a * n) = T := List.take_of_length_le (by rw [HTL.out, han]; exact Nat.le_refl _)
      rw [hTT] at hrow
      clear hTT han
      have hown : wr.ownsRow (w.heap.size + 1 + 1) 3 1 r T.length (T.map (Value.int .i64)) := hrow
      obtain ⟨rx, rcap, rfl⟩ := own_slice hown
      obtain ⟨x0, x1, fx0, fx1⟩ := hX.two
      obtain ⟨r0, r1, fr0, fr1⟩ := hR.two
      have hR8 : Blk ((wr.setCell ⟨w.heap.size, 0, none⟩ (.int .i64 n)).setCell ⟨w.heap.size, 1, none⟩ (.slice rx T.length rcap)) w.heap.size 24 [.int .i64 n, .slice rx T.length rcap] := (hR.set 0 _).set 1 _
      have hB8 := (hB.setCell (p := ⟨w.heap.size, 0, none⟩) (by simp) (.int .i64 n)).setCell (p := ⟨w.heap.size, 1, none⟩) (by simp) (.slice rx T.length rcap)
      have hrow8 := owns_mono (row_keep (W' := (wr.setCell ⟨w.heap.size, 0, none⟩ (.int .i64 n)).setCell ⟨w.heap.size, 1, none⟩ (.slice rx T.length rcap)) hrow (fun g h1 _ => by rw [Below.heap_setCell _ _ _ g (by simp; omega), Below.heap_setCell _ _ _ g (by simp; omega)])) (show w.heap.size ≤ w.heap.size + 1 + 1 by omega)
      clear hown hrow
      go_wp2
      generalize (wr.setCell ⟨w.heap.size, 0, none⟩ (.int .i64 n)).setCell ⟨w.heap.size, 1, none⟩ (.slice rx T.length rcap) = W at hR8 hB8 hrow8 ⊢
      obtain ⟨z0, z1, _, _⟩ := hR8.two
      exact bodyPost_ret (v := .agg #[.int .i64 n, .slice rx T.length rcap]) (by simp [results, Tryz.results18, go_sem, z0, z1]) rfl ⟨_, rfl, hrow8, hB8⟩
/-- Does each number below n stand there? -/
def o1 (n : Nat) (xs : List Int) : Bool := (List.range n).all fun i => decide ((i : Int) ∈ xs)
theorem o1_iff {n : Nat} {xs : List Int} : o1 n xs = true ↔ ∀ i, i < n → (i : Int) ∈ xs := by simp [o1]
end Go.Proofs.YtgdpgbldjpeopaaGreatDoor

namespace Go.Proofs.YtgdpgbldjpeopaaGreatDoor
open Go.ChangeShapes Go.WideShapes Go.ChangeAt Go.RowKit

theorem own : ownKnob Tryz.prog.godebug = none := by kernel_rfl
theorem laidOut : laidOutB Tryz.prog = true := by kernel_rfl

/-- A slice of ints that reads as zs; where nothing is in it, nothing is told of the memory. -/
def SlA (w : World) (v : Value) (zs : List Int) : Prop := ∃ a cap pb po, v = .slice a zs.length cap ∧ Reads w a pb po zs ∧ (0 < zs.length → pb < w.heap.size) ∧ zs.length ≤ cap ∧ cap ≤ maxLen
theorem SlA.up {w w' : World} {v : Value} {zs : List Int} (h : SlA w v zs) (hb : Below w.heap.size w w') (h0 : 0 < w'.heap.size) : Sl w' v zs := by
  obtain ⟨a, cap, pb, po, hv, hr, hp, h1, h2⟩ := h
  rcases Nat.eq_zero_or_pos zs.length with hz | hz
  · exact ⟨a, cap, 0, 0, hv, ⟨fun h => by omega, fun j hj => by omega⟩, h0, h1, h2⟩
  · exact ⟨a, cap, pb, po, hv, hr.below hb (hp hz), Nat.lt_of_lt_of_le (hp hz) hb.size, h1, h2⟩
theorem SlA.of {w : World} {v : Value} {zs : List Int} (h : Sl w v zs) : SlA w v zs := by
  obtain ⟨a, cap, pb, po, hv, hr, hp, h1, h2⟩ := h
  exact ⟨a, cap, pb, po, hv, hr, fun _ => hp, h1, h2⟩

theorem und24 : ∃ f0 f1 : Field, Tryz.prog.underlying 24 = some (.struct #[f0, f1]) ∧ f0.type = 3 ∧ f1.type = 22 ∧ f0.offset = 0 ∧ f1.offset = 1 := ⟨_, _, Tryz.underlying24, rfl, rfl, rfl, rfl⟩
theorem und3 : Tryz.prog.underlying 3 = some (.int .i64) := by kernel_rfl
theorem und22 : Tryz.prog.underlying 22 = some (.slice 3) := by kernel_rfl
theorem und4 : Tryz.prog.underlying 4 = some .bool := by kernel_rfl

set_option maxRecDepth 100000 in
/-- What is told of a table that came in. -/
theorem open_group {H : Type} {enc : TypeId × Value → H} {W : World} {b0 : Nat} {v : Value} {d : DataW H} {ps : List MemPlace} (hval : Value.okWide Tryz.prog W .any b0 24 v)
    (hd : DataW.Trod enc Tryz.prog W 0 (fun _ => true) true 24 v d ps) :
    ∃ N u zs, v = .agg #[.int .i64 N, u] ∧ SlA W u zs ∧ (Lit.int .i64 N).wf = true ∧ ((d.weights Tryz.prog 24).all (· ≤ reachBytes) = true → zs.length * 8 ≤ 140737488355328) := by
  obtain ⟨f0, f1, hu, ht0, ht1, ho0, ho1⟩ := und24
  obtain ⟨cs, rfl, hsz⟩ := okWide_struct hu hval
  rw [show Tryz.prog.cellsOf 24 = 2 by kernel_rfl] at hsz
  obtain ⟨l⟩ := cs
  match l, hsz with
  | [c0, c1], _ =>
  obtain ⟨fuel, hf⟩ := hd
  obtain ⟨y0, y1, m, hx, _, hy0, hy1⟩ := trod_struct2 hu hf
  rw [ht0, ho0, show Tryz.prog.cellsOf 3 = 1 by kernel_rfl] at hy0
  rw [ht1, ho1, show Tryz.prog.cellsOf 22 = 1 by kernel_rfl] at hy1
  obtain ⟨N, e0, rfl, wN⟩ := DataW.trod_int und3 hy0
  simp [Value.cells] at e0
  subst e0
  simp [Value.cells] at hy1
  rcases open_ints und22 und3 (by kernel_rfl) hy1 with ⟨hcs, _⟩ | ⟨x, l, c, zs, hcs, _, hl, hm, hz, heq, hcell, hwz⟩
  · simp at hcs
    subst hcs
    exact ⟨N, _, [], rfl, ⟨none, 0, 0, 0, rfl, ⟨by simp, by simp⟩, by simp, by simp, by unfold maxLen; omega⟩, wN, fun _ => by simp⟩
  · simp at hcs
    subst hcs
    have hzc : zs.length = c := by simpa using hz
    have hlen : (zs.take l).length = l := by rw [List.length_take]; omega
    refine ⟨N, _, zs.take l, rfl, ?_, wN, fun hw => ?_⟩
    · by_cases hpos : 0 < c
      · obtain ⟨b, o, rfl, hc'⟩ := ints_at hcell (by omega)
        refine ⟨some ⟨b, o, none⟩, c, b, o, by rw [hlen], ⟨fun _ => rfl, fun j hj => ?_⟩, fun _ => World.block_lt_of_cell? W _ (hc' 0 (by omega)), by omega, hm⟩
        rw [hlen] at hj
        rw [hc' j (by omega), List.getElem?_take, if_pos hj, List.getD_eq_getElem?_getD]
      · have : l = 0 := by omega
        subst this
        exact ⟨some x, c, 0, 0, by simp, ⟨by simp, by simp⟩, by simp, by simp, hm⟩
    · have hd : d = .agg [.lit (.int .i64 N), .slice (lits .i64 (zs.take l)) (lits .i64 (zs.drop l))] := by
        have h1 := congrArg Prod.fst hx
        simp only [heq] at h1
        exact h1
      have hw2 := List.all_eq_true.1 hw (((lits (H := H) .i64 (zs.take l)).length + (lits (H := H) .i64 (zs.drop l)).length) * Tryz.prog.bytesOf 3) (by
        rw [hd]; simp [DataW.weights, DataW.weightsEach, hu, ht0, ht1])
      rw [show Tryz.prog.bytesOf 3 = 8 by kernel_rfl] at hw2
      simp only [lits, List.length_map, decide_eq_true_eq] at hw2
      unfold reachBytes at hw2
      omega
end Go.Proofs.YtgdpgbldjpeopaaGreatDoor

namespace Go.Proofs.YtgdpgbldjpeopaaGreatDoor
open Go.ChangeShapes Go.WideShapes Go.ChangeAt Go.RowKit

/-- What the rows list. -/
def laid1 : List (String × DataW Unit) := Rows.prodSemiPartsRow.laid
def tabZ : List Int := Lib.deBruijn64tab.map fun (x : Nat) => (x : Int)
theorem tab_data : (Rows.laid_math_bits_deBruijn64tab : DataW Unit) = Lib.tabData .u8 tabZ := by kernel_rfl
/-- The door's own heap meets the condition. -/
theorem door_met (os : Os) (args : Array Value) : laidMetH Tryz.prog laid1 ((World.doorLaid Tryz.prog 400 os).forCall (fun _ _ => 0) ⟨#[], args, []⟩).memory :=
  laidMetH_of_parts3 (fuel := 8) (laidMet_of_run' 8 (by kernel_rfl) (by kernel_rfl)) (by kernel_rfl) (by kernel_rfl)
theorem tab_of_laid {W : World} (h : laidMetH Tryz.prog laid1 W) : Tab W := by
  rw [MakeChecks.laidMetH_plain _ _ _ (by kernel_rfl)] at h
  have h2 : laidMet Tryz.prog [("math/bits.deBruijn64tab", (Rows.laid_math_bits_deBruijn64tab : DataW Unit))] W := h
  rw [tab_data] at h2
  have hg : Tryz.prog.globalNamed "math/bits.deBruijn64tab" = some 0 := by kernel_rfl
  have hT := Lib.tabIs_of_head hg (t := 115) (e := 5) (n := 64) (by kernel_rfl) (by kernel_rfl) (by kernel_rfl) (by kernel_rfl) (by kernel_rfl) h2
  intro j hj
  have hj' : j < tabZ.length := by simpa [tabZ] using hj
  have hc := hT.cell hg j hj'
  rw [hc]
  simp [tabZ, hj]
set_option maxRecDepth 100000 in
/-- A list of ints that came in: its value, what it reads as, and its size. -/
theorem open_list {H : Type} {enc : TypeId × Value → H} {W : World} {b0 : Nat} {v : Value} {d : DataW H} {ps : List MemPlace} (hval : Value.okWide Tryz.prog W .any b0 22 v)
    (hd : DataW.Trod enc Tryz.prog W 0 (fun _ => true) true 22 v d ps) (h0 : 0 < W.heap.size) :
    ∃ zs, Sl W v zs ∧ ((d.weights Tryz.prog 22).all (· ≤ reachBytes) = true → zs.length * 8 ≤ 140737488355328) := by
  obtain ⟨a, len, cap, rfl⟩ := okWide_slice und22 hval
  obtain ⟨fuel, hf⟩ := hd
  rcases open_ints und22 und3 (by kernel_rfl) hf with ⟨hcs, _⟩ | ⟨x, l, c, zs, hcs, _, hl, hm, hz, heq, hcell, hwz⟩
  · simp [Value.cells] at hcs
    obtain ⟨rfl, rfl, rfl⟩ := hcs
    exact ⟨[], Sl.nil h0, fun _ => by simp⟩
  · simp [Value.cells] at hcs
    obtain ⟨rfl, rfl, rfl⟩ := hcs
    have hzc : zs.length = cap := by simpa using hz
    have hlen : (zs.take len).length = len := by rw [List.length_take]; omega
    refine ⟨zs.take len, ?_, fun hw => ?_⟩
    · by_cases hpos : 0 < cap
      · obtain ⟨b, o, rfl, hc'⟩ := ints_at hcell (by omega)
        refine ⟨some ⟨b, o, none⟩, cap, b, o, by rw [hlen], ⟨fun _ => rfl, fun j hj => ?_⟩, World.block_lt_of_cell? W _ (hc' 0 (by omega)), by omega, hm⟩
        rw [hlen] at hj
        rw [hc' j (by omega), List.getElem?_take, if_pos hj, List.getD_eq_getElem?_getD]
      · have : len = 0 := by omega
        subst this
        exact ⟨some x, cap, 0, 0, by simp, ⟨by simp, by simp⟩, h0, by simp, hm⟩
    · simp only [Prod.mk.injEq] at heq
      have hw2 := List.all_eq_true.1 hw (((lits (H := H) .i64 (zs.take len)).length + (lits (H := H) .i64 (zs.drop len)).length) * Tryz.prog.bytesOf 3) (by
        rw [heq.1]; simp [DataW.weights])
      rw [show Tryz.prog.bytesOf 3 = 8 by kernel_rfl] at hw2
      simp only [lits, List.length_map, decide_eq_true_eq] at hw2
      unfold reachBytes at hw2
      omega
end Go.Proofs.YtgdpgbldjpeopaaGreatDoor

namespace Go.Proofs.YtgdpgbldjpeopaaGreatDoor
open Go.ChangeShapes Go.WideShapes Go.ChangeAt Go.RowKit

theorem und33L : Tryz.prog.underlying 25 = some (.slice 22) := by kernel_rfl
theorem row_of {W : World} {A : Option Addr} {L C : Nat} {Z : List Int} (h0 : 0 < W.heap.size) (hl : L ≤ C) (hm : C ≤ maxLen) (hz : Z.length = C) (hn : A = none → C = 0) (hc : ∀ a', A = some a' → ∀ c, c < C → W.cell? (a'.add c) = some (.int .i64 (Z.getD c 0))) : Sl W (.slice A L C) (Z.take L) := by
  have hlen : (Z.take L).length = L := by rw [List.length_take]; omega
  by_cases hpos : 0 < C
  · obtain ⟨x, hx⟩ : ∃ x, A = some x := by
      cases A with
      | none => exact absurd (hn rfl) (by omega)
      | some x => exact ⟨x, rfl⟩
    subst hx
    obtain ⟨b, o, rfl, hc'⟩ := ints_at (zs := Z) (fun i hi => hc x rfl i (by omega)) (by omega)
    refine ⟨some ⟨b, o, none⟩, C, b, o, by rw [hlen], ⟨fun _ => rfl, fun j hj => ?_⟩, World.block_lt_of_cell? W _ (hc' 0 (by omega)), by omega, hm⟩
    rw [hlen] at hj
    rw [hc' j (by omega), List.getElem?_take, if_pos hj, List.getD_eq_getElem?_getD]
  · have : L = 0 := by omega
    subst this
    exact ⟨A, C, 0, 0, by simp, ⟨by simp, by simp⟩, h0, by simp, hm⟩
set_option maxRecDepth 100000 in
/-- A list of lists of ints that came in: its value, and what it reads as. -/
theorem open_lists {H : Type} {enc : TypeId × Value → H} {W : World} {b0 : Nat} {v : Value} {d : DataW H} {ps : List MemPlace} (hval : Value.okWide Tryz.prog W .any b0 25 v)
    (hd : DataW.Trod enc Tryz.prog W 0 (fun _ => true) true 25 v d ps) (h0 : 0 < W.heap.size) : ∃ ls, SlL W v ls := by
  obtain ⟨a, len, cap, rfl⟩ := okWide_slice und33L hval
  obtain ⟨fuel, hf⟩ := hd
  rcases Go.Deep.open_int_rows und33L und22 und3 (by kernel_rfl) (by kernel_rfl) hf with ⟨hcs, _⟩ | ⟨x, l, c, A, L, C, Z, hcs, _, hl, hm, _, hrow⟩
  · simp [Value.cells] at hcs
    obtain ⟨rfl, rfl, rfl⟩ := hcs
    exact ⟨[], none, 0, 0, 0, rfl, by simp, by simp, h0, Nat.le_refl _, Nat.zero_le _⟩
  · simp [Value.cells] at hcs
    obtain ⟨rfl, rfl, rfl⟩ := hcs
    refine ⟨(List.range len).map fun r => (Z r).take (L r), ?_⟩
    have hlen : ((List.range len).map fun r => (Z r).take (L r)).length = len := by simp
    by_cases hpos : 0 < len
    · obtain ⟨b, o, spot⟩ := x
      have hspot : spot = none := by simpa [Addr.add] using World.cell?_spot (hrow 0 (by omega)).1
      subst hspot
      have hadd : ∀ r, (⟨b, o, none⟩ : Addr).add r = ⟨b, o + r, none⟩ := fun r => by unfold Addr.add; split <;> simp_all
      refine ⟨some ⟨b, o, none⟩, cap, b, o, by rw [hlen], fun _ => rfl, fun j hj => ?_, ?_, by rw [hlen]; exact hl, hm⟩
      · rw [hlen] at hj
        obtain ⟨h1, h2, h3, h4, _, h6, h7⟩ := hrow j (by omega)
        rw [hadd j] at h1
        refine ⟨_, h1, ?_⟩
        have e1 : ((List.range len).map fun r => (Z r).take (L r))[j]?.getD [] = (Z j).take (L j) := by simp [hj]
        rw [e1]
        exact row_of h0 h2 h3 h4 h6 (fun a' ha c hc => (h7 a' ha).2 c hc)
      · have h1 := (hrow 0 (by omega)).1
        exact World.block_lt_of_cell? W _ h1
    · have : len = 0 := by omega
      subst this
      exact ⟨some x, cap, 0, 0, by simp, by simp, by simp, h0, by simp, hm⟩
end Go.Proofs.YtgdpgbldjpeopaaGreatDoor

namespace Go.Proofs.YtgdpgbldjpeopaaGreatDoor
open Go.ChangeShapes Go.WideShapes Go.ChangeAt Go.RowKit

theorem weights_all {H : Type} {P : Program} {e : TypeId} {d : DataW H} : ∀ {l : List (DataW H)}, d ∈ l → ∀ x, x ∈ d.weights P e → x ∈ DataW.weightsAll P e l
  | [], h, _, _ => by cases h
  | a :: r, h, x, hx => by
    rw [DataW.weightsAll, List.mem_append]
    rcases List.mem_cons.1 h with rfl | h
    · exact .inl hx
    · exact .inr (weights_all h x hx)
set_option maxRecDepth 100000 in
/-- A list of lists of ints that came in: its value, what it reads as, and that no list of it is too great. -/
theorem open_lists2 {H : Type} {enc : TypeId × Value → H} {W : World} {b0 : Nat} {v : Value} {d : DataW H} {ps : List MemPlace} (hval : Value.okWide Tryz.prog W .any b0 25 v)
    (hd : DataW.Trod enc Tryz.prog W 0 (fun _ => true) true 25 v d ps) (h0 : 0 < W.heap.size) : ∃ ls, SlL W v ls ∧ ((d.weights Tryz.prog 25).all (· ≤ reachBytes) = true → ∀ j, j < ls.length → (ls[j]?.getD []).length * 8 ≤ 140737488355328) := by
  obtain ⟨a, len, cap, rfl⟩ := okWide_slice und33L hval
  obtain ⟨fuel, hf⟩ := hd
  rcases Go.Deep.open_int_rows und33L und22 und3 (by kernel_rfl) (by kernel_rfl) hf with ⟨hcs, _⟩ | ⟨x, l, c, A, L, C, Z, hcs, _, hl, hm, heq, hrow⟩
  · simp [Value.cells] at hcs
    obtain ⟨rfl, rfl, rfl⟩ := hcs
    exact ⟨[], ⟨none, 0, 0, 0, rfl, by simp, by simp, h0, Nat.le_refl _, Nat.zero_le _⟩, fun _ j hj => by simp at hj⟩
  · simp [Value.cells] at hcs
    obtain ⟨rfl, rfl, rfl⟩ := hcs
    have hlen : ((List.range len).map fun r => (Z r).take (L r)).length = len := by simp
    refine ⟨(List.range len).map fun r => (Z r).take (L r), ?_, fun hw j hj => ?_⟩
    · by_cases hpos : 0 < len
      · obtain ⟨b, o, spot⟩ := x
        have hspot : spot = none := by simpa [Addr.add] using World.cell?_spot (hrow 0 (by omega)).1
        subst hspot
        have hadd : ∀ r, (⟨b, o, none⟩ : Addr).add r = ⟨b, o + r, none⟩ := fun r => by unfold Addr.add; split <;> simp_all
        refine ⟨some ⟨b, o, none⟩, cap, b, o, by rw [hlen], fun _ => rfl, fun j hj => ?_, ?_, by rw [hlen]; exact hl, hm⟩
        · rw [hlen] at hj
          obtain ⟨h1, h2, h3, h4, _, h6, h7⟩ := hrow j (by omega)
          rw [hadd j] at h1
          refine ⟨_, h1, ?_⟩
          have e1 : ((List.range len).map fun r => (Z r).take (L r))[j]?.getD [] = (Z j).take (L j) := by simp [hj]
          rw [e1]
          exact row_of h0 h2 h3 h4 h6 (fun a' ha c hc => (h7 a' ha).2 c hc)
        · have h1 := (hrow 0 (by omega)).1
          exact World.block_lt_of_cell? W _ h1
      · have : len = 0 := by omega
        subst this
        exact ⟨some x, cap, 0, 0, by simp, by simp, by simp, h0, by simp, hm⟩
    · rw [hlen] at hj
      have e1 : ((List.range len).map fun r => (Z r).take (L r))[j]?.getD [] = (Z j).take (L j) := by simp [hj]
      rw [e1]
      obtain ⟨h1, h2, h3, h4, _, h6, h7⟩ := hrow j (by omega)
      simp only [Prod.mk.injEq] at heq
      cases hA : A j with
      | none =>
        have := h6 hA
        rw [List.length_take]
        omega
      | some a' =>
        have hmem : Go.Deep.intRow (H := H) .i64 (A j) (L j) (Z j) ∈ (List.range len).map fun r => Go.Deep.intRow (H := H) .i64 (A r) (L r) (Z r) := List.mem_map.2 ⟨j, List.mem_range.2 hj, rfl⟩
        have hin : (((Z j).take (L j)).length + ((Z j).drop (L j)).length) * 8 ∈ (Go.Deep.intRow (H := H) .i64 (A j) (L j) (Z j)).weights Tryz.prog 22 := by
          rw [hA]
          show _ ∈ (DataW.slice (lits .i64 ((Z j).take (L j))) (lits .i64 ((Z j).drop (L j)))).weights Tryz.prog 22
          rw [DataW.weights, und22]
          have e8 : Tryz.prog.bytesOf 3 = 8 := by kernel_rfl
          simp [lits, e8]
        have hall : (((Z j).take (L j)).length + ((Z j).drop (L j)).length) * 8 ∈ d.weights Tryz.prog 25 := by
          rw [heq.1, DataW.weights, und33L]
          exact List.mem_cons_of_mem _ (List.mem_append_left _ (weights_all hmem _ hin))
        have hw2 := List.all_eq_true.1 hw _ hall
        simp only [decide_eq_true_eq] at hw2
        unfold reachBytes at hw2
        omega
end Go.Proofs.YtgdpgbldjpeopaaGreatDoor

namespace Go.Proofs.YtgdpgbldjpeopaaGreatDoor
open Go Go.RowKit

theorem row_at {w : World} {pb po : Nat} {rs : List (List Int)} (h : ∀ j, j < rs.length → ∃ x, w.cell? ⟨pb, po + j, none⟩ = some x ∧ Sl w x (rs[j]?.getD [])) {j : Nat} (hj : j < rs.length) : ∃ r1 r3, w.cell? ⟨pb, po + j, none⟩ = some (.slice r1 (rs[j]?.getD []).length r3) ∧ Sl w (.slice r1 (rs[j]?.getD []).length r3) (rs[j]?.getD []) := by
  obtain ⟨x, hx, hs⟩ := h j hj
  obtain ⟨r1, r3, _, _, rfl, _⟩ := id hs
  exact ⟨r1, r3, hx, hs⟩
theorem own_keep2 {W W' : World} {B n : Nat} {e : TypeId} {v : Value} {xs : List Value} (h : W.ownsRow B e 1 v n xs) (hk : ∀ g, B ≤ g → g < W.heap.size → W'.heap[g]? = W.heap[g]?) : W'.ownsRow B e 1 v n xs := by
  refine ⟨h.1, ?_⟩
  rcases h.2 with h0 | ⟨g, cap, cur, hv, hg, hh, rest⟩
  · exact .inl h0
  · exact .inr ⟨g, cap, cur, hv, hg, (hk g hg (Array.getElem?_eq_some_iff.1 hh).1).trans hh, rest⟩
/-- A list of the call's own, read in a later world. -/
theorem own_new {W W8 : World} {B : Nat} {r : Value} {lj : List Int} (h : Row W B r lj) (hB : B ≤ W.heap.size) (hs : W.heap.size < W8.heap.size) (o : Option Nat) (ho : ∀ g, o = some g → g < B ∨ W.heap.size < g)
    (hk : ∀ g, B ≤ g → g < W.heap.size → W8.heap[g]? = W.heap[g]?) : ∃ a cap pb po, r = .slice a lj.length cap ∧ Reads W8 a pb po lj ∧ pb < W8.heap.size ∧ lj.length ≤ cap ∧ cap ≤ maxLen ∧ B ≤ pb ∧ ∀ g, o = some g → pb ≠ g := by
  rcases h.2 with ⟨rfl, hz⟩ | ⟨g, cap, cur, rfl, h1, hh, h2, h3, h4⟩
  · have hz : lj.length = 0 := by simpa using hz
    refine ⟨none, 0, W.heap.size, 0, by rw [hz], ⟨fun h => by omega, fun j hj => by omega⟩, hs, by omega, by unfold maxLen; omega, hB, fun g hg e => ?_⟩
    rcases ho g hg with h | h <;> omega
  · have hgs : g < W.heap.size := (Array.getElem?_eq_some_iff.1 hh).1
    refine ⟨some ⟨g, 0, none⟩, cap, g, 0, rfl, ⟨fun _ => rfl, fun j hj => ?_⟩, by omega, h2, h3, h1, fun g' hg e => ?_⟩
    · have h9 := World.ownsRow.cells h (g := g) rfl j _ (show (lj.map (Value.int .i64))[j]? = some (.int .i64 (lj[j]?.getD 0)) by simp [hj])
      rw [show (⟨g, 0, none⟩ : Addr).add j = ⟨g, 0 + j, none⟩ by unfold Addr.add; split <;> simp_all] at h9
      exact (World.cell?_of_block (a := ⟨g, 0 + j, none⟩) (hk g h1 hgs)).trans h9
    · rcases ho g' hg with h | h <;> omega
end Go.Proofs.YtgdpgbldjpeopaaGreatDoor

namespace Go.Proofs.YtgdpgbldjpeopaaGreatDoor
open Go Go.RowKit

set_option maxRecDepth 100000 in
set_option maxHeartbeats 4000000 in
theorem image_bad (N M : Int) (v y mv : Value) (zs ys ms : List Int) (w : World) (hv : Sl w v zs) (hy : Sl w y ys) (hm : Sl w mv ms) (hc : (hfault N zs M ys ms).1 ≠ 0) :
    Calls Tryz.prog 80 #[.agg #[.int .i64 N, v], .agg #[.int .i64 M, y], mv] w fun x w' => x = .returned (.tuple #[.slice none 0 0, .agg #[.int .i64 (hfault N zs M ys ms).1, .int .i64 (hfault N zs M ys ms).2]]) ∧ Below w.heap.size w w' := by
  obtain ⟨w0, BG⟩ := BegF.new w N M v y
  have HCK := hide (ow_all N M v y mv zs ys ms w0 (hv.below BG.bel) (hy.below BG.bel) (hm.below BG.bel))
  obtain ⟨c, i, hci⟩ : ∃ c i, hfault N zs M ys ms = (c, i) := ⟨_, _, rfl⟩
  rw [hci] at HCK hc ⊢
  simp only at HCK hc ⊢
  clear hci
  have hcb : (c != 0) = true := by simpa using hc
  obtain ⟨e0, e1, _, _⟩ := BG.box.two
  obtain ⟨k0, k1, _, _⟩ := BG.boy.two
  rw [BG.eq] at e0 e1 k0 k1
  go_enter Tryz.func80, Tryz.ntmps80
  go_wp2_with fail
  rw [← BG.eq]
  clear e0 e1 k0 k1
  refine HCK.out.mono ?_
  rintro x w1 ⟨p0, a0, b0, c0, p1, a1, b1, c1, p2, a2, b2, c2, p3, a3, b3, c3, rfl, hb1⟩
  obtain ⟨w2, hw2⟩ : ∃ w2, w2 = (w1.alloc (.cells #[.int .i64 p0, .slice a0 b0 c0, .int .i64 p1, .slice a1 b1 c1, .int .i64 p2, .slice a2 b2 c2, .int .i64 p3, .slice a3 b3 c3] 72)).alloc (.cells #[.int .i64 c, .int .i64 i] 28) := ⟨_, rfl⟩
  have hB1 : Below w0.heap.size w0 w2 := by rw [hw2]; exact bcat2 hb1 ((balloc w1 _).alloc (by simp) _)
  have hF1 : Blk w2 (w1.heap.size + 1) 28 [.int .i64 c, .int .i64 i] := by
    rw [hw2]
    have := blk0 (w := w1.alloc (.cells #[.int .i64 p0, .slice a0 b0 c0, .int .i64 p1, .slice a1 b1 c1, .int .i64 p2, .slice a2 b2 c2, .int .i64 p3, .slice a3 b3 c3] 72)) (T := 28) (.int .i64 c) (.int .i64 i)
    rwa [World.size_alloc] at this
  have hR1 := blk_below BG.res hB1
  have hBw := bcat BG.bel hB1 BG.bel.size
  subst hw2
  obtain ⟨y0, y1, fy0, fy1⟩ := hR1.two
  obtain ⟨t0, t1, _, _⟩ := hF1.two
  obtain ⟨hR6, hB6⟩ := put2 hR1 hBw (by omega) c i
  obtain ⟨z0, z1, _, _⟩ := hR6.two
  go_wp2
  go_region
  go_wp2
  exact bodyPost_ret (v := .tuple #[.slice none 0 0, .agg #[.int .i64 c, .int .i64 i]]) (by simp [results, Tryz.results80, go_sem, z0, z1]) rfl ⟨rfl, bdrew hB6⟩
set_option maxRecDepth 100000 in
set_option maxHeartbeats 1000000 in
theorem pprod_ok (n : Nat) (v : Value) (zs : List Int) (a b : Nat) (w : World) (ht : IsTab n zs) (hv : Sl w v zs) (ha : a < n) (hb : b < n) :
    Calls Tryz.prog 50 #[.agg #[.int .i64 n, v], .int .i64 a, .int .i64 b] w fun e w' => e = .returned (.int .i64 (tm n zs a b)) ∧ Below w.heap.size w w' := by
  have hlt := place_lt ha hb
  have hle := ht.le
  have hlen := ht.len
  have hn2 : n * n ≤ 60 * 60 := Nat.mul_le_mul hle hle
  have hg := tm_get ht ha hb
  have han : a * n ≤ 60 * 60 := Nat.mul_le_mul (by omega) (by omega)
  have hB0 : Below w.heap.size w (w.alloc (.cells #[.int .i64 n, v] 24)) := balloc w _
  have N0 : Blk (w.alloc (.cells #[.int .i64 n, v] 24)) w.heap.size 24 [.int .i64 n, v] := blk0 _ _
  obtain ⟨x, cap, pb, po, rfl, hr, hp, hq3, hq4⟩ := hv.below hB0
  obtain rfl := hr.at_ (by omega)
  have hc := hr.cell (a * n + b) (by omega)
  rw [hg] at hc
  obtain ⟨c0, c1, _, _⟩ := N0.two
  have hi : ((a * n + b : Nat) : Int) < (zs.length : Int) := by omega
  have hm : ((a : Int) * (n : Int)) = ((a * n : Nat) : Int) := by rw [Int.natCast_mul]
  have HLEN := hide hlen
  have HB0 := hide hB0
  generalize hk : a * n = k at *
  generalize tm n zs a b = r at *
  clear hlen hB0 hg hn2 hk
  go_enter Tryz.func50, Tryz.ntmps50
  go_wp2
  go_ret
  exact ⟨rfl, HB0.out⟩

/-- The code of what is wrong with a list as an automorphism. -/
def cent (n : Nat) (zs ms : List Int) : Int := if (hfault n zs n zs ms).1 ≠ 0 then (hfault n zs n zs ms).1 else if o1 n ms = true then 0 else 10
theorem lst_full' {n : Nat} {p : Nat → Bool} : (lst n p).length = n ↔ ∀ a, a < n → p a = true := by
  have h : (lst n p).length = (List.range n).length ↔ ∀ a, a ∈ List.range n → p a = true := List.length_filter_eq_length_iff
  rw [List.length_range] at h
  exact h.trans ⟨fun h a ha => h a (List.mem_range.2 ha), fun h a ha => h a (List.mem_range.1 ha)⟩
set_option maxRecDepth 100000 in
set_option maxHeartbeats 4000000 in
theorem centry_ok (n e : Nat) (v mv : Value) (zs ms : List Int) (w : World) (hv : Sl w v zs) (hg : IsGrp n zs e) (hm : Sl w mv ms) (hT : Tab w) :
    Calls Tryz.prog 48 #[.agg #[.int .i64 n, v], mv] w fun x w' => x = .returned (.int .i64 (cent n zs ms)) ∧ Below w.heap.size w w' := by
  have hn := hg.tab.le
  have hB0 : Below w.heap.size w (w.alloc (.cells #[.int .i64 n, v] 24)) := balloc w _
  have hX0 : BoxG (w.alloc (.cells #[.int .i64 n, v] 24)) w.heap.size n v := blk0 (w := w) (T := 24) _ _
  obtain ⟨w0, hw0⟩ : ∃ w0, w0 = w.alloc (.cells #[.int .i64 n, v] 24) := ⟨_, rfl⟩
  rw [← hw0] at hB0 hX0
  obtain ⟨c0, c1, _, _⟩ := hX0.two
  rw [hw0] at c0 c1
  by_cases hc : (hfault n zs n zs ms).1 = 0
  · obtain ⟨h00, hl, φ, hφ, hms⟩ := hom_of hg hg hc
    obtain ⟨xs, hxs⟩ : ∃ xs, xs = (List.range n).map φ := ⟨_, rfl⟩
    rw [← hxs] at hms
    have hxl : xs.length = n := by rw [hxs]; simp
    have hx : ∀ x, x ∈ xs → x < n := fun x hx => by
      rw [hxs] at hx
      obtain ⟨a, ha, rfl⟩ := List.mem_map.1 hx
      exact hφ.lt a (List.mem_range.1 ha)
    rw [hms] at hm h00
    have HIM := hide (image_good n n v v mv zs zs xs w0 (hv.below hB0) (hv.below hB0) (hm.below hB0) (hT.below hB0) hn hx (by omega) h00)
    have hcent : cent n zs ms = if (lst n fun a => decide (a ∈ xs)).length < n then 10 else 0 := by
      unfold cent
      rw [if_neg (by simpa using hc)]
      have hle := lst_len n fun a => decide (a ∈ xs)
      by_cases ho : o1 n ms = true
      · rw [if_pos ho, if_neg (by
          have := lst_full'.2 (fun a ha => decide_eq_true (by
            have := o1_iff.1 ho a ha
            rw [hms] at this
            exact mem_li.1 this) : ∀ a, a < n → (fun a => decide (a ∈ xs)) a = true)
          omega)]
      · rw [if_neg ho, if_pos (by
          have h9 : (lst n fun a => decide (a ∈ xs)).length ≠ n := fun h => ho (o1_iff.2 fun a ha => by
            rw [hms]
            exact mem_li.2 (of_decide_eq_true (lst_full'.1 h a ha)))
          omega)]
    rw [hcent]
    clear hcent hxs hms hφ hx
    generalize (fun a => decide (a ∈ xs)) = p at *
    obtain ⟨R, hR⟩ : ∃ R : Int, (if (lst n p).length < n then (10 : Int) else 0) = R := ⟨_, rfl⟩
    have HR := hide hR
    rw [hR]
    clear hR
    go_enter Tryz.func48, Tryz.ntmps48
    go_wp2_with fail
    rw [← hw0]
    clear c0 c1 hw0
    refine HIM.out.mono ?_
    rintro x w1 ⟨r1, r2, r3, rfl, hr, hb1⟩
    obtain ⟨_, _, _, _, he, _⟩ := hr
    injection he with _ he2 _
    subst he2
    rw [li_len]
    obtain ⟨w2, hw2⟩ : ∃ w2, w2 = w1.alloc (.cells #[.int .i64 0, .int .i64 0] 28) := ⟨_, rfl⟩
    have hb2 : Below w1.heap.size w1 w2 := by rw [hw2]; exact balloc w1 _
    have hF2 : Blk w2 w1.heap.size 28 [.int .i64 0, .int .i64 0] := by rw [hw2]; exact blk0 _ _
    have hX2 := blk_below hX0 (bcat2 hb1 hb2)
    have hB2 := bcat2 hB0 (bcat2 hb1 hb2)
    obtain ⟨t0, t1, _, _⟩ := hF2.two
    obtain ⟨c0, c1, _, _⟩ := hX2.two
    rw [hw2] at t0 t1 c0 c1
    generalize (lst n p).length = L at *
    by_cases hlt : L < n
    · have hlti : (L : Int) < (n : Int) := by omega
      have HR9 := hide (show R = 10 by have := HR.out; rw [if_pos hlt] at this; exact this.symm)
      go_wp2
      rw [← hw2]
      go_ret
      exact ⟨by simp [HR9.out], hB2⟩
    · have hlti : ¬ (L : Int) < (n : Int) := by omega
      have HR9 := hide (show R = 0 by have := HR.out; rw [if_neg hlt] at this; exact this.symm)
      go_wp2
      rw [← hw2]
      go_ret
      exact ⟨by simp [HR9.out], hB2⟩
  · have HIM := hide (image_bad n n v v mv zs zs ms w0 (hv.below hB0) (hv.below hB0) (hm.below hB0) hc)
    unfold cent
    rw [if_pos hc]
    obtain ⟨c, i, hci⟩ : ∃ c i, hfault n zs n zs ms = (c, i) := ⟨_, _, rfl⟩
    rw [hci] at HIM hc ⊢
    simp only at HIM hc ⊢
    clear hci
    have hcb : (c != 0) = true := by simpa using hc
    go_enter Tryz.func48, Tryz.ntmps48
    go_wp2_with fail
    rw [← hw0]
    clear c0 c1 hw0
    refine HIM.out.mono ?_
    rintro x w1 ⟨rfl, hb1⟩
    obtain ⟨w2, hw2⟩ : ∃ w2, w2 = w1.alloc (.cells #[.int .i64 c, .int .i64 i] 28) := ⟨_, rfl⟩
    have hb2 : Below w1.heap.size w1 w2 := by rw [hw2]; exact balloc w1 _
    have hF2 : Blk w2 w1.heap.size 28 [.int .i64 c, .int .i64 i] := by rw [hw2]; exact blk0 _ _
    have hB2 := bcat2 hB0 (bcat2 hb1 hb2)
    obtain ⟨t0, t1, _, _⟩ := hF2.two
    rw [hw2] at t0 t1
    go_wp2
    rw [← hw2]
    go_ret
    exact ⟨rfl, hB2⟩
/-- How an act reads: as many lists as h has things, each a map of n's things. -/
structure ActR (w : World) (lv : Value) (ls : List (List Int)) (m n : Nat) (φ : Nat → Nat → Nat) : Prop where
  sl : SlL w lv ls
  len : ls.length = m
  row : ∀ i, i < m → ls[i]?.getD [] = li ((List.range n).map (φ i))
  lt : ∀ i y, i < m → y < n → φ i y < n
theorem ActR.below {w w' : World} {lv : Value} {ls : List (List Int)} {m n : Nat} {φ : Nat → Nat → Nat} (h : ActR w lv ls m n φ) (hb : Below w.heap.size w w') : ActR w' lv ls m n φ := ⟨h.sl.below hb, h.len, h.row, h.lt⟩
/-- Its cells. -/
theorem ActR.cells {w : World} {lv : Value} {ls : List (List Int)} {m n : Nat} {φ : Nat → Nat → Nat} (h : ActR w lv ls m n φ) (hm : 1 ≤ m) (hn : 1 ≤ n) : ∃ lb lo lc, lv = .slice (some ⟨lb, lo, none⟩) m lc ∧
    ∀ i, i < m → ∃ rb ro rc, w.cell? ⟨lb, lo + i, none⟩ = some (.slice (some ⟨rb, ro, none⟩) n rc) ∧ ∀ y, y < n → w.cell? ⟨rb, ro + y, none⟩ = some (.int .i64 (φ i y)) := by
  obtain ⟨la, lc, lb, lo, rfl, h1, h2, h3, _, _⟩ := h.sl
  have hl := h.len
  obtain rfl := h1 (by omega)
  refine ⟨lb, lo, lc, by rw [hl], fun i hi => ?_⟩
  obtain ⟨r1, r3, hc, hs⟩ := row_at h2 (show i < ls.length by omega)
  rw [h.row i hi, li_len, List.length_map, List.length_range] at hc hs
  obtain ⟨a, cap, pb, po, he, hr, _, _, _⟩ := hs
  injection he with he1 _ he3
  subst he1 he3
  obtain rfl := hr.at_ (by simp [li]; omega)
  refine ⟨pb, po, _, hc, fun y hy => ?_⟩
  rw [hr.cell y (by simp [li]; omega)]
  simp [li, hy]
/-- Is there a b so that the map of a b is not that of b and then that of a? -/
def pstr (m : Nat) (ys : List Int) (n : Nat) (φ : Nat → Nat → Nat) (a : Nat) : Bool := (List.range m).any fun b => (List.range n).any fun y => decide (φ (tm m ys a b) y ≠ φ a (φ b y))
theorem pstr_yes {m : Nat} {ys : List Int} {n : Nat} {φ : Nat → Nat → Nat} {a b y : Nat} (hb : b < m) (hy : y < n) (h : φ (tm m ys a b) y ≠ φ a (φ b y)) : pstr m ys n φ a = true :=
  List.any_eq_true.2 ⟨b, List.mem_range.2 hb, List.any_eq_true.2 ⟨y, List.mem_range.2 hy, decide_eq_true h⟩⟩
theorem pstr_no {m : Nat} {ys : List Int} {n : Nat} {φ : Nat → Nat → Nat} {a : Nat} : pstr m ys n φ a = false ↔ ∀ b y, b < m → y < n → φ (tm m ys a b) y = φ a (φ b y) := by
  constructor
  · intro h b y hb hy
    refine Classical.byContradiction fun h9 => ?_
    rw [pstr_yes hb hy h9] at h
    cases h
  · intro h
    cases h9 : pstr m ys n φ a with
    | false => rfl
    | true =>
      obtain ⟨b, hb, h8⟩ := List.any_eq_true.1 h9
      obtain ⟨y, hy, h7⟩ := List.any_eq_true.1 h8
      exact absurd (h b y (List.mem_range.1 hb) (List.mem_range.1 hy)) (of_decide_eq_true h7)
set_option maxRecDepth 100000 in
set_option maxHeartbeats 8000000 in
theorem pstr_ok (m d n a : Nat) (v lv : Value) (ys : List Int) (ls : List (List Int)) (φ : Nat → Nat → Nat) (w : World) (hh : IsGrp m ys d) (hv : Sl w v ys) (hA : ActR w lv ls m n φ) (hn1 : 1 ≤ n) (hn : n ≤ 60) (ha : a < m) :
    Calls Tryz.prog 49 #[.agg #[.int .i64 m, v], lv, .int .i64 a] w fun x w' => x = .returned (.bool (pstr m ys n φ a)) ∧ Below w.heap.size w w' := by
  have hm := hh.tab.le
  have HLT := hide hA.lt
  obtain ⟨lb, lo, lc, rfl, hrow⟩ := hA.cells (by omega) hn1
  have HROW := hide hrow
  have HYES := hide (fun b y hb hy h => pstr_yes (m := m) (ys := ys) (n := n) (φ := φ) (a := a) (b := b) (y := y) hb hy h)
  have HNO := hide (pstr_no (m := m) (ys := ys) (n := n) (φ := φ) (a := a)).2
  have hB0 : Below w.heap.size w (w.alloc (.cells #[.int .i64 m, v] 24)) := balloc w _
  have hX0 : BoxG (w.alloc (.cells #[.int .i64 m, v] 24)) w.heap.size m v := blk0 (w := w) (T := 24) _ _
  obtain ⟨w0, hw0⟩ : ∃ w0, w0 = w.alloc (.cells #[.int .i64 m, v] 24) := ⟨_, rfl⟩
  rw [← hw0] at hB0 hX0
  obtain ⟨c0, c1, _, _⟩ := hX0.two
  rw [hw0] at c0 c1
  have HCL := hide (fun b (hb : b < m) => tm_lt hh.tab ha hb)
  have HPR := hide (fun W b (h : Below w.heap.size w W) (hb : b < m) => pprod_ok m v ys a b W hh.tab (hv.below h) ha hb)
  generalize pstr m ys n φ a = R at *
  clear hrow hv hA hh
  have haim : (a : Int) < (m : Int) := by omega
  go_enter Tryz.func49, Tryz.ntmps49
  go_wp2_with fail
  rw [← hw0]
  clear c0 c1 hw0
  go_loopw [12] (fun iv wr => ∃ b : Nat, b ≤ m ∧ iv = .int .i64 b ∧ (∀ b' y, b' < b → y < n → φ (tm m ys a b') y = φ a (φ b' y)) ∧ Below w0.heap.size w0 wr) (fun iv _ => m - (intOf iv).toNat)
  case atStart => exact ⟨0, Nat.zero_le _, rfl, fun b' y h => by omega, Below.refl _ _⟩
  case round =>
    obtain ⟨b, hbm, rfl, hall, hb⟩ := hrel
    have HALL := hide hall
    clear hall
    have hBr := bcat2 hB0 hb
    by_cases hlt : b < m
    · have hbi : (b : Int) < (m : Int) := by omega
      have hXr := blk_below hX0 hb
      obtain ⟨c0, c1, _, _⟩ := hXr.two
      have HP1 := hide (HPR.out wr b hBr hlt)
      have hcm := HCL.out b hlt
      obtain ⟨cb, co, cc, hcc, hcell⟩ := HROW.out (tm m ys a b) hcm
      have HCC := hide hcell
      obtain ⟨bb, bo, bc, hcb, hcell⟩ := HROW.out b hlt
      have HCB := hide hcell
      obtain ⟨ab, ao, ac, hca, hcell⟩ := HROW.out a ha
      have HCA := hide hcell
      have HYS := hide (fun y (hy : y < n) h => HYES.out b y hlt hy h)
      have HLB := hide (fun y => HLT.out b y hlt)
      have HSTEP := hide (show (∀ y, y < n → φ (tm m ys a b) y = φ a (φ b y)) → ∀ b' y, b' < b + 1 → y < n → φ (tm m ys a b') y = φ a (φ b' y) from fun h b' y h1 h2 => by
        by_cases e : b' = b
        · subst e; exact h y h2
        · exact HALL.out b' y (by omega) h2)
      clear hcell
      generalize tm m ys a b = c9 at *
      have hci : (c9 : Int) < (m : Int) := by omega
      go_wp2_with fail
      clear c0 c1
      refine HP1.out.mono ?_
      rintro x w2 ⟨rfl, hb2⟩
      have hB2 := bcat2 hBr hb2
      have hb02 := bcat2 hb hb2
      have hcc2 := below_cell hB2 hcc
      go_wp2_with fail
      clear hcc2
      go_loopw [23] (fun iv wr => ∃ y : Nat, y ≤ n ∧ iv = .int .i64 y ∧ (∀ y', y' < y → φ c9 y' = φ a (φ b y')) ∧ Below w2.heap.size w2 wr) (fun iv _ => n - (intOf iv).toNat)
      case atStart => exact ⟨0, Nat.zero_le _, rfl, fun y' h => by omega, Below.refl _ _⟩
      case round =>
        obtain ⟨y, hyn, rfl, hally, hb3⟩ := hrel
        have HALY := hide hally
        clear hally
        have hB3 := bcat2 hB2 hb3
        by_cases hlty : y < n
        · have hyi : (y : Int) < (n : Int) := by omega
          have hfl := HLB.out y hlty
          have hfi : ((φ b y : Nat) : Int) < (n : Int) := by omega
          have k1 := below_cell hB3 (HCC.out y hlty)
          have k2 := below_cell hB3 hca
          have k3 := below_cell hB3 hcb
          have k4 := below_cell hB3 (HCB.out y hlty)
          have k5 := below_cell hB3 (HCA.out (φ b y) hfl)
          by_cases heq : φ c9 y = φ a (φ b y)
          · have HEQ := hide heq
            have HN := hide (show ∀ y', y' < y + 1 → φ c9 y' = φ a (φ b y') from fun y' h => by
              by_cases e : y' = y
              · subst e; exact HEQ.out
              · exact HALY.out y' (by omega))
            rw [← heq] at k5
            clear heq
            generalize φ c9 y = f1 at *
            generalize φ b y = f2 at *
            have hne9 : (((f1 : Nat) : Int) != ((f1 : Nat) : Int)) = false := by simp
            go_wp2_with fail
            go_quiet (fail)
            have hb4 := bdrewN hb3 nq
            clear k1 k2 k3 k4 k5
            go_wp2_with fail
            go_roundw
            case rel => exact ⟨y + 1, by omega, by go_num, HN.out, hb4⟩
            case measure => simp [intOf]; omega
          · have HR := hide (HYS.out y hlty heq)
            have hne9 : (((φ c9 y : Nat) : Int) != ((φ a (φ b y) : Nat) : Int)) = true := by
              have : ¬ ((φ c9 y : Nat) : Int) = ((φ a (φ b y) : Nat) : Int) := by omega
              simpa using this
            clear heq
            generalize φ a (φ b y) = f3 at *
            generalize φ c9 y = f1 at *
            generalize φ b y = f2 at *
            go_wp2_with fail
            go_quiet (fail)
            have hb4 := bdrewN hB3 nq
            go_wp2
            go_ret
            exact ⟨by simp [HR.out], hb4⟩
        · have hyi : ¬ (y : Int) < (n : Int) := by omega
          have HN := hide (HSTEP.out fun y' hy' => HALY.out y' (by omega))
          have hb5 := bcat2 hb02 hb3
          go_wp2_with fail
          go_roundw
          case rel => exact ⟨b + 1, by omega, by go_num, HN.out, hb5⟩
          case measure => simp [intOf]; omega
    · have hbi : ¬ (b : Int) < (m : Int) := by omega
      have HR := hide (HNO.out fun b' y h1 h2 => HALL.out b' y (by omega) h2)
      go_wp2
      go_ret
      exact ⟨by simp [HR.out], hBr⟩
end Go.Proofs.YtgdpgbldjpeopaaGreatDoor
