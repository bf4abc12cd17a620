/- The closure of the law SubAll, and the mathematics of all subgroups in order and of Frattini's. The law ProdDirect: its walk, what it calls as premises. The law's together: its walk, what it calls as premises. The law ProdDirect at everything. Condition: the library's table of places lies as its text lays it. What the closure of ProdComplements needs of each subgroup. No condition. The closure of the law ProdComplements. No condition. -/
import Derived.Test.YtgejngpioldhpaaGreatDoorZ12
import Derived.Test.YtgejngpioldhpaaGreatDoorZ10
import Derived.Test.YtgejngpioldhpaaGreatDoorZ9
import Derived.Test.YtgejngpioldhpaaGreatDoorZ11
namespace Go.Proofs.YtgejngpioldhpaaGreatDoor
open Go Go.RowKit

section
variable {n e : Nat} {zs : List Int}
theorem srtN_eq {rs ts : List (List Int)} (hp : rs.Perm ts) (ha : srt rs) (hb : srt ts) : rs = ts := by
  have pw : ∀ {l : List (List Int)}, srt l → l.Pairwise (fun a b => ¬ cmpN b a < 0) := fun {l} h => List.pairwise_iff_getElem.2 fun i j hi hj hij => by
    have := h i j hij hj
    rwa [List.getElem?_eq_getElem hi, List.getElem?_eq_getElem hj] at this
  refine List.Perm.eq_of_pairwise (le := fun a b => ¬ cmpN b a < 0) (fun a b _ _ h1 h2 => ?_) (pw ha) (pw hb) hp
  have := cmpN_neg a b
  exact cmpN_zero.1 (by omega)
theorem inv_same {P Q : List (Nat → Bool)} {k : Nat} (g : IsGrp n zs e) (h1 : SInv n zs e P k 0) (hk : P.length ≤ k) (h2 : SInv n zs e Q Q.length 0) : (LL n P).Perm (LL n Q) := by
  refine (List.perm_ext_iff_of_nodup (LL_nodup h1.nd) (LL_nodup h2.nd)).2 fun l => ?_
  constructor
  · intro h
    obtain ⟨p, hp, rfl⟩ := List.mem_map.1 h
    exact LL_mem.2 (SInv.all g h2 (Nat.le_refl _) (h1.sub p hp))
  · intro h
    obtain ⟨p, hp, rfl⟩ := List.mem_map.1 h
    exact LL_mem.2 (SInv.all g h1 hk (h2.sub p hp))
theorem sub_div {p : Nat → Bool} (g : IsGrp n zs e) (h : subT n zs e p = true) : (li (lst n p)).length ∣ n := by
  have S := subT_iff.1 h
  have hF : Fin.Fg (lst n p) (tm n zs) e := Fin.sg_fg (grp_fg g) S
  have := Fin.lagr (grp_fg g) hF (fun x hx => List.mem_range.2 (mem_lst.1 hx).1)
  rw [li_len]
  rwa [List.length_range] at this
theorem whole_sub : subT n zs e (fun _ => true) = true := subT_iff.2 ⟨rfl, fun _ _ _ _ _ _ => rfl⟩
theorem lst_all (n : Nat) : lst n (fun _ => true) = List.range n := List.filter_eq_self.2 fun _ _ => rfl
theorem lst_lt {p : Nat → Bool} {y : Nat} (hy : y < n) (hp : ¬ p y = true) : (li (lst n p)).length < n := by
  rw [li_len]
  have h1 := List.length_filter_lt_length_iff_exists (l := List.range n) (p := p)
  rw [List.length_range] at h1
  exact h1.2 ⟨y, List.mem_range.2 hy, hp⟩
/-- The whole group stands last, and all ahead of it are less. -/
theorem last_all {P : List (Nat → Bool)} {ms : List (List Int)} (g : IsGrp n zs e) (hI : SInv n zs e P P.length 0) (hp : ms.Perm (LL n P)) (hs : srt ms) : ∃ L, ms.length = L + 1 ∧ ∀ i p, i < L → ms[i]? = some (li (lst n p)) → subT n zs e p = true → ∃ y, y < n ∧ ¬ p y = true := by
  have hmem : li (lst n (fun _ => true)) ∈ ms := hp.mem_iff.2 (LL_mem.2 (SInv.all g hI (Nat.le_refl _) whole_sub))
  have hnd : ms.Nodup := hp.nodup_iff.2 (LL_nodup hI.nd)
  obtain ⟨j, hj, hje⟩ := List.mem_iff_getElem.1 hmem
  refine ⟨ms.length - 1, by omega, fun i p hi hip hps => Classical.byContradiction fun hno => ?_⟩
  have hall : ∀ y, y < n → p y = true := fun y hy => Classical.byContradiction fun h9 => hno ⟨y, hy, h9⟩
  have hpe : lst n p = lst n (fun _ => true) := lst_congr hall
  rw [hpe] at hip
  -- ms[i] is the whole; the last is another subgroup, so it is less
  have hl : ms.length - 1 < ms.length := by omega
  obtain ⟨q, hq, hqe⟩ := List.mem_map.1 (hp.mem_iff.1 (List.getElem_mem hl))
  have hne : ms[ms.length - 1] ≠ li (lst n (fun _ => true)) := fun h9 => by
    have hi2 : ms[i]? = some ms[i] := List.getElem?_eq_getElem (by omega)
    rw [hi2] at hip
    injection hip with hip
    exact (List.pairwise_iff_getElem.1 hnd i (ms.length - 1) (by omega) hl (by omega)) (hip.trans h9.symm)
  have hqy : ∃ y, y < n ∧ ¬ q y = true := Classical.byContradiction fun h9 => hne (by
    rw [← hqe]
    show li (lst n q) = _
    rw [lst_congr (q := fun _ => true) (fun a ha => Classical.byContradiction fun h8 => h9 ⟨a, ha, h8⟩)])
  obtain ⟨y, hy, hqy⟩ := hqy
  have h3 := hs i (ms.length - 1) (by omega) hl
  rw [hip, List.getElem?_eq_getElem hl] at h3
  apply h3
  show cmpN ms[ms.length - 1] (li (lst n fun _ => true)) < 0
  rw [← hqe]
  show cmpN (li (lst n q)) _ < 0
  have h4 := lst_lt hy hqy
  have h5 : (li (lst n (fun _ => true))).length = n := by rw [li_len, lst_all, List.length_range]
  have h6 := cmpI_lt.2 (show (((li (lst n q)).length : Nat) : Int) < (((li (lst n (fun _ => true))).length : Nat) : Int) by omega)
  rw [cmpN_eq, if_pos (by omega)]
  exact h6
end
theorem cell_keep {X U : World} {x : Value} (h : Below (X.alloc (.cells #[x] 3)).heap.size (X.alloc (.cells #[x] 3)) U) : ∀ (j : Nat) u, ([x] : List Value)[j]? = some u → U.cell? ((⟨X.heap.size, 0, none⟩ : Addr).add j) = some u := fun j u hj => below_cell h (cell_one_new X x 3 j u hj)
end Go.Proofs.YtgejngpioldhpaaGreatDoor

namespace Go.Proofs.YtgejngpioldhpaaGreatDoor
open Go Go.RowKit

/-- A fault is put into its box: two other boxes stay. -/
theorem put_box {W w : World} {b p q : Nat} {x y x1 x2 y1 y2 : Value} {T1 T2 : TypeId} (h : Blk W b 27 [x, y]) (h1 : Blk W p T1 [x1, x2]) (h2 : Blk W q T2 [y1, y2]) (hB : Below w.heap.size w W) (hp : p < b) (hq : q < b) (hb : w.heap.size ≤ b) (c i : Int) :
    Blk ((W.setCell ⟨b, 0, none⟩ (.int .i64 c)).setCell ⟨b, 1, none⟩ (.int .i64 i)) b 27 [.int .i64 c, .int .i64 i] ∧ Blk ((W.setCell ⟨b, 0, none⟩ (.int .i64 c)).setCell ⟨b, 1, none⟩ (.int .i64 i)) p T1 [x1, x2] ∧ Blk ((W.setCell ⟨b, 0, none⟩ (.int .i64 c)).setCell ⟨b, 1, none⟩ (.int .i64 i)) q T2 [y1, y2] ∧ Below w.heap.size w ((W.setCell ⟨b, 0, none⟩ (.int .i64 c)).setCell ⟨b, 1, none⟩ (.int .i64 i)) := by
  obtain ⟨k1, k2⟩ := put2 h hB hb c i
  exact ⟨k1, (h1.other (by show p ≠ b; omega) _).other (by show p ≠ b; omega) _, (h2.other (by show q ≠ b; omega) _).other (by show q ≠ b; omega) _, k2⟩
end Go.Proofs.YtgejngpioldhpaaGreatDoor

namespace Go.Proofs.YtgejngpioldhpaaGreatDoor
open Go Go.RowKit

set_option maxRecDepth 100000 in
set_option maxHeartbeats 8000000 in
theorem tog_walk (n : Nat) (v1 : Option Addr) (v2 v3 : Nat) (lb lo lc mb mo mc : Nat) (zs xs ys : List Int) (X Y K L : Nat) (f g : Nat → Nat) (T : Bool) (w : World) (hX : X ≤ 60) (hY : Y ≤ 60) (hY0 : 0 < Y)
    (HXL : Hid (xs.length = X)) (HYL : Hid (ys.length = Y)) (HF : Hid (∀ a, a < X → f a < n)) (HG : Hid (∀ b, b < Y → g b < n))
    (HLC : Hid (∀ W, Below w.heap.size w W → ∀ a, a < X → W.cell? ⟨lb, lo + a, none⟩ = some (.int .i64 ((f a : Nat) : Int))))
    (HMC : Hid (∀ W, Below w.heap.size w W → ∀ b, b < Y → W.cell? ⟨mb, mo + b, none⟩ = some (.int .i64 ((g b : Nat) : Int))))
    (HNW : Hid (∀ W, Below w.heap.size w W → ∀ j u, (ys.map (Value.int .i64))[j]? = some u → W.cell? ((⟨mb, mo, none⟩ : Addr).add j) = some u))
    (HBO : Hid (∀ W, Below w.heap.size w W → Calls Tryz.prog 14 #[.slice (some ⟨lb, lo, none⟩) X lc, .slice (some ⟨mb, mo, none⟩) Y mc] W fun x W' => ∃ a c, x = .returned (.slice a K c) ∧ Below W.heap.size W W'))
    (HOW : Hid (∀ W, Below w.heap.size w W → Calls Tryz.prog 7 #[.slice (some ⟨lb, lo, none⟩) X lc] W fun x W' => ∃ r, x = .returned r ∧ W'.ownsRow W.heap.size 3 1 r X (xs.map (Value.int .i64)) ∧ Below W.heap.size W W'))
    (HSP : Hid (∀ W u, Below w.heap.size w W → Sl W u (xs ++ ys) → Calls Tryz.prog 15 #[.agg #[.int .i64 n, .slice v1 v2 v3], u] W fun x W' => ∃ a c, x = .returned (.slice a L c) ∧ Below W.heap.size W W'))
    (HM : Hid (∀ W a b, Below w.heap.size w W → a < n → b < n → Calls Tryz.prog 42 #[.agg #[.int .i64 n, .slice v1 v2 v3], .int .i64 ((a : Nat) : Int), .int .i64 ((b : Nat) : Int)] W fun x W' => x = .returned (.int .i64 (tm n zs a b)) ∧ Below W.heap.size W W'))
    (HT : Hid (T = true ↔ K = 1 ∧ L = n ∧ ∀ a b, a < X → b < Y → tm n zs (f a) (g b) = tm n zs (g b) (f a))) :
    Calls Tryz.prog 22 #[.agg #[.int .i64 n, .slice v1 v2 v3], .slice (some ⟨lb, lo, none⟩) X lc, .slice (some ⟨mb, mo, none⟩) Y mc] w fun x w' => x = .returned (.bool T) ∧ Below w.heap.size w w' := by
  obtain ⟨i0, hi, hz0, hz1, hz2⟩ := info_parts info3b
  obtain ⟨w0, hw0⟩ : ∃ w0, w0 = w.alloc (.cells #[.int .i64 n, .slice v1 v2 v3] 24) := ⟨_, rfl⟩
  have hB0 : Below w.heap.size w w0 := by rw [hw0]; exact balloc w _
  have hw0p : 0 < w0.heap.size := by rw [hw0]; simp
  have hX0 : BoxG w0 w.heap.size n (.slice v1 v2 v3) := by rw [hw0]; exact blk0 _ _
  obtain ⟨g0, g1, _, _⟩ := hX0.two
  have hS : ∀ W, Below w0.heap.size w0 W → (Below w0.heap.size w0 W ∧ W.cell? ⟨w.heap.size, 0, none⟩ = some (.int .i64 n) ∧ W.cell? ⟨w.heap.size, 1, none⟩ = some (.slice v1 v2 v3)) := fun W h => ⟨h, below_cell h g0, below_cell h g1⟩
  have hBc : Below w0.heap.size w0 w0.drew := bdrew (Below.refl _ _)
  have hS0 := hS _ hBc
  by_cases hK : K = 1
  · subst hK
    by_cases hL : L = n
    · have hLb : (((L : Nat) : Int) != ((n : Nat) : Int)) = false := by simp [hL]
      have HLN := hide hL
      clear hL
      go_enter Tryz.func22, Tryz.ntmps22
      go_wp2_with fail
      rw [← hw0]
      clear hw0
      refine wp_region_held_drew (S := fun W => Below w0.heap.size w0 W ∧ W.cell? ⟨w.heap.size, 0, none⟩ = some (.int .i64 n) ∧ W.cell? ⟨w.heap.size, 1, none⟩ = some (.slice v1 v2 v3)) (by kernel_rfl) hS0 (fun hHeld => ?_)
      refine wpAnyH_take (i := 0) (oi := ({ dst := some 9, op := Go.Op.move (Go.Operand.tmp 1), type := 22, pos := _, after := #[], guard := none } : Oper)) (v := ?_) rfl (by kernel_rfl) (by kernel_rfl) (by kernel_rfl) (fun _ _ _ h => h) (Or.inl ⟨by rfl, ?_⟩) (by assumption) ?_
      rotate_left
      · (intro w hSw; (try dsimp only at hSw); go_simp; try with_reducible rfl)
      simp only [Act.put, List.setIfInBounds_toArray, List.set_cons_zero, List.set_cons_succ]
      refine wpAnyH_take (i := 1) (oi := ({ dst := some 10, op := Go.Op.move (Go.Operand.tmp 2), type := 22, pos := _, after := #[], guard := none } : Oper)) (v := ?_) rfl (by kernel_rfl) (by kernel_rfl) (by kernel_rfl) (fun _ _ _ h => h) (Or.inl ⟨by rfl, ?_⟩) (by assumption) ?_
      rotate_left
      · (intro w hSw; (try dsimp only at hSw); go_simp; try with_reducible rfl)
      simp only [Act.put, List.setIfInBounds_toArray, List.set_cons_zero, List.set_cons_succ]
      refine wpAnyH_ready (rs := [2]) (by kernel_rfl) (by simp) (AllReadyH.cons (o := ({ dst := some 11, op := Go.Op.call { callee := Go.Callee.value (Go.Operand.func 14), args := #[Go.Operand.tmp 9, Go.Operand.tmp 10], argTypes := #[22, 22] }, type := 22, pos := _, after := #[{ on := 0, ground := Go.Ground.data }, { on := 1, ground := Go.Ground.data }], guard := none } : Oper)) rfl (fun KK hK => ?_) AllReadyH.nil)
      go_simp
      refine (HBO.out _ (bcat2 hB0 hBc)).mono ?_
      rintro x1 U1 ⟨ra, rc, rfl, hl1⟩
      have hBc := bcat2 hBc hl1
      try go_wp2_with fail
      refine hK.out _ _ (hS _ hBc) (fun hHeld => ?_)
      clear hK
      try simp only [Act.put, List.setIfInBounds_toArray, List.set_cons_zero, List.set_cons_succ]
      refine wpAnyH_take (i := 3) (oi := ({ dst := some 12, op := Go.Op.call { callee := Go.Callee.builtin Go.Builtin.len, args := #[Go.Operand.tmp 11], argTypes := #[22] }, type := 3, pos := _, after := #[{ on := 2, ground := Go.Ground.data }], guard := none } : Oper)) (v := ?_) rfl (by kernel_rfl) (by kernel_rfl) (by kernel_rfl) (fun _ _ _ h => h) (Or.inl ⟨by rfl, ?_⟩) (by assumption) ?_
      rotate_left
      · (intro w hSw; (try dsimp only at hSw); go_simp; try with_reducible rfl)
      simp only [Act.put, List.setIfInBounds_toArray, List.set_cons_zero, List.set_cons_succ]
      refine wpAnyH_take (i := 4) (oi := ({ dst := some 13, op := Go.Op.binOp Go.BinOp.neq 3 (Go.Operand.tmp 12) (Go.Operand.const (Go.Value.int Go.IntKind.i64 1)) 3, type := 4, pos := _, after := #[{ on := 3, ground := Go.Ground.data }], guard := none } : Oper)) (v := .bool false) rfl (by kernel_rfl) (by kernel_rfl) (by kernel_rfl) (fun _ _ _ h => h) (Or.inl ⟨by rfl, ?_⟩) (by assumption) ?_
      · (intro w hSw; (try dsimp only at hSw); go_simp; try (first | with_reducible rfl | (simp; done) | omega | (simp; omega)))
      simp only [Act.put, List.setIfInBounds_toArray, List.set_cons_zero, List.set_cons_succ]
      refine wpAnyH_take (i := 5) (oi := ({ dst := some 14, op := Go.Op.move (Go.Operand.tmp 13), type := 4, pos := _, after := #[{ on := 4, ground := Go.Ground.data }, { on := 2, ground := Go.Ground.chain }], guard := none } : Oper)) (v := .bool false) rfl (by kernel_rfl) (by kernel_rfl) (by kernel_rfl) (fun _ _ _ h => h) (Or.inl ⟨by rfl, ?_⟩) (by assumption) ?_
      · (intro w hSw; (try dsimp only at hSw); go_simp; try (first | with_reducible rfl | (simp; done) | omega | (simp; omega)))
      simp only [Act.put, List.setIfInBounds_toArray, List.set_cons_zero, List.set_cons_succ]
      refine wpAnyH_take (i := 6) (oi := ({ dst := some 15, op := Go.Op.load 24 (Go.Operand.tmp 3), type := 24, pos := _, after := #[{ on := 5, ground := Go.Ground.guard }], guard := some (5, false) } : Oper)) (v := ?_) rfl (by kernel_rfl) (by kernel_rfl) (by kernel_rfl) (fun _ _ _ h => h) (Or.inl ⟨by rfl, ?_⟩) (by assumption) ?_
      rotate_left
      · (intro w hSw; (try dsimp only at hSw); go_simp; try with_reducible rfl)
      simp only [Act.put, List.setIfInBounds_toArray, List.set_cons_zero, List.set_cons_succ]
      refine wpAnyH_take (i := 7) (oi := ({ dst := some 16, op := Go.Op.move (Go.Operand.tmp 1), type := 22, pos := _, after := #[{ on := 5, ground := Go.Ground.guard }], guard := some (5, false) } : Oper)) (v := ?_) rfl (by kernel_rfl) (by kernel_rfl) (by kernel_rfl) (fun _ _ _ h => h) (Or.inl ⟨by rfl, ?_⟩) (by assumption) ?_
      rotate_left
      · (intro w hSw; (try dsimp only at hSw); go_simp; try with_reducible rfl)
      simp only [Act.put, List.setIfInBounds_toArray, List.set_cons_zero, List.set_cons_succ]
      refine wpAnyH_take (i := 9) (oi := ({ dst := some 18, op := Go.Op.move (Go.Operand.tmp 2), type := 22, pos := _, after := #[{ on := 5, ground := Go.Ground.guard }], guard := some (5, false) } : Oper)) (v := ?_) rfl (by kernel_rfl) (by kernel_rfl) (by kernel_rfl) (fun _ _ _ h => h) (Or.inl ⟨by rfl, ?_⟩) (by assumption) ?_
      rotate_left
      · (intro w hSw; (try dsimp only at hSw); go_simp; try with_reducible rfl)
      simp only [Act.put, List.setIfInBounds_toArray, List.set_cons_zero, List.set_cons_succ]
      refine wpAnyH_take (i := 13) (oi := ({ dst := some 22, op := Go.Op.fieldAddr 24 (Go.Operand.tmp 3) 0, type := 0, pos := _, after := #[{ on := 5, ground := Go.Ground.guard }], guard := some (5, false) } : Oper)) (v := ?_) rfl (by kernel_rfl) (by kernel_rfl) (by kernel_rfl) (fun _ _ _ h => h) (Or.inl ⟨by rfl, ?_⟩) (by assumption) ?_
      rotate_left
      · (intro w hSw; (try dsimp only at hSw); go_simp; try with_reducible rfl)
      simp only [Act.put, List.setIfInBounds_toArray, List.set_cons_zero, List.set_cons_succ]
      refine wpAnyH_take (i := 14) (oi := ({ dst := some 23, op := Go.Op.load 3 (Go.Operand.tmp 22), type := 3, pos := _, after := #[{ on := 13, ground := Go.Ground.data }, { on := 5, ground := Go.Ground.guard }], guard := some (5, false) } : Oper)) (v := ?_) rfl (by kernel_rfl) (by kernel_rfl) (by kernel_rfl) (fun _ _ _ h => h) (Or.inl ⟨by rfl, ?_⟩) (by assumption) ?_
      rotate_left
      · (intro w hSw; (try dsimp only at hSw); go_simp; try with_reducible rfl)
      simp only [Act.put, List.setIfInBounds_toArray, List.set_cons_zero, List.set_cons_succ]
      refine wpAnyH_ready (rs := [8]) (by kernel_rfl) (by simp) (AllReadyH.cons (o := ({ dst := some 17, op := Go.Op.call { callee := Go.Callee.value (Go.Operand.func 7), args := #[Go.Operand.tmp 16], argTypes := #[22] }, type := 22, pos := _, after := #[{ on := 7, ground := Go.Ground.data }, { on := 5, ground := Go.Ground.chain }, { on := 5, ground := Go.Ground.guard }], guard := some (5, false) } : Oper)) rfl (fun KK hK => ?_) AllReadyH.nil)
      go_simp
      refine (HOW.out _ (bcat2 hB0 hBc)).mono ?_
      rintro x2 U2 ⟨r, rfl, hown, hl2⟩
      have hBo := hBc
      have hBc := bcat2 hBc hl2
      try go_wp2_with fail
      refine hK.out _ _ (hS _ hBc) (fun hHeld => ?_)
      clear hK
      try simp only [Act.put, List.setIfInBounds_toArray, List.set_cons_zero, List.set_cons_succ]
      refine wpAnyH_ready (rs := [10]) (by kernel_rfl) (by simp) (AllReadyH.cons (o := ({ dst := some 19, op := Go.Op.call { callee := Go.Callee.builtin Go.Builtin.append, args := #[Go.Operand.tmp 17, Go.Operand.tmp 18], argTypes := #[22, 22] }, type := 22, pos := _, after := #[{ on := 8, ground := Go.Ground.data }, { on := 9, ground := Go.Ground.data }, { on := 8, ground := Go.Ground.chain }, { on := 5, ground := Go.Ground.guard }], guard := some (5, false) } : Oper)) rfl (fun KK hK => ?_) AllReadyH.nil)
      rw [if_pos (by rfl)]
      refine wp_append_lies _ _ _ 22 rfl U1.heap.size 3 i0 (.int .i64 0) 1 8 under22b hi hz0 hz1 hz2 rfl (by decide) r X (xs.map (Value.int .i64)) rfl hown ⟨mb, mo, none⟩ Y mc (ys.map (Value.int .i64)) rfl (by rw [List.length_map, HYL.out, Nat.mul_one]) (HNW.out _ (bcat2 hB0 hBc)) (by intro v hv; obtain ⟨z, _, rfl⟩ := List.mem_map.1 hv; rfl) hY0 (by unfold maxLen; omega) (by omega) hl2.size _ rfl ?_
      intro g9 cap9 U3 hown3 hgr _ _
      have hB3 : Below w0.heap.size w0 U3 := hBc.grown hgr hBc.size (fun t e9 => by have := owns_ge hown t e9; have := hBo.size; omega)
      have hsu : Sl U3 (.slice (some ⟨g9, 0, none⟩) (X + Y) cap9) (xs ++ ys) := by
        refine Sl.of_own (base := U1.heap.size) ?_ (Nat.lt_of_lt_of_le hw0p hB3.size)
        rw [List.length_append, HXL.out, HYL.out, List.map_append]
        exact hown3
      have hBc := hB3
      refine hK.out _ _ (hS _ hBc) (fun hHeld => ?_)
      clear hK
      try simp only [Act.put, List.setIfInBounds_toArray, List.set_cons_zero, List.set_cons_succ]
      refine wpAnyH_ready (rs := [11]) (by kernel_rfl) (by simp) (AllReadyH.cons (o := ({ dst := some 20, op := Go.Op.call { callee := Go.Callee.value (Go.Operand.func 15), args := #[Go.Operand.tmp 15, Go.Operand.tmp 19], argTypes := #[24, 22] }, type := 22, pos := _, after := #[{ on := 6, ground := Go.Ground.data }, { on := 10, ground := Go.Ground.data }, { on := 10, ground := Go.Ground.chain }, { on := 5, ground := Go.Ground.guard }], guard := some (5, false) } : Oper)) rfl (fun KK hK => ?_) AllReadyH.nil)
      go_simp
      refine (HSP.out _ _ (bcat2 hB0 hBc) hsu).mono ?_
      rintro x4 U4 ⟨sa, sc, rfl, hl4⟩
      have hBc := bcat2 hBc hl4
      try go_wp2_with fail
      refine hK.out _ _ (hS _ hBc) (fun hHeld => ?_)
      clear hK
      try simp only [Act.put, List.setIfInBounds_toArray, List.set_cons_zero, List.set_cons_succ]
      refine wpAnyH_take (i := 12) (oi := ({ dst := some 21, op := Go.Op.call { callee := Go.Callee.builtin Go.Builtin.len, args := #[Go.Operand.tmp 20], argTypes := #[22] }, type := 3, pos := _, after := #[{ on := 11, ground := Go.Ground.data }, { on := 5, ground := Go.Ground.guard }], guard := some (5, false) } : Oper)) (v := ?_) rfl (by kernel_rfl) (by kernel_rfl) (by kernel_rfl) (fun _ _ _ h => h) (Or.inl ⟨by rfl, ?_⟩) (by assumption) ?_
      rotate_left
      · (intro w hSw; (try dsimp only at hSw); go_simp; try with_reducible rfl)
      simp only [Act.put, List.setIfInBounds_toArray, List.set_cons_zero, List.set_cons_succ]
      refine wpAnyH_take (i := 15) (oi := ({ dst := some 24, op := Go.Op.binOp Go.BinOp.neq 3 (Go.Operand.tmp 21) (Go.Operand.tmp 23) 3, type := 4, pos := _, after := #[{ on := 12, ground := Go.Ground.data }, { on := 14, ground := Go.Ground.data }, { on := 5, ground := Go.Ground.guard }], guard := some (5, false) } : Oper)) (v := .bool false) rfl (by kernel_rfl) (by kernel_rfl) (by kernel_rfl) (fun _ _ _ h => h) (Or.inl ⟨by rfl, ?_⟩) (by assumption) ?_
      · (intro w hSw; (try dsimp only at hSw); go_simp; try (first | with_reducible rfl | (simp [hLb]; done) | (simp; done) | omega | (simp; omega)))
      simp only [Act.put, List.setIfInBounds_toArray, List.set_cons_zero, List.set_cons_succ]
      refine wpAnyH_take (i := 16) (oi := ({ dst := some 25, op := Go.Op.pick (Go.Operand.tmp 14) (Go.Operand.const (Go.Value.bool true)) (Go.Operand.tmp 24), type := 4, pos := _, after := #[{ on := 5, ground := Go.Ground.data }, { on := 15, ground := Go.Ground.data }], guard := none } : Oper)) (v := .bool false) rfl (by kernel_rfl) (by kernel_rfl) (by kernel_rfl) (fun _ _ _ h => h) (Or.inl ⟨by rfl, ?_⟩) (by assumption) ?_
      · (intro w hSw; (try dsimp only at hSw); go_simp; try (first | with_reducible rfl | (simp; done) | omega | (simp; omega)))
      simp only [Act.put, List.setIfInBounds_toArray, List.set_cons_zero, List.set_cons_succ]
      refine wpAnyH_done (by kernel_rfl) ?_ _
      have hBu := hBc
      clear hBc hHeld hS0 hown hown3 hgr hsu hB3 hBo hl1 hl2 hl4
      generalize hU9 : U4 = wz at *
      clear hU9
      go_wp2
      go_loopw [7] (fun i wr => ∃ k : Nat, k ≤ X ∧ i = .int .i64 k ∧ (∀ a b, a < k → b < Y → tm n zs (f a) (g b) = tm n zs (g b) (f a)) ∧ Below w0.heap.size w0 wr) (fun i _ => X - (intOf i).toNat)
      case atStart => exact ⟨0, Nat.zero_le _, rfl, fun a b ha => by omega, hBu⟩
      case round =>
        obtain ⟨a, hk, rfl, hno, hB⟩ := hrel
        have HN := hide hno
        clear hno
        by_cases hlt : a < X
        · go_wp2
          go_loopw [8] (fun i wr => ∃ k : Nat, k ≤ Y ∧ i = .int .i64 k ∧ (∀ b, b < k → tm n zs (f a) (g b) = tm n zs (g b) (f a)) ∧ Below w0.heap.size w0 wr) (fun i _ => Y - (intOf i).toNat)
          case atStart => exact ⟨0, Nat.zero_le _, rfl, fun b hb => by omega, hB⟩
          case round =>
            obtain ⟨b, hk2, rfl, hno2, hB2⟩ := hrel
            have HN2 := hide hno2
            clear hno2
            by_cases hlt2 : b < Y
            · have hfa := HF.out a hlt
              have hgb := HG.out b hlt2
              have hS2 : ∀ W, Below w0.heap.size w0 W → (Below w0.heap.size w0 W ∧ W.cell? ⟨w.heap.size, 0, none⟩ = some (.int .i64 n) ∧ W.cell? ⟨w.heap.size, 1, none⟩ = some (.slice v1 v2 v3) ∧ W.cell? ⟨lb, lo + a, none⟩ = some (.int .i64 ((f a : Nat) : Int)) ∧ W.cell? ⟨mb, mo + b, none⟩ = some (.int .i64 ((g b : Nat) : Int))) := fun W h => ⟨h, below_cell h g0, below_cell h g1, HLC.out W (bcat2 hB0 h) a hlt, HMC.out W (bcat2 hB0 h) b hlt2⟩
              have hS20 := hS2 _ (bdrew hB2)
              go_wp2_with fail
              go_region_held3 (fun W => Below w0.heap.size w0 W ∧ W.cell? ⟨w.heap.size, 0, none⟩ = some (.int .i64 n) ∧ W.cell? ⟨w.heap.size, 1, none⟩ = some (.slice v1 v2 v3) ∧ W.cell? ⟨lb, lo + a, none⟩ = some (.int .i64 ((f a : Nat) : Int)) ∧ W.cell? ⟨mb, mo + b, none⟩ = some (.int .i64 ((g b : Nat) : Int)))
                (first | exact hS20 | assumption | exact hS2 _ (bcat2 (And.left ‹_›) hl5))
                (first | (go_at_call 42; refine (HM.out _ _ _ (bcat2 hB0 (And.left ‹_›)) (by assumption) (by assumption)).mono ?_; rintro e5 W1 ⟨rfl, hl5⟩))
              obtain ⟨hB3, _⟩ := ‹Below w0.heap.size w0 W1 ∧ _›
              clear hS2 hS20 hl5
              by_cases hxy : tm n zs (f a) (g b) = tm n zs (g b) (f a)
              · have hbe : ((tm n zs (f a) (g b) : Int) != (tm n zs (g b) (f a) : Int)) = false := by simp [hxy]
                have HXY := hide hxy
                clear hxy
                go_wp2
                go_roundw
                case rel => exact ⟨b + 1, by omega, by go_num, fun d hd => by
                  by_cases e : d = b
                  · rw [e]; exact HXY.out
                  · exact HN2.out d (by omega), hB3⟩
                case measure => simp [intOf]; omega
              · have hbe : ((tm n zs (f a) (g b) : Int) != (tm n zs (g b) (f a) : Int)) = true := by simp; omega
                have HXY := hide hxy
                clear hxy
                go_wp2
                go_ret
                refine ⟨retB ?_, bcat2 hB0 hB3⟩
                cases hq : T with
                | false => rfl
                | true => exact absurd ((HT.out.1 hq).2.2 a b hlt hlt2) HXY.out
            · have hcn : b = Y := by omega
              have hcn2 : ¬ (b : Int) < (Y : Int) := by omega
              have HCN := hide hcn
              clear hcn
              go_wp2
              go_roundw
              case rel => exact ⟨a + 1, by omega, by go_num, fun d c hd hc => by
                by_cases e : d = a
                · rw [e]; exact HN2.out c (by have := HCN.out; omega)
                · exact HN.out d c (by omega) hc, hB2⟩
              case measure => simp [intOf]; omega
        · have hcn : a = X := by omega
          have hcn2 : ¬ (a : Int) < (X : Int) := by omega
          have HCN := hide hcn
          clear hcn
          go_wp2
          go_ret
          exact ⟨retB (HT.out.2 ⟨by simp, HLN.out, fun d c hd hc => HN.out d c (by have := HCN.out; omega) hc⟩).symm, bcat2 hB0 hB⟩
    · have hLb : (((L : Nat) : Int) != ((n : Nat) : Int)) = true := by simp; omega
      have HTF := hide (show T = false by
        cases hq : T with
        | false => rfl
        | true => exact absurd (HT.out.1 hq).2.1 hL)
      clear hL
      go_enter Tryz.func22, Tryz.ntmps22
      go_wp2_with fail
      rw [← hw0]
      clear hw0
      refine wp_region_held_drew (S := fun W => Below w0.heap.size w0 W ∧ W.cell? ⟨w.heap.size, 0, none⟩ = some (.int .i64 n) ∧ W.cell? ⟨w.heap.size, 1, none⟩ = some (.slice v1 v2 v3)) (by kernel_rfl) hS0 (fun hHeld => ?_)
      refine wpAnyH_take (i := 0) (oi := ({ dst := some 9, op := Go.Op.move (Go.Operand.tmp 1), type := 22, pos := _, after := #[], guard := none } : Oper)) (v := ?_) rfl (by kernel_rfl) (by kernel_rfl) (by kernel_rfl) (fun _ _ _ h => h) (Or.inl ⟨by rfl, ?_⟩) (by assumption) ?_
      rotate_left
      · (intro w hSw; (try dsimp only at hSw); go_simp; try with_reducible rfl)
      simp only [Act.put, List.setIfInBounds_toArray, List.set_cons_zero, List.set_cons_succ]
      refine wpAnyH_take (i := 1) (oi := ({ dst := some 10, op := Go.Op.move (Go.Operand.tmp 2), type := 22, pos := _, after := #[], guard := none } : Oper)) (v := ?_) rfl (by kernel_rfl) (by kernel_rfl) (by kernel_rfl) (fun _ _ _ h => h) (Or.inl ⟨by rfl, ?_⟩) (by assumption) ?_
      rotate_left
      · (intro w hSw; (try dsimp only at hSw); go_simp; try with_reducible rfl)
      simp only [Act.put, List.setIfInBounds_toArray, List.set_cons_zero, List.set_cons_succ]
      refine wpAnyH_ready (rs := [2]) (by kernel_rfl) (by simp) (AllReadyH.cons (o := ({ dst := some 11, op := Go.Op.call { callee := Go.Callee.value (Go.Operand.func 14), args := #[Go.Operand.tmp 9, Go.Operand.tmp 10], argTypes := #[22, 22] }, type := 22, pos := _, after := #[{ on := 0, ground := Go.Ground.data }, { on := 1, ground := Go.Ground.data }], guard := none } : Oper)) rfl (fun KK hK => ?_) AllReadyH.nil)
      go_simp
      refine (HBO.out _ (bcat2 hB0 hBc)).mono ?_
      rintro x1 U1 ⟨ra, rc, rfl, hl1⟩
      have hBc := bcat2 hBc hl1
      try go_wp2_with fail
      refine hK.out _ _ (hS _ hBc) (fun hHeld => ?_)
      clear hK
      try simp only [Act.put, List.setIfInBounds_toArray, List.set_cons_zero, List.set_cons_succ]
      refine wpAnyH_take (i := 3) (oi := ({ dst := some 12, op := Go.Op.call { callee := Go.Callee.builtin Go.Builtin.len, args := #[Go.Operand.tmp 11], argTypes := #[22] }, type := 3, pos := _, after := #[{ on := 2, ground := Go.Ground.data }], guard := none } : Oper)) (v := ?_) rfl (by kernel_rfl) (by kernel_rfl) (by kernel_rfl) (fun _ _ _ h => h) (Or.inl ⟨by rfl, ?_⟩) (by assumption) ?_
      rotate_left
      · (intro w hSw; (try dsimp only at hSw); go_simp; try with_reducible rfl)
      simp only [Act.put, List.setIfInBounds_toArray, List.set_cons_zero, List.set_cons_succ]
      refine wpAnyH_take (i := 4) (oi := ({ dst := some 13, op := Go.Op.binOp Go.BinOp.neq 3 (Go.Operand.tmp 12) (Go.Operand.const (Go.Value.int Go.IntKind.i64 1)) 3, type := 4, pos := _, after := #[{ on := 3, ground := Go.Ground.data }], guard := none } : Oper)) (v := .bool false) rfl (by kernel_rfl) (by kernel_rfl) (by kernel_rfl) (fun _ _ _ h => h) (Or.inl ⟨by rfl, ?_⟩) (by assumption) ?_
      · (intro w hSw; (try dsimp only at hSw); go_simp; try (first | with_reducible rfl | (simp; done) | omega | (simp; omega)))
      simp only [Act.put, List.setIfInBounds_toArray, List.set_cons_zero, List.set_cons_succ]
      refine wpAnyH_take (i := 5) (oi := ({ dst := some 14, op := Go.Op.move (Go.Operand.tmp 13), type := 4, pos := _, after := #[{ on := 4, ground := Go.Ground.data }, { on := 2, ground := Go.Ground.chain }], guard := none } : Oper)) (v := .bool false) rfl (by kernel_rfl) (by kernel_rfl) (by kernel_rfl) (fun _ _ _ h => h) (Or.inl ⟨by rfl, ?_⟩) (by assumption) ?_
      · (intro w hSw; (try dsimp only at hSw); go_simp; try (first | with_reducible rfl | (simp; done) | omega | (simp; omega)))
      simp only [Act.put, List.setIfInBounds_toArray, List.set_cons_zero, List.set_cons_succ]
      refine wpAnyH_take (i := 6) (oi := ({ dst := some 15, op := Go.Op.load 24 (Go.Operand.tmp 3), type := 24, pos := _, after := #[{ on := 5, ground := Go.Ground.guard }], guard := some (5, false) } : Oper)) (v := ?_) rfl (by kernel_rfl) (by kernel_rfl) (by kernel_rfl) (fun _ _ _ h => h) (Or.inl ⟨by rfl, ?_⟩) (by assumption) ?_
      rotate_left
      · (intro w hSw; (try dsimp only at hSw); go_simp; try with_reducible rfl)
      simp only [Act.put, List.setIfInBounds_toArray, List.set_cons_zero, List.set_cons_succ]
      refine wpAnyH_take (i := 7) (oi := ({ dst := some 16, op := Go.Op.move (Go.Operand.tmp 1), type := 22, pos := _, after := #[{ on := 5, ground := Go.Ground.guard }], guard := some (5, false) } : Oper)) (v := ?_) rfl (by kernel_rfl) (by kernel_rfl) (by kernel_rfl) (fun _ _ _ h => h) (Or.inl ⟨by rfl, ?_⟩) (by assumption) ?_
      rotate_left
      · (intro w hSw; (try dsimp only at hSw); go_simp; try with_reducible rfl)
      simp only [Act.put, List.setIfInBounds_toArray, List.set_cons_zero, List.set_cons_succ]
      refine wpAnyH_take (i := 9) (oi := ({ dst := some 18, op := Go.Op.move (Go.Operand.tmp 2), type := 22, pos := _, after := #[{ on := 5, ground := Go.Ground.guard }], guard := some (5, false) } : Oper)) (v := ?_) rfl (by kernel_rfl) (by kernel_rfl) (by kernel_rfl) (fun _ _ _ h => h) (Or.inl ⟨by rfl, ?_⟩) (by assumption) ?_
      rotate_left
      · (intro w hSw; (try dsimp only at hSw); go_simp; try with_reducible rfl)
      simp only [Act.put, List.setIfInBounds_toArray, List.set_cons_zero, List.set_cons_succ]
      refine wpAnyH_take (i := 13) (oi := ({ dst := some 22, op := Go.Op.fieldAddr 24 (Go.Operand.tmp 3) 0, type := 0, pos := _, after := #[{ on := 5, ground := Go.Ground.guard }], guard := some (5, false) } : Oper)) (v := ?_) rfl (by kernel_rfl) (by kernel_rfl) (by kernel_rfl) (fun _ _ _ h => h) (Or.inl ⟨by rfl, ?_⟩) (by assumption) ?_
      rotate_left
      · (intro w hSw; (try dsimp only at hSw); go_simp; try with_reducible rfl)
      simp only [Act.put, List.setIfInBounds_toArray, List.set_cons_zero, List.set_cons_succ]
      refine wpAnyH_take (i := 14) (oi := ({ dst := some 23, op := Go.Op.load 3 (Go.Operand.tmp 22), type := 3, pos := _, after := #[{ on := 13, ground := Go.Ground.data }, { on := 5, ground := Go.Ground.guard }], guard := some (5, false) } : Oper)) (v := ?_) rfl (by kernel_rfl) (by kernel_rfl) (by kernel_rfl) (fun _ _ _ h => h) (Or.inl ⟨by rfl, ?_⟩) (by assumption) ?_
      rotate_left
      · (intro w hSw; (try dsimp only at hSw); go_simp; try with_reducible rfl)
      simp only [Act.put, List.setIfInBounds_toArray, List.set_cons_zero, List.set_cons_succ]
      refine wpAnyH_ready (rs := [8]) (by kernel_rfl) (by simp) (AllReadyH.cons (o := ({ dst := some 17, op := Go.Op.call { callee := Go.Callee.value (Go.Operand.func 7), args := #[Go.Operand.tmp 16], argTypes := #[22] }, type := 22, pos := _, after := #[{ on := 7, ground := Go.Ground.data }, { on := 5, ground := Go.Ground.chain }, { on := 5, ground := Go.Ground.guard }], guard := some (5, false) } : Oper)) rfl (fun KK hK => ?_) AllReadyH.nil)
      go_simp
      refine (HOW.out _ (bcat2 hB0 hBc)).mono ?_
      rintro x2 U2 ⟨r, rfl, hown, hl2⟩
      have hBo := hBc
      have hBc := bcat2 hBc hl2
      try go_wp2_with fail
      refine hK.out _ _ (hS _ hBc) (fun hHeld => ?_)
      clear hK
      try simp only [Act.put, List.setIfInBounds_toArray, List.set_cons_zero, List.set_cons_succ]
      refine wpAnyH_ready (rs := [10]) (by kernel_rfl) (by simp) (AllReadyH.cons (o := ({ dst := some 19, op := Go.Op.call { callee := Go.Callee.builtin Go.Builtin.append, args := #[Go.Operand.tmp 17, Go.Operand.tmp 18], argTypes := #[22, 22] }, type := 22, pos := _, after := #[{ on := 8, ground := Go.Ground.data }, { on := 9, ground := Go.Ground.data }, { on := 8, ground := Go.Ground.chain }, { on := 5, ground := Go.Ground.guard }], guard := some (5, false) } : Oper)) rfl (fun KK hK => ?_) AllReadyH.nil)
      rw [if_pos (by rfl)]
      refine wp_append_lies _ _ _ 22 rfl U1.heap.size 3 i0 (.int .i64 0) 1 8 under22b hi hz0 hz1 hz2 rfl (by decide) r X (xs.map (Value.int .i64)) rfl hown ⟨mb, mo, none⟩ Y mc (ys.map (Value.int .i64)) rfl (by rw [List.length_map, HYL.out, Nat.mul_one]) (HNW.out _ (bcat2 hB0 hBc)) (by intro v hv; obtain ⟨z, _, rfl⟩ := List.mem_map.1 hv; rfl) hY0 (by unfold maxLen; omega) (by omega) hl2.size _ rfl ?_
      intro g9 cap9 U3 hown3 hgr _ _
      have hB3 : Below w0.heap.size w0 U3 := hBc.grown hgr hBc.size (fun t e9 => by have := owns_ge hown t e9; have := hBo.size; omega)
      have hsu : Sl U3 (.slice (some ⟨g9, 0, none⟩) (X + Y) cap9) (xs ++ ys) := by
        refine Sl.of_own (base := U1.heap.size) ?_ (Nat.lt_of_lt_of_le hw0p hB3.size)
        rw [List.length_append, HXL.out, HYL.out, List.map_append]
        exact hown3
      have hBc := hB3
      refine hK.out _ _ (hS _ hBc) (fun hHeld => ?_)
      clear hK
      try simp only [Act.put, List.setIfInBounds_toArray, List.set_cons_zero, List.set_cons_succ]
      refine wpAnyH_ready (rs := [11]) (by kernel_rfl) (by simp) (AllReadyH.cons (o := ({ dst := some 20, op := Go.Op.call { callee := Go.Callee.value (Go.Operand.func 15), args := #[Go.Operand.tmp 15, Go.Operand.tmp 19], argTypes := #[24, 22] }, type := 22, pos := _, after := #[{ on := 6, ground := Go.Ground.data }, { on := 10, ground := Go.Ground.data }, { on := 10, ground := Go.Ground.chain }, { on := 5, ground := Go.Ground.guard }], guard := some (5, false) } : Oper)) rfl (fun KK hK => ?_) AllReadyH.nil)
      go_simp
      refine (HSP.out _ _ (bcat2 hB0 hBc) hsu).mono ?_
      rintro x4 U4 ⟨sa, sc, rfl, hl4⟩
      have hBc := bcat2 hBc hl4
      try go_wp2_with fail
      refine hK.out _ _ (hS _ hBc) (fun hHeld => ?_)
      clear hK
      try simp only [Act.put, List.setIfInBounds_toArray, List.set_cons_zero, List.set_cons_succ]
      refine wpAnyH_take (i := 12) (oi := ({ dst := some 21, op := Go.Op.call { callee := Go.Callee.builtin Go.Builtin.len, args := #[Go.Operand.tmp 20], argTypes := #[22] }, type := 3, pos := _, after := #[{ on := 11, ground := Go.Ground.data }, { on := 5, ground := Go.Ground.guard }], guard := some (5, false) } : Oper)) (v := ?_) rfl (by kernel_rfl) (by kernel_rfl) (by kernel_rfl) (fun _ _ _ h => h) (Or.inl ⟨by rfl, ?_⟩) (by assumption) ?_
      rotate_left
      · (intro w hSw; (try dsimp only at hSw); go_simp; try with_reducible rfl)
      simp only [Act.put, List.setIfInBounds_toArray, List.set_cons_zero, List.set_cons_succ]
      refine wpAnyH_take (i := 15) (oi := ({ dst := some 24, op := Go.Op.binOp Go.BinOp.neq 3 (Go.Operand.tmp 21) (Go.Operand.tmp 23) 3, type := 4, pos := _, after := #[{ on := 12, ground := Go.Ground.data }, { on := 14, ground := Go.Ground.data }, { on := 5, ground := Go.Ground.guard }], guard := some (5, false) } : Oper)) (v := .bool true) rfl (by kernel_rfl) (by kernel_rfl) (by kernel_rfl) (fun _ _ _ h => h) (Or.inl ⟨by rfl, ?_⟩) (by assumption) ?_
      · (intro w hSw; (try dsimp only at hSw); go_simp; try (first | with_reducible rfl | (simp [hLb]; done) | (simp; done) | omega | (simp; omega)))
      simp only [Act.put, List.setIfInBounds_toArray, List.set_cons_zero, List.set_cons_succ]
      refine wpAnyH_take (i := 16) (oi := ({ dst := some 25, op := Go.Op.pick (Go.Operand.tmp 14) (Go.Operand.const (Go.Value.bool true)) (Go.Operand.tmp 24), type := 4, pos := _, after := #[{ on := 5, ground := Go.Ground.data }, { on := 15, ground := Go.Ground.data }], guard := none } : Oper)) (v := .bool true) rfl (by kernel_rfl) (by kernel_rfl) (by kernel_rfl) (fun _ _ _ h => h) (Or.inl ⟨by rfl, ?_⟩) (by assumption) ?_
      · (intro w hSw; (try dsimp only at hSw); go_simp; try (first | with_reducible rfl | (simp; done) | omega | (simp; omega)))
      simp only [Act.put, List.setIfInBounds_toArray, List.set_cons_zero, List.set_cons_succ]
      refine wpAnyH_done (by kernel_rfl) ?_ _
      have hBz := bcat2 hB0 hBc
      go_wp2
      go_ret
      exact ⟨by rw [HTF.out]; rfl, hBz⟩
  · have hKb : (((K : Nat) : Int) != 1) = true := by simp; omega
    have HTF := hide (show T = false by
      cases hq : T with
      | false => rfl
      | true => exact absurd (HT.out.1 hq).1 hK)
    clear hK
    go_enter Tryz.func22, Tryz.ntmps22
    go_wp2_with fail
    rw [← hw0]
    clear hw0
    refine wp_region_held_drew (S := fun W => Below w0.heap.size w0 W ∧ W.cell? ⟨w.heap.size, 0, none⟩ = some (.int .i64 n) ∧ W.cell? ⟨w.heap.size, 1, none⟩ = some (.slice v1 v2 v3)) (by kernel_rfl) hS0 (fun hHeld => ?_)
    refine wpAnyH_take (i := 0) (oi := ({ dst := some 9, op := Go.Op.move (Go.Operand.tmp 1), type := 22, pos := _, after := #[], guard := none } : Oper)) (v := ?_) rfl (by kernel_rfl) (by kernel_rfl) (by kernel_rfl) (fun _ _ _ h => h) (Or.inl ⟨by rfl, ?_⟩) (by assumption) ?_
    rotate_left
    · (intro w hSw; (try dsimp only at hSw); go_simp; try with_reducible rfl)
    simp only [Act.put, List.setIfInBounds_toArray, List.set_cons_zero, List.set_cons_succ]
    refine wpAnyH_take (i := 1) (oi := ({ dst := some 10, op := Go.Op.move (Go.Operand.tmp 2), type := 22, pos := _, after := #[], guard := none } : Oper)) (v := ?_) rfl (by kernel_rfl) (by kernel_rfl) (by kernel_rfl) (fun _ _ _ h => h) (Or.inl ⟨by rfl, ?_⟩) (by assumption) ?_
    rotate_left
    · (intro w hSw; (try dsimp only at hSw); go_simp; try with_reducible rfl)
    simp only [Act.put, List.setIfInBounds_toArray, List.set_cons_zero, List.set_cons_succ]
    refine wpAnyH_ready (rs := [2]) (by kernel_rfl) (by simp) (AllReadyH.cons (o := ({ dst := some 11, op := Go.Op.call { callee := Go.Callee.value (Go.Operand.func 14), args := #[Go.Operand.tmp 9, Go.Operand.tmp 10], argTypes := #[22, 22] }, type := 22, pos := _, after := #[{ on := 0, ground := Go.Ground.data }, { on := 1, ground := Go.Ground.data }], guard := none } : Oper)) rfl (fun KK hK => ?_) AllReadyH.nil)
    go_simp
    refine (HBO.out _ (bcat2 hB0 hBc)).mono ?_
    rintro x1 U1 ⟨ra, rc, rfl, hl1⟩
    have hBc := bcat2 hBc hl1
    try go_wp2_with fail
    refine hK.out _ _ (hS _ hBc) (fun hHeld => ?_)
    clear hK
    try simp only [Act.put, List.setIfInBounds_toArray, List.set_cons_zero, List.set_cons_succ]
    refine wpAnyH_take (i := 3) (oi := ({ dst := some 12, op := Go.Op.call { callee := Go.Callee.builtin Go.Builtin.len, args := #[Go.Operand.tmp 11], argTypes := #[22] }, type := 3, pos := _, after := #[{ on := 2, ground := Go.Ground.data }], guard := none } : Oper)) (v := ?_) rfl (by kernel_rfl) (by kernel_rfl) (by kernel_rfl) (fun _ _ _ h => h) (Or.inl ⟨by rfl, ?_⟩) (by assumption) ?_
    rotate_left
    · (intro w hSw; (try dsimp only at hSw); go_simp; try with_reducible rfl)
    simp only [Act.put, List.setIfInBounds_toArray, List.set_cons_zero, List.set_cons_succ]
    refine wpAnyH_take (i := 4) (oi := ({ dst := some 13, op := Go.Op.binOp Go.BinOp.neq 3 (Go.Operand.tmp 12) (Go.Operand.const (Go.Value.int Go.IntKind.i64 1)) 3, type := 4, pos := _, after := #[{ on := 3, ground := Go.Ground.data }], guard := none } : Oper)) (v := .bool true) rfl (by kernel_rfl) (by kernel_rfl) (by kernel_rfl) (fun _ _ _ h => h) (Or.inl ⟨by rfl, ?_⟩) (by assumption) ?_
    · (intro w hSw; (try dsimp only at hSw); go_simp; try (first | with_reducible rfl | (simp [hKb]; done) | (simp; done) | omega | (simp; omega)))
    simp only [Act.put, List.setIfInBounds_toArray, List.set_cons_zero, List.set_cons_succ]
    refine wpAnyH_take (i := 5) (oi := ({ dst := some 14, op := Go.Op.move (Go.Operand.tmp 13), type := 4, pos := _, after := #[{ on := 4, ground := Go.Ground.data }, { on := 2, ground := Go.Ground.chain }], guard := none } : Oper)) (v := .bool true) rfl (by kernel_rfl) (by kernel_rfl) (by kernel_rfl) (fun _ _ _ h => h) (Or.inl ⟨by rfl, ?_⟩) (by assumption) ?_
    · (intro w hSw; (try dsimp only at hSw); go_simp; try (first | with_reducible rfl | (simp; done) | omega | (simp; omega)))
    simp only [Act.put, List.setIfInBounds_toArray, List.set_cons_zero, List.set_cons_succ]
    refine wpAnyH_take (i := 6) (oi := ({ dst := some 15, op := Go.Op.load 24 (Go.Operand.tmp 3), type := 24, pos := _, after := #[{ on := 5, ground := Go.Ground.guard }], guard := some (5, false) } : Oper)) (v := undef) rfl (by kernel_rfl) (by kernel_rfl) (by kernel_rfl) (fun _ _ _ h => h) (Or.inr ⟨by rfl, rfl⟩) (by assumption) ?_
    simp only [Act.put, List.setIfInBounds_toArray, List.set_cons_zero, List.set_cons_succ]
    refine wpAnyH_take (i := 7) (oi := ({ dst := some 16, op := Go.Op.move (Go.Operand.tmp 1), type := 22, pos := _, after := #[{ on := 5, ground := Go.Ground.guard }], guard := some (5, false) } : Oper)) (v := undef) rfl (by kernel_rfl) (by kernel_rfl) (by kernel_rfl) (fun _ _ _ h => h) (Or.inr ⟨by rfl, rfl⟩) (by assumption) ?_
    simp only [Act.put, List.setIfInBounds_toArray, List.set_cons_zero, List.set_cons_succ]
    refine wpAnyH_take (i := 8) (oi := ({ dst := some 17, op := Go.Op.call { callee := Go.Callee.value (Go.Operand.func 7), args := #[Go.Operand.tmp 16], argTypes := #[22] }, type := 22, pos := _, after := #[{ on := 7, ground := Go.Ground.data }, { on := 5, ground := Go.Ground.chain }, { on := 5, ground := Go.Ground.guard }], guard := some (5, false) } : Oper)) (v := undef) rfl (by kernel_rfl) (by kernel_rfl) (by kernel_rfl) (fun _ _ _ h => h) (Or.inr ⟨by rfl, rfl⟩) (by assumption) ?_
    simp only [Act.put, List.setIfInBounds_toArray, List.set_cons_zero, List.set_cons_succ]
    refine wpAnyH_take (i := 9) (oi := ({ dst := some 18, op := Go.Op.move (Go.Operand.tmp 2), type := 22, pos := _, after := #[{ on := 5, ground := Go.Ground.guard }], guard := some (5, false) } : Oper)) (v := undef) rfl (by kernel_rfl) (by kernel_rfl) (by kernel_rfl) (fun _ _ _ h => h) (Or.inr ⟨by rfl, rfl⟩) (by assumption) ?_
    simp only [Act.put, List.setIfInBounds_toArray, List.set_cons_zero, List.set_cons_succ]
    refine wpAnyH_take (i := 10) (oi := ({ dst := some 19, op := Go.Op.call { callee := Go.Callee.builtin Go.Builtin.append, args := #[Go.Operand.tmp 17, Go.Operand.tmp 18], argTypes := #[22, 22] }, type := 22, pos := _, after := #[{ on := 8, ground := Go.Ground.data }, { on := 9, ground := Go.Ground.data }, { on := 8, ground := Go.Ground.chain }, { on := 5, ground := Go.Ground.guard }], guard := some (5, false) } : Oper)) (v := undef) rfl (by kernel_rfl) (by kernel_rfl) (by kernel_rfl) (fun _ _ _ h => h) (Or.inr ⟨by rfl, rfl⟩) (by assumption) ?_
    simp only [Act.put, List.setIfInBounds_toArray, List.set_cons_zero, List.set_cons_succ]
    refine wpAnyH_take (i := 11) (oi := ({ dst := some 20, op := Go.Op.call { callee := Go.Callee.value (Go.Operand.func 15), args := #[Go.Operand.tmp 15, Go.Operand.tmp 19], argTypes := #[24, 22] }, type := 22, pos := _, after := #[{ on := 6, ground := Go.Ground.data }, { on := 10, ground := Go.Ground.data }, { on := 10, ground := Go.Ground.chain }, { on := 5, ground := Go.Ground.guard }], guard := some (5, false) } : Oper)) (v := undef) rfl (by kernel_rfl) (by kernel_rfl) (by kernel_rfl) (fun _ _ _ h => h) (Or.inr ⟨by rfl, rfl⟩) (by assumption) ?_
    simp only [Act.put, List.setIfInBounds_toArray, List.set_cons_zero, List.set_cons_succ]
    refine wpAnyH_take (i := 12) (oi := ({ dst := some 21, op := Go.Op.call { callee := Go.Callee.builtin Go.Builtin.len, args := #[Go.Operand.tmp 20], argTypes := #[22] }, type := 3, pos := _, after := #[{ on := 11, ground := Go.Ground.data }, { on := 5, ground := Go.Ground.guard }], guard := some (5, false) } : Oper)) (v := undef) rfl (by kernel_rfl) (by kernel_rfl) (by kernel_rfl) (fun _ _ _ h => h) (Or.inr ⟨by rfl, rfl⟩) (by assumption) ?_
    simp only [Act.put, List.setIfInBounds_toArray, List.set_cons_zero, List.set_cons_succ]
    refine wpAnyH_take (i := 13) (oi := ({ dst := some 22, op := Go.Op.fieldAddr 24 (Go.Operand.tmp 3) 0, type := 0, pos := _, after := #[{ on := 5, ground := Go.Ground.guard }], guard := some (5, false) } : Oper)) (v := undef) rfl (by kernel_rfl) (by kernel_rfl) (by kernel_rfl) (fun _ _ _ h => h) (Or.inr ⟨by rfl, rfl⟩) (by assumption) ?_
    simp only [Act.put, List.setIfInBounds_toArray, List.set_cons_zero, List.set_cons_succ]
    refine wpAnyH_take (i := 14) (oi := ({ dst := some 23, op := Go.Op.load 3 (Go.Operand.tmp 22), type := 3, pos := _, after := #[{ on := 13, ground := Go.Ground.data }, { on := 5, ground := Go.Ground.guard }], guard := some (5, false) } : Oper)) (v := undef) rfl (by kernel_rfl) (by kernel_rfl) (by kernel_rfl) (fun _ _ _ h => h) (Or.inr ⟨by rfl, rfl⟩) (by assumption) ?_
    simp only [Act.put, List.setIfInBounds_toArray, List.set_cons_zero, List.set_cons_succ]
    refine wpAnyH_take (i := 15) (oi := ({ dst := some 24, op := Go.Op.binOp Go.BinOp.neq 3 (Go.Operand.tmp 21) (Go.Operand.tmp 23) 3, type := 4, pos := _, after := #[{ on := 12, ground := Go.Ground.data }, { on := 14, ground := Go.Ground.data }, { on := 5, ground := Go.Ground.guard }], guard := some (5, false) } : Oper)) (v := undef) rfl (by kernel_rfl) (by kernel_rfl) (by kernel_rfl) (fun _ _ _ h => h) (Or.inr ⟨by rfl, rfl⟩) (by assumption) ?_
    simp only [Act.put, List.setIfInBounds_toArray, List.set_cons_zero, List.set_cons_succ]
    refine wpAnyH_take (i := 16) (oi := ({ dst := some 25, op := Go.Op.pick (Go.Operand.tmp 14) (Go.Operand.const (Go.Value.bool true)) (Go.Operand.tmp 24), type := 4, pos := _, after := #[{ on := 5, ground := Go.Ground.data }, { on := 15, ground := Go.Ground.data }], guard := none } : Oper)) (v := .bool true) rfl (by kernel_rfl) (by kernel_rfl) (by kernel_rfl) (fun _ _ _ h => h) (Or.inl ⟨by rfl, ?_⟩) (by assumption) ?_
    · (intro w hSw; (try dsimp only at hSw); go_simp; try (first | with_reducible rfl | (simp; done) | omega | (simp; omega)))
    simp only [Act.put, List.setIfInBounds_toArray, List.set_cons_zero, List.set_cons_succ]
    refine wpAnyH_done (by kernel_rfl) ?_ _
    have hBz := bcat2 hB0 hBc
    go_wp2
    go_ret
    exact ⟨by rw [HTF.out]; rfl, hBz⟩
end Go.Proofs.YtgejngpioldhpaaGreatDoor

namespace Go.Proofs.YtgejngpioldhpaaGreatDoor
open Go Go.RowKit

theorem news_of {W : World} {pb po : Nat} {zs : List Int} (h : ∀ j, j < zs.length → W.cell? ⟨pb, po + j, none⟩ = some (.int .i64 (zs[j]?.getD 0))) : ∀ j u, (zs.map (Value.int .i64))[j]? = some u → W.cell? ((⟨pb, po, none⟩ : Addr).add j) = some u := by
  intro j v hj
  rw [List.getElem?_map] at hj
  obtain ⟨z, hz, rfl⟩ := Option.map_eq_some_iff.1 hj
  have hjl := (List.getElem?_eq_some_iff.1 hz).1
  have := h j hjl
  rw [hz] at this
  rw [show (⟨pb, po, none⟩ : Addr).add j = ⟨pb, po + j, none⟩ by unfold Addr.add; split <;> simp_all]
  exact this
theorem li_app (xs ys : List Nat) : li xs ++ li ys = li (xs ++ ys) := by simp [li]
theorem li_at {xs : List Nat} {a : Nat} (h : a < xs.length) : (li xs)[a]?.getD 0 = ((xs[a]?.getD 0 : Nat) : Int) := by simp [li, h]
/-- The law's together, of two subgroups. -/
theorem tog_ok (n e : Nat) (v l m : Value) (zs : List Int) (q r : Nat → Bool) (T : Bool) (w : World) (hv : Sl w v zs) (hg : IsGrp n zs e) (hl : Sl w l (li (lst n q))) (hm : Sl w m (li (lst n r))) (hq : q e = true) (hr : r e = true) (hT : T = true ↔ TogP n zs e q r) :
    Calls Tryz.prog 22 #[.agg #[.int .i64 n, v], l, m] w fun x w' => x = .returned (.bool T) ∧ Below w.heap.size w w' := by
  have hn := hg.tab.le
  have hlq : 0 < (lst n q).length := List.length_pos_of_mem (mem_lst.2 ⟨hg.elt, hq⟩)
  have hlr : 0 < (lst n r).length := List.length_pos_of_mem (mem_lst.2 ⟨hg.elt, hr⟩)
  obtain ⟨p, hp⟩ := mkd_test n zs e (fun a => decide (a ∈ lst n q ++ lst n r))
  have hi := tog_iff hg hq hr hp
  obtain ⟨v1, v2, v3, rfl⟩ := sl_slice hv
  have hl0 := hl
  have hm0 := hm
  obtain ⟨la, lc, lb, lo, rfl, hlR, hlp, hlc, hlm⟩ := hl0
  obtain ⟨ma, mc, mb, mo, rfl, hmR, hmp, hmc, hmm⟩ := hm0
  obtain rfl := hlR.at_ (by rw [li_len]; exact hlq)
  obtain rfl := hmR.at_ (by rw [li_len]; exact hlr)
  rw [li_len] at hl hm hlc hmc ⊢
  rw [li_len]
  have hf : ∀ a, a < (lst n q).length → (lst n q)[a]?.getD 0 ∈ lst n q := fun a ha => by rw [List.getElem?_eq_getElem ha]; exact List.getElem_mem _
  have hf' : ∀ a, a < (lst n r).length → (lst n r)[a]?.getD 0 ∈ lst n r := fun a ha => by rw [List.getElem?_eq_getElem ha]; exact List.getElem_mem _
  have hlw : ∀ W, Below w.heap.size w W → ∀ a, a < (lst n q).length → W.cell? ⟨lb, lo + a, none⟩ = some (.int .i64 (((lst n q)[a]?.getD 0 : Nat) : Int)) := fun W hW a ha => by
    rw [← li_at ha]
    exact (hlR.below hW hlp).cell a (by rw [li_len]; exact ha)
  have hmw : ∀ W, Below w.heap.size w W → ∀ a, a < (lst n r).length → W.cell? ⟨mb, mo + a, none⟩ = some (.int .i64 (((lst n r)[a]?.getD 0 : Nat) : Int)) := fun W hW a ha => by
    rw [← li_at ha]
    exact (hmR.below hW hmp).cell a (by rw [li_len]; exact ha)
  refine tog_walk n v1 v2 v3 lb lo lc mb mo mc zs (li (lst n q)) (li (lst n r)) (lst n q).length (lst n r).length (lst n fun a => q a && r a).length (lst n p).length (fun a => (lst n q)[a]?.getD 0) (fun a => (lst n r)[a]?.getD 0) T w (Nat.le_trans (lst_len _ _) hn) (Nat.le_trans (lst_len _ _) hn) hlr
    (hide (li_len _)) (hide (li_len _)) (hide fun a ha => (mem_lst.1 (hf a ha)).1) (hide fun a ha => (mem_lst.1 (hf' a ha)).1) (hide hlw) (hide hmw)
    (hide fun W hW => news_of fun j hj => (hmR.below hW hmp).cell j hj) (hide fun W hW => ?_) (hide fun W hW => ?_) (hide fun W u hW hu => ?_) (hide fun W a b hW ha hb => M_ok n (.slice v1 v2 v3) zs a b W hg.tab (hv.below hW) ha hb) (hide ?_)
  · refine (both_ok _ _ (li (lst n q)) (li (lst n r)) W (hl.below hW) (hm.below hW) (by rw [li_len]; exact Nat.le_trans (lst_len _ _) hn)).mono ?_
    rintro x W' ⟨rv, rfl, hrow, hb⟩
    obtain ⟨a, c, rfl⟩ := row_len hrow
    rw [both_li, li_len]
    exact ⟨a, c, rfl, hb⟩
  · have := own_any _ (li (lst n q)) W (hl.below hW) (by rw [li_len]; have := lst_len n q; omega)
    rw [li_len] at this
    exact this
  · rw [li_app] at hu
    refine (span_ok n e (.slice v1 v2 v3) u zs (lst n q ++ lst n r) p W (hv.below hW) hg hu (fun x hx => ?_) (by rw [List.length_append]; have := lst_len n q; have := lst_len n r; omega) hp).mono ?_
    · rcases List.mem_append.1 hx with h | h
      · exact (mem_lst.1 h).1
      · exact (mem_lst.1 h).1
    · rintro x W' ⟨rv, rfl, hrow, hb⟩
      obtain ⟨a, c, rfl⟩ := row_len hrow
      rw [li_len]
      exact ⟨a, c, rfl, hb⟩
  · rw [hT, ← hi]
    refine and_congr_right fun _ => and_congr_right fun _ => ⟨fun h a b ha hb => h _ _ (hf a ha) (hf' b hb), fun h a b ha hb => ?_⟩
    obtain ⟨i, hi1, rfl⟩ := List.mem_iff_getElem.1 ha
    obtain ⟨k, hk1, rfl⟩ := List.mem_iff_getElem.1 hb
    have := h i k hi1 hk1
    simpa [List.getElem?_eq_getElem hi1, List.getElem?_eq_getElem hk1] using this
end Go.Proofs.YtgejngpioldhpaaGreatDoor

namespace Go.Proofs.YtgejngpioldhpaaGreatDoor
open Go Go.RowKit

structure CR (n : Nat) (w1 : World) (v1 : Option Addr) (v2 v3 mb mo Y mc : Nat) (ys : List Int) (g s : Nat) (xa : Option Addr) (xl xc : Nat) (xs : List Int) (K L : Nat) (D : Bool) : Prop where
  len : xs.length = xl
  le : xl ≤ 60
  cell : ∀ W, Below w1.heap.size w1 W → W.cell? ⟨g, s, none⟩ = some (.slice xa xl xc)
  both : ∀ W, Below w1.heap.size w1 W → Calls Tryz.prog 14 #[.slice xa xl xc, .slice (some ⟨mb, mo, none⟩) Y mc] W fun x W' => ∃ a c, x = .returned (.slice a K c) ∧ Below W.heap.size W W'
  own : ∀ W, Below w1.heap.size w1 W → Calls Tryz.prog 7 #[.slice xa xl xc] W fun x W' => ∃ r, x = .returned r ∧ W'.ownsRow W.heap.size 3 1 r xl (xs.map (Value.int .i64)) ∧ Below W.heap.size W W'
  span : ∀ W u, Below w1.heap.size w1 W → Sl W u (xs ++ ys) → Calls Tryz.prog 15 #[.agg #[.int .i64 n, .slice v1 v2 v3], u] W fun x W' => ∃ a c, x = .returned (.slice a L c) ∧ Below W.heap.size W W'
  dec : D = true ↔ K = 1 ∧ L = n

structure CS (n e : Nat) (zs : List Int) (q : Nat → Bool) (w1 : World) (v1 : Option Addr) (v2 v3 mb mo Y mc : Nat) (ys : List Int) (g m : Nat) (xa : Nat → Option Addr) (xl xc : Nat → Nat) (xs : Nat → List Int) (K L : Nat → Nat) (D : Nat → Bool) (P : List (Nat → Bool)) (ms : List (List Int)) : Prop where
  at_ : ∀ s, s < m → CR n w1 v1 v2 v3 mb mo Y mc ys g s (xa s) (xl s) (xc s) (xs s) (K s) (L s) (D s)
  sl : ∀ s, s < m → Sl w1 (.slice (xa s) (xl s) (xc s)) (xs s)
  inv : SInv n zs e P P.length 0
  perm : ms.Perm (LL n P)
  srt : srt ms
  all : ((List.range m).filter D).map xs = ms.filter (cplB n zs e q)

theorem subs_cr (n e : Nat) (v1 : Option Addr) (v2 v3 mb mo Y mc : Nat) (zs : List Int) (q : Nat → Bool) (w w1 : World) (x : Ending) (hg : IsGrp n zs e) (hv : Sl w (.slice v1 v2 v3) zs) (hl : Sl w (.slice (some ⟨mb, mo, none⟩) Y mc) (li (lst n q))) (hq : q e = true) (hR : SubsR n zs e w x w1) :
    ∃ g m rc xa xl xc xs K L D P ms, x = .returned (.slice (some ⟨g, 0, none⟩) m rc) ∧ m ≤ rc ∧ rc ≤ maxLen ∧ m ≤ P.length ∧ Below w.heap.size w w1 ∧ CS n e zs q w1 v1 v2 v3 mb mo Y mc (li (lst n q)) g m xa xl xc xs K L D P ms := by
  obtain ⟨r, P, us, ms, rfl, hSI, hpm, hsr, hrow, hls, hb⟩ := hR.ans
  have hn := hg.tab.le
  have hms := hls.1
  have hml : ms.length = P.length := by rw [hpm.length_eq, LL_len]
  have hpos : 0 < us.length := by
    have := List.length_pos_of_mem hSI.one
    rw [bits_len] at this
    omega
  obtain ⟨g, rc, cur, rfl, hgB, hh, hcs⟩ : ∃ g rc cur, r = .slice (some ⟨g, 0, none⟩) us.length rc ∧ w.heap.size ≤ g ∧ w1.heap[g]? = some (.cells cur 22) ∧ True := by
    rcases hrow.2 with ⟨_, h⟩ | ⟨g, cap, cur, h1, h2, h3, _⟩
    · omega
    · exact ⟨g, cap, cur, h1, h2, h3, trivial⟩
  have hev := vals_ev hls
  have hrow' : w1.ownsRow w.heap.size 22 1 (.slice (some ⟨g, 0, none⟩) us.length rc) us.length (ev (vA us) (vL us) (vC us) (List.range us.length)) := by rw [hev]; exact hrow
  have hSE : SlE w1 (.slice (some ⟨g, 0, none⟩) us.length rc) (vA us) (vL us) (vC us) (List.range us.length) := SlE.of_own (by rw [List.length_range]) hrow' (Nat.lt_of_le_of_lt (Nat.zero_le _) (Array.getElem?_eq_some_iff.1 hh).1)
  have hcap : us.length ≤ rc ∧ rc ≤ maxLen := by
    obtain ⟨_, _, _, _, h1, _, _, _, h4, h5⟩ := hSE
    injection h1 with _ _ h1
    rw [List.length_range] at h4
    subst h1
    exact ⟨h4, h5⟩
  have hsl : ∀ s, s < us.length → Sl w1 (.slice (vA us s) (vL us s) (vC us s)) (ms[s]?.getD []) := fun s hs => vals_sl hls (g := g) rfl (fun _ _ _ => rfl) (Nat.le_refl _) hs
  have hst : ∀ s, s < us.length → ms[s]?.getD [] = li (lst n (pset (ms[s]?.getD []))) ∧ subT n zs e (pset (ms[s]?.getD [])) = true := fun s hs => by
    have hmem : ms[s]?.getD [] ∈ ms := by rw [List.getElem?_eq_getElem (by omega)]; exact List.getElem_mem _
    obtain ⟨p, hp1, hp2⟩ := List.mem_map.1 (hpm.mem_iff.1 hmem)
    have hp2 : li (lst n p) = ms[s]?.getD [] := hp2
    refine ⟨set_lst (by rw [← hp2, lst_fault]), ?_⟩
    rw [← hp2, subT_congr hg (fun a ha => pset_lst ha)]
    exact hSI.sub p hp1
  refine ⟨g, us.length, rc, vA us, vL us, vC us, fun s => ms[s]?.getD [], fun s => (lst n fun a => pset (ms[s]?.getD []) a && q a).length, fun s => (lst n (mdq n zs e (fun a => decide (a ∈ lst n (pset (ms[s]?.getD [])) ++ lst n q)))).length, fun s => cplB n zs e q (ms[s]?.getD []), P, ms, rfl, hcap.1, hcap.2, by omega, hb, fun s hs => ?_, hsl, hSI, hpm, hsr, ?_⟩
  · obtain ⟨hs1, hs2⟩ := hst s hs
    have hS := hsl s hs
    generalize ms[s]?.getD [] = xs at *
    have hxl : xs.length = vL us s := by
      obtain ⟨_, _, _, _, h1, _⟩ := hS
      injection h1 with _ h1 _
      exact h1.symm
    have hx60 : xs.length ≤ 60 := by
      rw [hs1, li_len]
      exact Nat.le_trans (lst_len _ _) hn
    refine ⟨hxl, by omega, fun W hW => ?_, fun W hW => ?_, fun W hW => ?_, fun W u hW hu => ?_, ?_⟩
    · have h1 := ev_cell hrow' (j := s) (by rw [List.length_range]; exact hs)
      rw [show (List.range us.length)[s]?.getD 0 = s by simp [hs]] at h1
      exact below_cell hW h1
    · refine (both_ok _ _ xs (li (lst n q)) W (hS.below hW) (hl.below (bcat2 hb hW)) hx60).mono ?_
      rintro y W' ⟨rv, rfl, hrow9, hb9⟩
      obtain ⟨a, c, rfl⟩ := row_len hrow9
      have h7 : (xs.filter fun a => decide (a ∈ li (lst n q))).length = (lst n fun a => pset xs a && q a).length := by
        conv => lhs; rw [hs1]
        rw [both_li, li_len]
      rw [h7]
      exact ⟨a, c, rfl, hb9⟩
    · have := own_any _ xs W (hS.below hW) (by omega)
      rw [hxl] at this
      exact this
    · rw [hs1, li_app] at hu
      refine (span_ok n e (.slice v1 v2 v3) u zs (lst n (pset xs) ++ lst n q) (mdq n zs e (fun a => decide (a ∈ lst n (pset xs) ++ lst n q))) W (hv.below (bcat2 hb hW)) hg hu (fun x hx => ?_) (by rw [List.length_append]; have := lst_len n (pset xs); have := lst_len n q; omega) (mdq_iff n zs e _)).mono ?_
      · rcases List.mem_append.1 hx with h | h
        · exact (mem_lst.1 h).1
        · exact (mem_lst.1 h).1
      · rintro x W' ⟨rv, rfl, hrow9, hb9⟩
        obtain ⟨a, c, rfl⟩ := row_len hrow9
        rw [li_len]
        exact ⟨a, c, rfl, hb9⟩
    · unfold cplB
      rw [cmpB_iff hq hs2 (mdq_iff n zs e _), cpl_iff hg hq hs2 (mdq_iff n zs e _)]
  · rw [← range_filter, hms]
end Go.Proofs.YtgejngpioldhpaaGreatDoor

namespace Go.Proofs.YtgejngpioldhpaaGreatDoor
open Go Go.RowKit

structure CplR (n e : Nat) (zs : List Int) (q : Nat → Bool) (w : World) (x : Ending) (w' : World) : Prop where
  ans : ∃ (r : Value) (P : List (Nat → Bool)) (ms : List (List Int)), x = .returned r ∧ SInv n zs e P P.length 0 ∧ ms.Perm (LL n P) ∧ srt ms ∧ SlL w' r (ms.filter (cplB n zs e q)) ∧ Below w.heap.size w w'

set_option maxRecDepth 100000 in
set_option maxHeartbeats 8000000 in
theorem c12_ok (n e gb lb : Nat) (v1 : Option Addr) (v2 v3 mb mo Y mc : Nat) (zs : List Int) (q : Nat → Bool) (w : World) (hg : IsGrp n zs e) (h24 : n ≤ 24) (hv : Sl w (.slice v1 v2 v3) zs) (hl : Sl w (.slice (some ⟨mb, mo, none⟩) Y mc) (li (lst n q))) (hq : q e = true) (hG : BoxG w gb n (.slice v1 v2 v3)) (hL : Boxed w lb 22 (.slice (some ⟨mb, mo, none⟩) Y mc)) :
    Calls Tryz.prog 12 #[.pointer (some ⟨gb, 0, none⟩), .pointer (some ⟨lb, 0, none⟩)] w (CplR n e zs q w) := by
  obtain ⟨i0, hi, hz0, hz1, hz2⟩ := info_parts info22b
  obtain ⟨i3, h3, hy0, hy1, hy2⟩ := info_parts info3b
  have hn := hg.tab.le
  have hYL : (li (lst n q)).length = Y := by
    obtain ⟨_, _, _, _, h1, _⟩ := id hl
    injection h1 with _ h1 _
    exact h1.symm
  have hY0 : 0 < Y := by rw [← hYL, li_len]; exact List.length_pos_of_mem (mem_lst.2 ⟨hg.elt, hq⟩)
  have hY : Y ≤ 60 := by rw [← hYL, li_len]; exact Nat.le_trans (lst_len _ _) hn
  have HNW := hide (show ∀ W, Below w.heap.size w W → ∀ j u, ((li (lst n q)).map (Value.int .i64))[j]? = some u → W.cell? ((⟨mb, mo, none⟩ : Addr).add j) = some u by
    obtain ⟨pb, po, h1, _, h2⟩ := sl_news hl (by omega)
    injection h1 with h1
    injection h1 with h1 h1' _
    subst h1 h1'
    exact h2)
  obtain ⟨g0, g1, _, _⟩ := hG.two
  have l0 : w.cell? ⟨lb, 0, none⟩ = some (.slice (some ⟨mb, mo, none⟩) Y mc) := hL.cell
  have HSU := hide (subs_ok n e (.slice v1 v2 v3) zs w hv hg h24)
  have hP24 : ∀ P, SInv n zs e P P.length 0 → P.length ≤ 16777216 := fun P h => h.len h24
  have HCR := hide (fun x w1 => subs_cr n e v1 v2 v3 mb mo Y mc zs q w w1 x hg hv hl hq)
  have HYL := hide hYL
  clear hYL
  generalize li (lst n q) = ys at *
  go_enter Tryz.func12, Tryz.ntmps12
  go_wp2_with fail
  refine HSU.out.mono ?_
  intro x w1 hR
  obtain ⟨g, m, rc, xa, xl, xc, xs, K, L, D, P, ms, rfl, hmr, hrm, hmP, hB1, hCS⟩ := HCR.out x w1 hR
  have hP := hP24 P hCS.inv
  have HAT := hide hCS.at_
  have HCS := hide hCS
  clear hCS hR HSU HCR hP24
  have g0 := below_cell hB1 g0
  have g1 := below_cell hB1 g1
  have l0 := below_cell hB1 l0
  have hwp : 0 < w1.heap.size := Nat.lt_of_lt_of_le (Nat.lt_of_le_of_lt (Nat.zero_le _) hG.lt) hB1.size
  clear hG hL hv hl
  go_wp2
  go_loopw [3, 5] (fun r i wr => ∃ k : Nat, k ≤ m ∧ i = .int .i64 k ∧ wr.ownsRow w1.heap.size 22 1 r (ev xa xl xc ((List.range k).filter D)).length (ev xa xl xc ((List.range k).filter D)) ∧ Below w1.heap.size w1 wr) (fun _ i _ => m - (intOf i).toNat)
  case atStart => exact ⟨0, Nat.zero_le _, rfl, World.ownsRow_nil _ _ _ _, Below.refl _ _⟩
  case round =>
    obtain ⟨k, hk, rfl, hrow, hB⟩ := hrel
    have HFL := hide (show (ev xa xl xc ((List.range k).filter D)).length ≤ k by
      rw [ev_len]
      exact Nat.le_trans (List.length_filter_le _ _) (by rw [List.length_range]; exact Nat.le_refl _))
    have HRS := hide (show (List.range (k + 1)).filter D = (List.range k).filter D ++ (if D k then [k] else []) by
      rw [List.range_succ, List.filter_append]
      congr 1
      by_cases h : D k <;> simp [h])
    by_cases hlt : k < m
    · have hki : (k : Int) < (m : Int) := by omega
      have hC := HAT.out k hlt
      have HST := hide (fun h : D k = true => show ev xa xl xc ((List.range (k + 1)).filter D) = ev xa xl xc ((List.range k).filter D) ++ [.slice (xa k) (xl k) (xc k)] by
        rw [HRS.out, if_pos h]; simp [ev])
      have HSF := hide (fun h : D k = false => show ev xa xl xc ((List.range (k + 1)).filter D) = ev xa xl xc ((List.range k).filter D) by
        rw [HRS.out, h]; simp)
      clear HRS
      generalize hdk : D k = dk at *
      clear hdk
      generalize hka : xa k = ka at *
      generalize hkl : xl k = kl at *
      generalize hkc : xc k = kc at *
      generalize hxk : xs k = xk at *
      generalize hKk : K k = Kk at *
      generalize hLk : L k = Lk at *
      clear hka hkl hkc hxk hKk hLk
      generalize hF : ev xa xl xc ((List.range k).filter D) = F at *
      clear hF
      have hfl := HFL.out
      clear HFL
      obtain ⟨ra, rcap, rfl⟩ := own_slice' hrow
      have HRW := hide hrow
      clear hrow
      have hkl60 := hC.le
      have HXL := hide hC.len
      have HBO := hide hC.both
      have HOW := hide hC.own
      have HSP := hide hC.span
      have HDC := hide hC.dec
      have hS : ∀ W, Below wr.heap.size wr W → (Below wr.heap.size wr W ∧ W.cell? ⟨gb, 0, none⟩ = some (.int .i64 n) ∧ W.cell? ⟨gb, 1, none⟩ = some (.slice v1 v2 v3) ∧ W.cell? ⟨lb, 0, none⟩ = some (.slice (some ⟨mb, mo, none⟩) Y mc) ∧ W.cell? ⟨g, k, none⟩ = some (.slice ka kl kc)) := fun W h => ⟨h, below_cell (bcat2 hB h) g0, below_cell (bcat2 hB h) g1, below_cell (bcat2 hB h) l0, hC.cell W (bcat2 hB h)⟩
      have hBc : Below wr.heap.size wr wr.drew := bdrew (Below.refl _ _)
      have hS0 := hS _ hBc
      have hwp : 0 < wr.heap.size := Nat.lt_of_lt_of_le hwp hB.size
      clear hC
      by_cases hK : Kk = 1
      · subst hK
        by_cases hL : Lk = n
        · have hLb : (((Lk : Nat) : Int) == ((n : Nat) : Int)) = true := by simp [hL]
          have HDT := hide (HDC.out.2 ⟨rfl, hL⟩)
          clear hL
          go_wp2_with fail
          refine wp_region_held_drew (S := fun W => Below wr.heap.size wr W ∧ W.cell? ⟨gb, 0, none⟩ = some (.int .i64 n) ∧ W.cell? ⟨gb, 1, none⟩ = some (.slice v1 v2 v3) ∧ W.cell? ⟨lb, 0, none⟩ = some (.slice (some ⟨mb, mo, none⟩) Y mc) ∧ W.cell? ⟨g, k, none⟩ = some (.slice ka kl kc)) (by kernel_rfl) hS0 (fun hHeld => ?_)
          refine wpAnyH_take (i := 0) (oi := ({ dst := some 14, op := Go.Op.move (Go.Operand.tmp 4), type := 25, pos := _, after := _, guard := none } : Oper)) (v := ?_) rfl (by kernel_rfl) (by kernel_rfl) (by kernel_rfl) (fun _ _ _ h => h) (Or.inl ⟨by rfl, ?_⟩) (by assumption) ?_
          rotate_left
          · (intro w hSw; (try dsimp only at hSw); go_simp; try with_reducible rfl)
          simp only [Act.put, List.setIfInBounds_toArray, List.set_cons_zero, List.set_cons_succ]
          refine wpAnyH_take (i := 1) (oi := ({ dst := some 15, op := Go.Op.move (Go.Operand.tmp 5), type := 3, pos := _, after := _, guard := none } : Oper)) (v := ?_) rfl (by kernel_rfl) (by kernel_rfl) (by kernel_rfl) (fun _ _ _ h => h) (Or.inl ⟨by rfl, ?_⟩) (by assumption) ?_
          rotate_left
          · (intro w hSw; (try dsimp only at hSw); go_simp; try with_reducible rfl)
          simp only [Act.put, List.setIfInBounds_toArray, List.set_cons_zero, List.set_cons_succ]
          refine wpAnyH_take (i := 2) (oi := ({ dst := some 16, op := Go.Op.indexAddr 25 (Go.Operand.tmp 14) (Go.Operand.tmp 15), type := 0, pos := _, after := _, guard := none } : Oper)) (v := ?_) rfl (by kernel_rfl) (by kernel_rfl) (by kernel_rfl) (fun _ _ _ h => h) (Or.inl ⟨by rfl, ?_⟩) (by assumption) ?_
          rotate_left
          · (intro w hSw; (try dsimp only at hSw); go_simp; try with_reducible rfl)
          simp only [Act.put, List.setIfInBounds_toArray, List.set_cons_zero, List.set_cons_succ]
          refine wpAnyH_take (i := 3) (oi := ({ dst := some 17, op := Go.Op.load 22 (Go.Operand.tmp 16), type := 22, pos := _, after := _, guard := none } : Oper)) (v := ?_) rfl (by kernel_rfl) (by kernel_rfl) (by kernel_rfl) (fun _ _ _ h => h) (Or.inl ⟨by rfl, ?_⟩) (by assumption) ?_
          rotate_left
          · (intro w hSw; (try dsimp only at hSw); go_simp; try with_reducible rfl)
          simp only [Act.put, List.setIfInBounds_toArray, List.set_cons_zero, List.set_cons_succ]
          refine wpAnyH_take (i := 4) (oi := ({ dst := some 18, op := Go.Op.load 22 (Go.Operand.tmp 1), type := 22, pos := _, after := _, guard := none } : Oper)) (v := ?_) rfl (by kernel_rfl) (by kernel_rfl) (by kernel_rfl) (fun _ _ _ h => h) (Or.inl ⟨by rfl, ?_⟩) (by assumption) ?_
          rotate_left
          · (intro w hSw; (try dsimp only at hSw); go_simp; try with_reducible rfl)
          simp only [Act.put, List.setIfInBounds_toArray, List.set_cons_zero, List.set_cons_succ]
          refine wpAnyH_ready (rs := [5]) (by kernel_rfl) (by simp) (AllReadyH.cons (o := ({ dst := some 19, op := Go.Op.call { callee := Go.Callee.value (Go.Operand.func 14), args := #[Go.Operand.tmp 17, Go.Operand.tmp 18], argTypes := #[22, 22] }, type := 22, pos := _, after := _, guard := none } : Oper)) rfl (fun KK hK => ?_) AllReadyH.nil)
          go_simp
          refine (HBO.out _ (bcat2 hB hBc)).mono ?_
          rintro x1 U1 ⟨ra9, rc9, rfl, hl1⟩
          have hBc := bcat2 hBc hl1
          try go_wp2_with fail
          refine hK.out _ _ (hS _ hBc) (fun hHeld => ?_)
          clear hK
          try simp only [Act.put, List.setIfInBounds_toArray, List.set_cons_zero, List.set_cons_succ]
          refine wpAnyH_take (i := 6) (oi := ({ dst := some 20, op := Go.Op.call { callee := Go.Callee.builtin Go.Builtin.len, args := #[Go.Operand.tmp 19], argTypes := #[22] }, type := 3, pos := _, after := _, guard := none } : Oper)) (v := ?_) rfl (by kernel_rfl) (by kernel_rfl) (by kernel_rfl) (fun _ _ _ h => h) (Or.inl ⟨by rfl, ?_⟩) (by assumption) ?_
          rotate_left
          · (intro w hSw; (try dsimp only at hSw); go_simp; try with_reducible rfl)
          simp only [Act.put, List.setIfInBounds_toArray, List.set_cons_zero, List.set_cons_succ]
          refine wpAnyH_take (i := 7) (oi := ({ dst := some 21, op := Go.Op.binOp Go.BinOp.eql 3 (Go.Operand.tmp 20) (Go.Operand.const (Go.Value.int Go.IntKind.i64 1)) 3, type := 4, pos := _, after := _, guard := none } : Oper)) (v := .bool true) rfl (by kernel_rfl) (by kernel_rfl) (by kernel_rfl) (fun _ _ _ h => h) (Or.inl ⟨by rfl, ?_⟩) (by assumption) ?_
          · (intro w hSw; (try dsimp only at hSw); go_simp; try (first | with_reducible rfl | (simp; done) | omega | (simp; omega)))
          simp only [Act.put, List.setIfInBounds_toArray, List.set_cons_zero, List.set_cons_succ]
          refine wpAnyH_take (i := 8) (oi := ({ dst := some 22, op := Go.Op.move (Go.Operand.tmp 21), type := 4, pos := _, after := _, guard := none } : Oper)) (v := .bool true) rfl (by kernel_rfl) (by kernel_rfl) (by kernel_rfl) (fun _ _ _ h => h) (Or.inl ⟨by rfl, ?_⟩) (by assumption) ?_
          · (intro w hSw; (try dsimp only at hSw); go_simp; try (first | with_reducible rfl | (simp; done) | omega | (simp; omega)))
          simp only [Act.put, List.setIfInBounds_toArray, List.set_cons_zero, List.set_cons_succ]
          refine wpAnyH_take (i := 9) (oi := ({ dst := some 23, op := Go.Op.load 24 (Go.Operand.tmp 0), type := 24, pos := _, after := _, guard := some (8, true) } : Oper)) (v := ?_) rfl (by kernel_rfl) (by kernel_rfl) (by kernel_rfl) (fun _ _ _ h => h) (Or.inl ⟨by rfl, ?_⟩) (by assumption) ?_
          rotate_left
          · (intro w hSw; (try dsimp only at hSw); go_simp; try with_reducible rfl)
          simp only [Act.put, List.setIfInBounds_toArray, List.set_cons_zero, List.set_cons_succ]
          refine wpAnyH_take (i := 10) (oi := ({ dst := some 24, op := Go.Op.move (Go.Operand.tmp 4), type := 25, pos := _, after := _, guard := some (8, true) } : Oper)) (v := ?_) rfl (by kernel_rfl) (by kernel_rfl) (by kernel_rfl) (fun _ _ _ h => h) (Or.inl ⟨by rfl, ?_⟩) (by assumption) ?_
          rotate_left
          · (intro w hSw; (try dsimp only at hSw); go_simp; try with_reducible rfl)
          simp only [Act.put, List.setIfInBounds_toArray, List.set_cons_zero, List.set_cons_succ]
          refine wpAnyH_take (i := 11) (oi := ({ dst := some 25, op := Go.Op.move (Go.Operand.tmp 5), type := 3, pos := _, after := _, guard := some (8, true) } : Oper)) (v := ?_) rfl (by kernel_rfl) (by kernel_rfl) (by kernel_rfl) (fun _ _ _ h => h) (Or.inl ⟨by rfl, ?_⟩) (by assumption) ?_
          rotate_left
          · (intro w hSw; (try dsimp only at hSw); go_simp; try with_reducible rfl)
          simp only [Act.put, List.setIfInBounds_toArray, List.set_cons_zero, List.set_cons_succ]
          refine wpAnyH_take (i := 12) (oi := ({ dst := some 26, op := Go.Op.indexAddr 25 (Go.Operand.tmp 24) (Go.Operand.tmp 25), type := 0, pos := _, after := _, guard := some (8, true) } : Oper)) (v := ?_) rfl (by kernel_rfl) (by kernel_rfl) (by kernel_rfl) (fun _ _ _ h => h) (Or.inl ⟨by rfl, ?_⟩) (by assumption) ?_
          rotate_left
          · (intro w hSw; (try dsimp only at hSw); go_simp; try with_reducible rfl)
          simp only [Act.put, List.setIfInBounds_toArray, List.set_cons_zero, List.set_cons_succ]
          refine wpAnyH_take (i := 13) (oi := ({ dst := some 27, op := Go.Op.load 22 (Go.Operand.tmp 26), type := 22, pos := _, after := _, guard := some (8, true) } : Oper)) (v := ?_) rfl (by kernel_rfl) (by kernel_rfl) (by kernel_rfl) (fun _ _ _ h => h) (Or.inl ⟨by rfl, ?_⟩) (by assumption) ?_
          rotate_left
          · (intro w hSw; (try dsimp only at hSw); go_simp; try with_reducible rfl)
          simp only [Act.put, List.setIfInBounds_toArray, List.set_cons_zero, List.set_cons_succ]
          refine wpAnyH_take (i := 15) (oi := ({ dst := some 29, op := Go.Op.load 22 (Go.Operand.tmp 1), type := 22, pos := _, after := _, guard := some (8, true) } : Oper)) (v := ?_) rfl (by kernel_rfl) (by kernel_rfl) (by kernel_rfl) (fun _ _ _ h => h) (Or.inl ⟨by rfl, ?_⟩) (by assumption) ?_
          rotate_left
          · (intro w hSw; (try dsimp only at hSw); go_simp; try with_reducible rfl)
          simp only [Act.put, List.setIfInBounds_toArray, List.set_cons_zero, List.set_cons_succ]
          refine wpAnyH_take (i := 19) (oi := ({ dst := some 33, op := Go.Op.fieldAddr 24 (Go.Operand.tmp 0) 0, type := 0, pos := _, after := _, guard := some (8, true) } : Oper)) (v := ?_) rfl (by kernel_rfl) (by kernel_rfl) (by kernel_rfl) (fun _ _ _ h => h) (Or.inl ⟨by rfl, ?_⟩) (by assumption) ?_
          rotate_left
          · (intro w hSw; (try dsimp only at hSw); go_simp; try with_reducible rfl)
          simp only [Act.put, List.setIfInBounds_toArray, List.set_cons_zero, List.set_cons_succ]
          refine wpAnyH_take (i := 20) (oi := ({ dst := some 34, op := Go.Op.load 3 (Go.Operand.tmp 33), type := 3, pos := _, after := _, guard := some (8, true) } : Oper)) (v := ?_) rfl (by kernel_rfl) (by kernel_rfl) (by kernel_rfl) (fun _ _ _ h => h) (Or.inl ⟨by rfl, ?_⟩) (by assumption) ?_
          rotate_left
          · (intro w hSw; (try dsimp only at hSw); go_simp; try with_reducible rfl)
          simp only [Act.put, List.setIfInBounds_toArray, List.set_cons_zero, List.set_cons_succ]
          refine wpAnyH_ready (rs := [14]) (by kernel_rfl) (by simp) (AllReadyH.cons (o := ({ dst := some 28, op := Go.Op.call { callee := Go.Callee.value (Go.Operand.func 7), args := #[Go.Operand.tmp 27], argTypes := #[22] }, type := 22, pos := _, after := _, guard := some (8, true) } : Oper)) rfl (fun KK hK => ?_) AllReadyH.nil)
          go_simp
          refine (HOW.out _ (bcat2 hB hBc)).mono ?_
          rintro x2 U2 ⟨r, rfl, hown, hl2⟩
          have hBo := hBc
          have hBc := bcat2 hBc hl2
          try go_wp2_with fail
          refine hK.out _ _ (hS _ hBc) (fun hHeld => ?_)
          clear hK
          try simp only [Act.put, List.setIfInBounds_toArray, List.set_cons_zero, List.set_cons_succ]
          refine wpAnyH_ready (rs := [16]) (by kernel_rfl) (by simp) (AllReadyH.cons (o := ({ dst := some 30, op := Go.Op.call { callee := Go.Callee.builtin Go.Builtin.append, args := #[Go.Operand.tmp 28, Go.Operand.tmp 29], argTypes := #[22, 22] }, type := 22, pos := _, after := _, guard := some (8, true) } : Oper)) rfl (fun KK hK => ?_) AllReadyH.nil)
          rw [if_pos (by rfl)]
          refine wp_append_lies _ _ _ 22 rfl U1.heap.size 3 i3 (.int .i64 0) 1 8 under22b h3 hy0 hy1 hy2 rfl (by decide) r kl (xk.map (Value.int .i64)) rfl hown ⟨mb, mo, none⟩ Y mc (ys.map (Value.int .i64)) rfl (by rw [List.length_map, HYL.out, Nat.mul_one]) (HNW.out _ (bcat2 hB1 (bcat2 hB hBc))) (by intro v hv; obtain ⟨z, _, rfl⟩ := List.mem_map.1 hv; rfl) hY0 (by unfold maxLen; omega) (by omega) hl2.size _ rfl ?_
          intro g9 cap9 U3 hown3 hgr _ _
          have hB3 : Below wr.heap.size wr U3 := hBc.grown hgr hBc.size (fun t e9 => by have := owns_ge hown t e9; have := hBo.size; omega)
          have hsu : Sl U3 (.slice (some ⟨g9, 0, none⟩) (kl + Y) cap9) (xk ++ ys) := by
            refine Sl.of_own (base := U1.heap.size) ?_ (Nat.lt_of_lt_of_le hwp hB3.size)
            rw [List.length_append, HXL.out, HYL.out, List.map_append]
            exact hown3
          have hBc := hB3
          refine hK.out _ _ (hS _ hBc) (fun hHeld => ?_)
          clear hK
          try simp only [Act.put, List.setIfInBounds_toArray, List.set_cons_zero, List.set_cons_succ]
          refine wpAnyH_ready (rs := [17]) (by kernel_rfl) (by simp) (AllReadyH.cons (o := ({ dst := some 31, op := Go.Op.call { callee := Go.Callee.value (Go.Operand.func 15), args := #[Go.Operand.tmp 23, Go.Operand.tmp 30], argTypes := #[24, 22] }, type := 22, pos := _, after := _, guard := some (8, true) } : Oper)) rfl (fun KK hK => ?_) AllReadyH.nil)
          go_simp
          refine (HSP.out _ _ (bcat2 hB hBc) hsu).mono ?_
          rintro x4 U4 ⟨sa, sc, rfl, hl4⟩
          have hBc := bcat2 hBc hl4
          try go_wp2_with fail
          refine hK.out _ _ (hS _ hBc) (fun hHeld => ?_)
          clear hK
          try simp only [Act.put, List.setIfInBounds_toArray, List.set_cons_zero, List.set_cons_succ]
          refine wpAnyH_take (i := 18) (oi := ({ dst := some 32, op := Go.Op.call { callee := Go.Callee.builtin Go.Builtin.len, args := #[Go.Operand.tmp 31], argTypes := #[22] }, type := 3, pos := _, after := _, guard := some (8, true) } : Oper)) (v := ?_) rfl (by kernel_rfl) (by kernel_rfl) (by kernel_rfl) (fun _ _ _ h => h) (Or.inl ⟨by rfl, ?_⟩) (by assumption) ?_
          rotate_left
          · (intro w hSw; (try dsimp only at hSw); go_simp; try with_reducible rfl)
          simp only [Act.put, List.setIfInBounds_toArray, List.set_cons_zero, List.set_cons_succ]
          refine wpAnyH_take (i := 21) (oi := ({ dst := some 35, op := Go.Op.binOp Go.BinOp.eql 3 (Go.Operand.tmp 32) (Go.Operand.tmp 34) 3, type := 4, pos := _, after := _, guard := some (8, true) } : Oper)) (v := .bool true) rfl (by kernel_rfl) (by kernel_rfl) (by kernel_rfl) (fun _ _ _ h => h) (Or.inl ⟨by rfl, ?_⟩) (by assumption) ?_
          · (intro w hSw; (try dsimp only at hSw); go_simp; try (first | with_reducible rfl | (simp [hLb]; done) | (simp; done) | omega | (simp; omega)))
          simp only [Act.put, List.setIfInBounds_toArray, List.set_cons_zero, List.set_cons_succ]
          refine wpAnyH_take (i := 22) (oi := ({ dst := some 36, op := Go.Op.pick (Go.Operand.tmp 22) (Go.Operand.tmp 35) (Go.Operand.const (Go.Value.bool false)), type := 4, pos := _, after := _, guard := none } : Oper)) (v := .bool true) rfl (by kernel_rfl) (by kernel_rfl) (by kernel_rfl) (fun _ _ _ h => h) (Or.inl ⟨by rfl, ?_⟩) (by assumption) ?_
          · (intro w hSw; (try dsimp only at hSw); go_simp; try (first | with_reducible rfl | (simp; done) | omega | (simp; omega)))
          simp only [Act.put, List.setIfInBounds_toArray, List.set_cons_zero, List.set_cons_succ]
          refine wpAnyH_done (by kernel_rfl) ?_ _
          have hrow5 := own_keep2 HRW.out (fun b _ h2 => hBc.block b h2)
          have hB5 := bcat2 hB hBc
          have ckU := (hS _ hBc).2.2.2.2
          clear hBc hHeld hS0 hown hown3 hgr hsu hB3 hBo hl1 hl2 hl4
          generalize hU9 : U4 = w5 at *
          clear hU9
          have hs5 := hB5.size
          go_wp2_with (first
            | (at_builtin; refine wpList_append_own_at _ rfl _ _ 25 rfl w1.heap.size 22 i0 (.slice none 0 0) 1 24 und25b hi hz0 hz1 hz2 rfl (by decide) _ _ _ rfl (World.ownsRow.alloc hrow5 _) ⟨w5.heap.size, 0, none⟩ 1 1 [.slice ka kl kc] rfl rfl ?c1 ?c2 ?c3 ?c4 ?c5 ?_))
          case c1 => exact cell_one_new _ _ _
          case c2 => simp [Value.oneCell']
          case c3 => unfold maxLen; omega
          case c4 => omega
          case c5 => simp; omega
          intro v' w6 hown' hgrow hnil hloc
          obtain ⟨ra', rcap', rfl⟩ := own_slice' hown'
          have hB6 : Below w1.heap.size w1 w6 := (hB5.alloc hB5.size _).grown hgrow (by simp; omega) (fun t e => by have := owns_ge hrow5 t e; omega)
          have hrow6 : w6.ownsRow w1.heap.size 22 1 (.slice ra' (F.length + 1) rcap') (ev xa xl xc ((List.range (k + 1)).filter D)).length (ev xa xl xc ((List.range (k + 1)).filter D)) := by
            rw [HST.out HDT.out]
            rw [List.length_append, List.length_singleton]
            exact hown'
          clear hown' hgrow hloc hrow5 hB5
          go_wp2
          go_roundw
          case rel => exact ⟨k + 1, by omega, by go_num, hrow6, hB6⟩
          case measure => simp [intOf]; omega
        · have hLb : (((Lk : Nat) : Int) == ((n : Nat) : Int)) = false := by simp; omega
          have HDF := hide (show dk = false by
            cases hq9 : dk with
            | false => rfl
            | true => exact absurd (HDC.out.1 hq9).2 hL)
          clear hL
          go_wp2_with fail
          refine wp_region_held_drew (S := fun W => Below wr.heap.size wr W ∧ W.cell? ⟨gb, 0, none⟩ = some (.int .i64 n) ∧ W.cell? ⟨gb, 1, none⟩ = some (.slice v1 v2 v3) ∧ W.cell? ⟨lb, 0, none⟩ = some (.slice (some ⟨mb, mo, none⟩) Y mc) ∧ W.cell? ⟨g, k, none⟩ = some (.slice ka kl kc)) (by kernel_rfl) hS0 (fun hHeld => ?_)
          refine wpAnyH_take (i := 0) (oi := ({ dst := some 14, op := Go.Op.move (Go.Operand.tmp 4), type := 25, pos := _, after := _, guard := none } : Oper)) (v := ?_) rfl (by kernel_rfl) (by kernel_rfl) (by kernel_rfl) (fun _ _ _ h => h) (Or.inl ⟨by rfl, ?_⟩) (by assumption) ?_
          rotate_left
          · (intro w hSw; (try dsimp only at hSw); go_simp; try with_reducible rfl)
          simp only [Act.put, List.setIfInBounds_toArray, List.set_cons_zero, List.set_cons_succ]
          refine wpAnyH_take (i := 1) (oi := ({ dst := some 15, op := Go.Op.move (Go.Operand.tmp 5), type := 3, pos := _, after := _, guard := none } : Oper)) (v := ?_) rfl (by kernel_rfl) (by kernel_rfl) (by kernel_rfl) (fun _ _ _ h => h) (Or.inl ⟨by rfl, ?_⟩) (by assumption) ?_
          rotate_left
          · (intro w hSw; (try dsimp only at hSw); go_simp; try with_reducible rfl)
          simp only [Act.put, List.setIfInBounds_toArray, List.set_cons_zero, List.set_cons_succ]
          refine wpAnyH_take (i := 2) (oi := ({ dst := some 16, op := Go.Op.indexAddr 25 (Go.Operand.tmp 14) (Go.Operand.tmp 15), type := 0, pos := _, after := _, guard := none } : Oper)) (v := ?_) rfl (by kernel_rfl) (by kernel_rfl) (by kernel_rfl) (fun _ _ _ h => h) (Or.inl ⟨by rfl, ?_⟩) (by assumption) ?_
          rotate_left
          · (intro w hSw; (try dsimp only at hSw); go_simp; try with_reducible rfl)
          simp only [Act.put, List.setIfInBounds_toArray, List.set_cons_zero, List.set_cons_succ]
          refine wpAnyH_take (i := 3) (oi := ({ dst := some 17, op := Go.Op.load 22 (Go.Operand.tmp 16), type := 22, pos := _, after := _, guard := none } : Oper)) (v := ?_) rfl (by kernel_rfl) (by kernel_rfl) (by kernel_rfl) (fun _ _ _ h => h) (Or.inl ⟨by rfl, ?_⟩) (by assumption) ?_
          rotate_left
          · (intro w hSw; (try dsimp only at hSw); go_simp; try with_reducible rfl)
          simp only [Act.put, List.setIfInBounds_toArray, List.set_cons_zero, List.set_cons_succ]
          refine wpAnyH_take (i := 4) (oi := ({ dst := some 18, op := Go.Op.load 22 (Go.Operand.tmp 1), type := 22, pos := _, after := _, guard := none } : Oper)) (v := ?_) rfl (by kernel_rfl) (by kernel_rfl) (by kernel_rfl) (fun _ _ _ h => h) (Or.inl ⟨by rfl, ?_⟩) (by assumption) ?_
          rotate_left
          · (intro w hSw; (try dsimp only at hSw); go_simp; try with_reducible rfl)
          simp only [Act.put, List.setIfInBounds_toArray, List.set_cons_zero, List.set_cons_succ]
          refine wpAnyH_ready (rs := [5]) (by kernel_rfl) (by simp) (AllReadyH.cons (o := ({ dst := some 19, op := Go.Op.call { callee := Go.Callee.value (Go.Operand.func 14), args := #[Go.Operand.tmp 17, Go.Operand.tmp 18], argTypes := #[22, 22] }, type := 22, pos := _, after := _, guard := none } : Oper)) rfl (fun KK hK => ?_) AllReadyH.nil)
          go_simp
          refine (HBO.out _ (bcat2 hB hBc)).mono ?_
          rintro x1 U1 ⟨ra9, rc9, rfl, hl1⟩
          have hBc := bcat2 hBc hl1
          try go_wp2_with fail
          refine hK.out _ _ (hS _ hBc) (fun hHeld => ?_)
          clear hK
          try simp only [Act.put, List.setIfInBounds_toArray, List.set_cons_zero, List.set_cons_succ]
          refine wpAnyH_take (i := 6) (oi := ({ dst := some 20, op := Go.Op.call { callee := Go.Callee.builtin Go.Builtin.len, args := #[Go.Operand.tmp 19], argTypes := #[22] }, type := 3, pos := _, after := _, guard := none } : Oper)) (v := ?_) rfl (by kernel_rfl) (by kernel_rfl) (by kernel_rfl) (fun _ _ _ h => h) (Or.inl ⟨by rfl, ?_⟩) (by assumption) ?_
          rotate_left
          · (intro w hSw; (try dsimp only at hSw); go_simp; try with_reducible rfl)
          simp only [Act.put, List.setIfInBounds_toArray, List.set_cons_zero, List.set_cons_succ]
          refine wpAnyH_take (i := 7) (oi := ({ dst := some 21, op := Go.Op.binOp Go.BinOp.eql 3 (Go.Operand.tmp 20) (Go.Operand.const (Go.Value.int Go.IntKind.i64 1)) 3, type := 4, pos := _, after := _, guard := none } : Oper)) (v := .bool true) rfl (by kernel_rfl) (by kernel_rfl) (by kernel_rfl) (fun _ _ _ h => h) (Or.inl ⟨by rfl, ?_⟩) (by assumption) ?_
          · (intro w hSw; (try dsimp only at hSw); go_simp; try (first | with_reducible rfl | (simp; done) | omega | (simp; omega)))
          simp only [Act.put, List.setIfInBounds_toArray, List.set_cons_zero, List.set_cons_succ]
          refine wpAnyH_take (i := 8) (oi := ({ dst := some 22, op := Go.Op.move (Go.Operand.tmp 21), type := 4, pos := _, after := _, guard := none } : Oper)) (v := .bool true) rfl (by kernel_rfl) (by kernel_rfl) (by kernel_rfl) (fun _ _ _ h => h) (Or.inl ⟨by rfl, ?_⟩) (by assumption) ?_
          · (intro w hSw; (try dsimp only at hSw); go_simp; try (first | with_reducible rfl | (simp; done) | omega | (simp; omega)))
          simp only [Act.put, List.setIfInBounds_toArray, List.set_cons_zero, List.set_cons_succ]
          refine wpAnyH_take (i := 9) (oi := ({ dst := some 23, op := Go.Op.load 24 (Go.Operand.tmp 0), type := 24, pos := _, after := _, guard := some (8, true) } : Oper)) (v := ?_) rfl (by kernel_rfl) (by kernel_rfl) (by kernel_rfl) (fun _ _ _ h => h) (Or.inl ⟨by rfl, ?_⟩) (by assumption) ?_
          rotate_left
          · (intro w hSw; (try dsimp only at hSw); go_simp; try with_reducible rfl)
          simp only [Act.put, List.setIfInBounds_toArray, List.set_cons_zero, List.set_cons_succ]
          refine wpAnyH_take (i := 10) (oi := ({ dst := some 24, op := Go.Op.move (Go.Operand.tmp 4), type := 25, pos := _, after := _, guard := some (8, true) } : Oper)) (v := ?_) rfl (by kernel_rfl) (by kernel_rfl) (by kernel_rfl) (fun _ _ _ h => h) (Or.inl ⟨by rfl, ?_⟩) (by assumption) ?_
          rotate_left
          · (intro w hSw; (try dsimp only at hSw); go_simp; try with_reducible rfl)
          simp only [Act.put, List.setIfInBounds_toArray, List.set_cons_zero, List.set_cons_succ]
          refine wpAnyH_take (i := 11) (oi := ({ dst := some 25, op := Go.Op.move (Go.Operand.tmp 5), type := 3, pos := _, after := _, guard := some (8, true) } : Oper)) (v := ?_) rfl (by kernel_rfl) (by kernel_rfl) (by kernel_rfl) (fun _ _ _ h => h) (Or.inl ⟨by rfl, ?_⟩) (by assumption) ?_
          rotate_left
          · (intro w hSw; (try dsimp only at hSw); go_simp; try with_reducible rfl)
          simp only [Act.put, List.setIfInBounds_toArray, List.set_cons_zero, List.set_cons_succ]
          refine wpAnyH_take (i := 12) (oi := ({ dst := some 26, op := Go.Op.indexAddr 25 (Go.Operand.tmp 24) (Go.Operand.tmp 25), type := 0, pos := _, after := _, guard := some (8, true) } : Oper)) (v := ?_) rfl (by kernel_rfl) (by kernel_rfl) (by kernel_rfl) (fun _ _ _ h => h) (Or.inl ⟨by rfl, ?_⟩) (by assumption) ?_
          rotate_left
          · (intro w hSw; (try dsimp only at hSw); go_simp; try with_reducible rfl)
          simp only [Act.put, List.setIfInBounds_toArray, List.set_cons_zero, List.set_cons_succ]
          refine wpAnyH_take (i := 13) (oi := ({ dst := some 27, op := Go.Op.load 22 (Go.Operand.tmp 26), type := 22, pos := _, after := _, guard := some (8, true) } : Oper)) (v := ?_) rfl (by kernel_rfl) (by kernel_rfl) (by kernel_rfl) (fun _ _ _ h => h) (Or.inl ⟨by rfl, ?_⟩) (by assumption) ?_
          rotate_left
          · (intro w hSw; (try dsimp only at hSw); go_simp; try with_reducible rfl)
          simp only [Act.put, List.setIfInBounds_toArray, List.set_cons_zero, List.set_cons_succ]
          refine wpAnyH_take (i := 15) (oi := ({ dst := some 29, op := Go.Op.load 22 (Go.Operand.tmp 1), type := 22, pos := _, after := _, guard := some (8, true) } : Oper)) (v := ?_) rfl (by kernel_rfl) (by kernel_rfl) (by kernel_rfl) (fun _ _ _ h => h) (Or.inl ⟨by rfl, ?_⟩) (by assumption) ?_
          rotate_left
          · (intro w hSw; (try dsimp only at hSw); go_simp; try with_reducible rfl)
          simp only [Act.put, List.setIfInBounds_toArray, List.set_cons_zero, List.set_cons_succ]
          refine wpAnyH_take (i := 19) (oi := ({ dst := some 33, op := Go.Op.fieldAddr 24 (Go.Operand.tmp 0) 0, type := 0, pos := _, after := _, guard := some (8, true) } : Oper)) (v := ?_) rfl (by kernel_rfl) (by kernel_rfl) (by kernel_rfl) (fun _ _ _ h => h) (Or.inl ⟨by rfl, ?_⟩) (by assumption) ?_
          rotate_left
          · (intro w hSw; (try dsimp only at hSw); go_simp; try with_reducible rfl)
          simp only [Act.put, List.setIfInBounds_toArray, List.set_cons_zero, List.set_cons_succ]
          refine wpAnyH_take (i := 20) (oi := ({ dst := some 34, op := Go.Op.load 3 (Go.Operand.tmp 33), type := 3, pos := _, after := _, guard := some (8, true) } : Oper)) (v := ?_) rfl (by kernel_rfl) (by kernel_rfl) (by kernel_rfl) (fun _ _ _ h => h) (Or.inl ⟨by rfl, ?_⟩) (by assumption) ?_
          rotate_left
          · (intro w hSw; (try dsimp only at hSw); go_simp; try with_reducible rfl)
          simp only [Act.put, List.setIfInBounds_toArray, List.set_cons_zero, List.set_cons_succ]
          refine wpAnyH_ready (rs := [14]) (by kernel_rfl) (by simp) (AllReadyH.cons (o := ({ dst := some 28, op := Go.Op.call { callee := Go.Callee.value (Go.Operand.func 7), args := #[Go.Operand.tmp 27], argTypes := #[22] }, type := 22, pos := _, after := _, guard := some (8, true) } : Oper)) rfl (fun KK hK => ?_) AllReadyH.nil)
          go_simp
          refine (HOW.out _ (bcat2 hB hBc)).mono ?_
          rintro x2 U2 ⟨r, rfl, hown, hl2⟩
          have hBo := hBc
          have hBc := bcat2 hBc hl2
          try go_wp2_with fail
          refine hK.out _ _ (hS _ hBc) (fun hHeld => ?_)
          clear hK
          try simp only [Act.put, List.setIfInBounds_toArray, List.set_cons_zero, List.set_cons_succ]
          refine wpAnyH_ready (rs := [16]) (by kernel_rfl) (by simp) (AllReadyH.cons (o := ({ dst := some 30, op := Go.Op.call { callee := Go.Callee.builtin Go.Builtin.append, args := #[Go.Operand.tmp 28, Go.Operand.tmp 29], argTypes := #[22, 22] }, type := 22, pos := _, after := _, guard := some (8, true) } : Oper)) rfl (fun KK hK => ?_) AllReadyH.nil)
          rw [if_pos (by rfl)]
          refine wp_append_lies _ _ _ 22 rfl U1.heap.size 3 i3 (.int .i64 0) 1 8 under22b h3 hy0 hy1 hy2 rfl (by decide) r kl (xk.map (Value.int .i64)) rfl hown ⟨mb, mo, none⟩ Y mc (ys.map (Value.int .i64)) rfl (by rw [List.length_map, HYL.out, Nat.mul_one]) (HNW.out _ (bcat2 hB1 (bcat2 hB hBc))) (by intro v hv; obtain ⟨z, _, rfl⟩ := List.mem_map.1 hv; rfl) hY0 (by unfold maxLen; omega) (by omega) hl2.size _ rfl ?_
          intro g9 cap9 U3 hown3 hgr _ _
          have hB3 : Below wr.heap.size wr U3 := hBc.grown hgr hBc.size (fun t e9 => by have := owns_ge hown t e9; have := hBo.size; omega)
          have hsu : Sl U3 (.slice (some ⟨g9, 0, none⟩) (kl + Y) cap9) (xk ++ ys) := by
            refine Sl.of_own (base := U1.heap.size) ?_ (Nat.lt_of_lt_of_le hwp hB3.size)
            rw [List.length_append, HXL.out, HYL.out, List.map_append]
            exact hown3
          have hBc := hB3
          refine hK.out _ _ (hS _ hBc) (fun hHeld => ?_)
          clear hK
          try simp only [Act.put, List.setIfInBounds_toArray, List.set_cons_zero, List.set_cons_succ]
          refine wpAnyH_ready (rs := [17]) (by kernel_rfl) (by simp) (AllReadyH.cons (o := ({ dst := some 31, op := Go.Op.call { callee := Go.Callee.value (Go.Operand.func 15), args := #[Go.Operand.tmp 23, Go.Operand.tmp 30], argTypes := #[24, 22] }, type := 22, pos := _, after := _, guard := some (8, true) } : Oper)) rfl (fun KK hK => ?_) AllReadyH.nil)
          go_simp
          refine (HSP.out _ _ (bcat2 hB hBc) hsu).mono ?_
          rintro x4 U4 ⟨sa, sc, rfl, hl4⟩
          have hBc := bcat2 hBc hl4
          try go_wp2_with fail
          refine hK.out _ _ (hS _ hBc) (fun hHeld => ?_)
          clear hK
          try simp only [Act.put, List.setIfInBounds_toArray, List.set_cons_zero, List.set_cons_succ]
          refine wpAnyH_take (i := 18) (oi := ({ dst := some 32, op := Go.Op.call { callee := Go.Callee.builtin Go.Builtin.len, args := #[Go.Operand.tmp 31], argTypes := #[22] }, type := 3, pos := _, after := _, guard := some (8, true) } : Oper)) (v := ?_) rfl (by kernel_rfl) (by kernel_rfl) (by kernel_rfl) (fun _ _ _ h => h) (Or.inl ⟨by rfl, ?_⟩) (by assumption) ?_
          rotate_left
          · (intro w hSw; (try dsimp only at hSw); go_simp; try with_reducible rfl)
          simp only [Act.put, List.setIfInBounds_toArray, List.set_cons_zero, List.set_cons_succ]
          refine wpAnyH_take (i := 21) (oi := ({ dst := some 35, op := Go.Op.binOp Go.BinOp.eql 3 (Go.Operand.tmp 32) (Go.Operand.tmp 34) 3, type := 4, pos := _, after := _, guard := some (8, true) } : Oper)) (v := .bool false) rfl (by kernel_rfl) (by kernel_rfl) (by kernel_rfl) (fun _ _ _ h => h) (Or.inl ⟨by rfl, ?_⟩) (by assumption) ?_
          · (intro w hSw; (try dsimp only at hSw); go_simp; try (first | with_reducible rfl | (simp [hLb]; done) | (simp; done) | omega | (simp; omega)))
          simp only [Act.put, List.setIfInBounds_toArray, List.set_cons_zero, List.set_cons_succ]
          refine wpAnyH_take (i := 22) (oi := ({ dst := some 36, op := Go.Op.pick (Go.Operand.tmp 22) (Go.Operand.tmp 35) (Go.Operand.const (Go.Value.bool false)), type := 4, pos := _, after := _, guard := none } : Oper)) (v := .bool false) rfl (by kernel_rfl) (by kernel_rfl) (by kernel_rfl) (fun _ _ _ h => h) (Or.inl ⟨by rfl, ?_⟩) (by assumption) ?_
          · (intro w hSw; (try dsimp only at hSw); go_simp; try (first | with_reducible rfl | (simp; done) | omega | (simp; omega)))
          simp only [Act.put, List.setIfInBounds_toArray, List.set_cons_zero, List.set_cons_succ]
          refine wpAnyH_done (by kernel_rfl) ?_ _
          have hrow9 := own_keep2 HRW.out (fun b _ h2 => hBc.block b h2)
          have hB9 := bcat2 hB hBc
          clear hHeld hS0
          go_wp2
          go_roundw
          case rel => exact ⟨k + 1, by omega, by go_num, by rw [(HSF.out HDF.out)]; exact hrow9, hB9⟩
          case measure => simp [intOf]; omega
      · have hKb : (((Kk : Nat) : Int) == 1) = false := by simp; omega
        have HDF := hide (show dk = false by
          cases hq9 : dk with
          | false => rfl
          | true => exact absurd (HDC.out.1 hq9).1 hK)
        clear hK
        go_wp2_with fail
        refine wp_region_held_drew (S := fun W => Below wr.heap.size wr W ∧ W.cell? ⟨gb, 0, none⟩ = some (.int .i64 n) ∧ W.cell? ⟨gb, 1, none⟩ = some (.slice v1 v2 v3) ∧ W.cell? ⟨lb, 0, none⟩ = some (.slice (some ⟨mb, mo, none⟩) Y mc) ∧ W.cell? ⟨g, k, none⟩ = some (.slice ka kl kc)) (by kernel_rfl) hS0 (fun hHeld => ?_)
        refine wpAnyH_take (i := 0) (oi := ({ dst := some 14, op := Go.Op.move (Go.Operand.tmp 4), type := 25, pos := _, after := _, guard := none } : Oper)) (v := ?_) rfl (by kernel_rfl) (by kernel_rfl) (by kernel_rfl) (fun _ _ _ h => h) (Or.inl ⟨by rfl, ?_⟩) (by assumption) ?_
        rotate_left
        · (intro w hSw; (try dsimp only at hSw); go_simp; try with_reducible rfl)
        simp only [Act.put, List.setIfInBounds_toArray, List.set_cons_zero, List.set_cons_succ]
        refine wpAnyH_take (i := 1) (oi := ({ dst := some 15, op := Go.Op.move (Go.Operand.tmp 5), type := 3, pos := _, after := _, guard := none } : Oper)) (v := ?_) rfl (by kernel_rfl) (by kernel_rfl) (by kernel_rfl) (fun _ _ _ h => h) (Or.inl ⟨by rfl, ?_⟩) (by assumption) ?_
        rotate_left
        · (intro w hSw; (try dsimp only at hSw); go_simp; try with_reducible rfl)
        simp only [Act.put, List.setIfInBounds_toArray, List.set_cons_zero, List.set_cons_succ]
        refine wpAnyH_take (i := 2) (oi := ({ dst := some 16, op := Go.Op.indexAddr 25 (Go.Operand.tmp 14) (Go.Operand.tmp 15), type := 0, pos := _, after := _, guard := none } : Oper)) (v := ?_) rfl (by kernel_rfl) (by kernel_rfl) (by kernel_rfl) (fun _ _ _ h => h) (Or.inl ⟨by rfl, ?_⟩) (by assumption) ?_
        rotate_left
        · (intro w hSw; (try dsimp only at hSw); go_simp; try with_reducible rfl)
        simp only [Act.put, List.setIfInBounds_toArray, List.set_cons_zero, List.set_cons_succ]
        refine wpAnyH_take (i := 3) (oi := ({ dst := some 17, op := Go.Op.load 22 (Go.Operand.tmp 16), type := 22, pos := _, after := _, guard := none } : Oper)) (v := ?_) rfl (by kernel_rfl) (by kernel_rfl) (by kernel_rfl) (fun _ _ _ h => h) (Or.inl ⟨by rfl, ?_⟩) (by assumption) ?_
        rotate_left
        · (intro w hSw; (try dsimp only at hSw); go_simp; try with_reducible rfl)
        simp only [Act.put, List.setIfInBounds_toArray, List.set_cons_zero, List.set_cons_succ]
        refine wpAnyH_take (i := 4) (oi := ({ dst := some 18, op := Go.Op.load 22 (Go.Operand.tmp 1), type := 22, pos := _, after := _, guard := none } : Oper)) (v := ?_) rfl (by kernel_rfl) (by kernel_rfl) (by kernel_rfl) (fun _ _ _ h => h) (Or.inl ⟨by rfl, ?_⟩) (by assumption) ?_
        rotate_left
        · (intro w hSw; (try dsimp only at hSw); go_simp; try with_reducible rfl)
        simp only [Act.put, List.setIfInBounds_toArray, List.set_cons_zero, List.set_cons_succ]
        refine wpAnyH_ready (rs := [5]) (by kernel_rfl) (by simp) (AllReadyH.cons (o := ({ dst := some 19, op := Go.Op.call { callee := Go.Callee.value (Go.Operand.func 14), args := #[Go.Operand.tmp 17, Go.Operand.tmp 18], argTypes := #[22, 22] }, type := 22, pos := _, after := _, guard := none } : Oper)) rfl (fun KK hK => ?_) AllReadyH.nil)
        go_simp
        refine (HBO.out _ (bcat2 hB hBc)).mono ?_
        rintro x1 U1 ⟨ra9, rc9, rfl, hl1⟩
        have hBc := bcat2 hBc hl1
        try go_wp2_with fail
        refine hK.out _ _ (hS _ hBc) (fun hHeld => ?_)
        clear hK
        try simp only [Act.put, List.setIfInBounds_toArray, List.set_cons_zero, List.set_cons_succ]
        refine wpAnyH_take (i := 6) (oi := ({ dst := some 20, op := Go.Op.call { callee := Go.Callee.builtin Go.Builtin.len, args := #[Go.Operand.tmp 19], argTypes := #[22] }, type := 3, pos := _, after := _, guard := none } : Oper)) (v := ?_) rfl (by kernel_rfl) (by kernel_rfl) (by kernel_rfl) (fun _ _ _ h => h) (Or.inl ⟨by rfl, ?_⟩) (by assumption) ?_
        rotate_left
        · (intro w hSw; (try dsimp only at hSw); go_simp; try with_reducible rfl)
        simp only [Act.put, List.setIfInBounds_toArray, List.set_cons_zero, List.set_cons_succ]
        refine wpAnyH_take (i := 7) (oi := ({ dst := some 21, op := Go.Op.binOp Go.BinOp.eql 3 (Go.Operand.tmp 20) (Go.Operand.const (Go.Value.int Go.IntKind.i64 1)) 3, type := 4, pos := _, after := _, guard := none } : Oper)) (v := .bool false) rfl (by kernel_rfl) (by kernel_rfl) (by kernel_rfl) (fun _ _ _ h => h) (Or.inl ⟨by rfl, ?_⟩) (by assumption) ?_
        · (intro w hSw; (try dsimp only at hSw); go_simp; try (first | with_reducible rfl | (simp [hKb]; done) | (simp; done) | omega | (simp; omega)))
        simp only [Act.put, List.setIfInBounds_toArray, List.set_cons_zero, List.set_cons_succ]
        refine wpAnyH_take (i := 8) (oi := ({ dst := some 22, op := Go.Op.move (Go.Operand.tmp 21), type := 4, pos := _, after := _, guard := none } : Oper)) (v := .bool false) rfl (by kernel_rfl) (by kernel_rfl) (by kernel_rfl) (fun _ _ _ h => h) (Or.inl ⟨by rfl, ?_⟩) (by assumption) ?_
        · (intro w hSw; (try dsimp only at hSw); go_simp; try (first | with_reducible rfl | (simp; done) | omega | (simp; omega)))
        simp only [Act.put, List.setIfInBounds_toArray, List.set_cons_zero, List.set_cons_succ]
        refine wpAnyH_take (i := 9) (oi := ({ dst := some 23, op := Go.Op.load 24 (Go.Operand.tmp 0), type := 24, pos := _, after := _, guard := some (8, true) } : Oper)) (v := undef) rfl (by kernel_rfl) (by kernel_rfl) (by kernel_rfl) (fun _ _ _ h => h) (Or.inr ⟨by rfl, rfl⟩) (by assumption) ?_
        simp only [Act.put, List.setIfInBounds_toArray, List.set_cons_zero, List.set_cons_succ]
        refine wpAnyH_take (i := 10) (oi := ({ dst := some 24, op := Go.Op.move (Go.Operand.tmp 4), type := 25, pos := _, after := _, guard := some (8, true) } : Oper)) (v := undef) rfl (by kernel_rfl) (by kernel_rfl) (by kernel_rfl) (fun _ _ _ h => h) (Or.inr ⟨by rfl, rfl⟩) (by assumption) ?_
        simp only [Act.put, List.setIfInBounds_toArray, List.set_cons_zero, List.set_cons_succ]
        refine wpAnyH_take (i := 11) (oi := ({ dst := some 25, op := Go.Op.move (Go.Operand.tmp 5), type := 3, pos := _, after := _, guard := some (8, true) } : Oper)) (v := undef) rfl (by kernel_rfl) (by kernel_rfl) (by kernel_rfl) (fun _ _ _ h => h) (Or.inr ⟨by rfl, rfl⟩) (by assumption) ?_
        simp only [Act.put, List.setIfInBounds_toArray, List.set_cons_zero, List.set_cons_succ]
        refine wpAnyH_take (i := 12) (oi := ({ dst := some 26, op := Go.Op.indexAddr 25 (Go.Operand.tmp 24) (Go.Operand.tmp 25), type := 0, pos := _, after := _, guard := some (8, true) } : Oper)) (v := undef) rfl (by kernel_rfl) (by kernel_rfl) (by kernel_rfl) (fun _ _ _ h => h) (Or.inr ⟨by rfl, rfl⟩) (by assumption) ?_
        simp only [Act.put, List.setIfInBounds_toArray, List.set_cons_zero, List.set_cons_succ]
        refine wpAnyH_take (i := 13) (oi := ({ dst := some 27, op := Go.Op.load 22 (Go.Operand.tmp 26), type := 22, pos := _, after := _, guard := some (8, true) } : Oper)) (v := undef) rfl (by kernel_rfl) (by kernel_rfl) (by kernel_rfl) (fun _ _ _ h => h) (Or.inr ⟨by rfl, rfl⟩) (by assumption) ?_
        simp only [Act.put, List.setIfInBounds_toArray, List.set_cons_zero, List.set_cons_succ]
        refine wpAnyH_take (i := 14) (oi := ({ dst := some 28, op := Go.Op.call { callee := Go.Callee.value (Go.Operand.func 7), args := #[Go.Operand.tmp 27], argTypes := #[22] }, type := 22, pos := _, after := _, guard := some (8, true) } : Oper)) (v := undef) rfl (by kernel_rfl) (by kernel_rfl) (by kernel_rfl) (fun _ _ _ h => h) (Or.inr ⟨by rfl, rfl⟩) (by assumption) ?_
        simp only [Act.put, List.setIfInBounds_toArray, List.set_cons_zero, List.set_cons_succ]
        refine wpAnyH_take (i := 15) (oi := ({ dst := some 29, op := Go.Op.load 22 (Go.Operand.tmp 1), type := 22, pos := _, after := _, guard := some (8, true) } : Oper)) (v := undef) rfl (by kernel_rfl) (by kernel_rfl) (by kernel_rfl) (fun _ _ _ h => h) (Or.inr ⟨by rfl, rfl⟩) (by assumption) ?_
        simp only [Act.put, List.setIfInBounds_toArray, List.set_cons_zero, List.set_cons_succ]
        refine wpAnyH_take (i := 16) (oi := ({ dst := some 30, op := Go.Op.call { callee := Go.Callee.builtin Go.Builtin.append, args := #[Go.Operand.tmp 28, Go.Operand.tmp 29], argTypes := #[22, 22] }, type := 22, pos := _, after := _, guard := some (8, true) } : Oper)) (v := undef) rfl (by kernel_rfl) (by kernel_rfl) (by kernel_rfl) (fun _ _ _ h => h) (Or.inr ⟨by rfl, rfl⟩) (by assumption) ?_
        simp only [Act.put, List.setIfInBounds_toArray, List.set_cons_zero, List.set_cons_succ]
        refine wpAnyH_take (i := 17) (oi := ({ dst := some 31, op := Go.Op.call { callee := Go.Callee.value (Go.Operand.func 15), args := #[Go.Operand.tmp 23, Go.Operand.tmp 30], argTypes := #[24, 22] }, type := 22, pos := _, after := _, guard := some (8, true) } : Oper)) (v := undef) rfl (by kernel_rfl) (by kernel_rfl) (by kernel_rfl) (fun _ _ _ h => h) (Or.inr ⟨by rfl, rfl⟩) (by assumption) ?_
        simp only [Act.put, List.setIfInBounds_toArray, List.set_cons_zero, List.set_cons_succ]
        refine wpAnyH_take (i := 18) (oi := ({ dst := some 32, op := Go.Op.call { callee := Go.Callee.builtin Go.Builtin.len, args := #[Go.Operand.tmp 31], argTypes := #[22] }, type := 3, pos := _, after := _, guard := some (8, true) } : Oper)) (v := undef) rfl (by kernel_rfl) (by kernel_rfl) (by kernel_rfl) (fun _ _ _ h => h) (Or.inr ⟨by rfl, rfl⟩) (by assumption) ?_
        simp only [Act.put, List.setIfInBounds_toArray, List.set_cons_zero, List.set_cons_succ]
        refine wpAnyH_take (i := 19) (oi := ({ dst := some 33, op := Go.Op.fieldAddr 24 (Go.Operand.tmp 0) 0, type := 0, pos := _, after := _, guard := some (8, true) } : Oper)) (v := undef) rfl (by kernel_rfl) (by kernel_rfl) (by kernel_rfl) (fun _ _ _ h => h) (Or.inr ⟨by rfl, rfl⟩) (by assumption) ?_
        simp only [Act.put, List.setIfInBounds_toArray, List.set_cons_zero, List.set_cons_succ]
        refine wpAnyH_take (i := 20) (oi := ({ dst := some 34, op := Go.Op.load 3 (Go.Operand.tmp 33), type := 3, pos := _, after := _, guard := some (8, true) } : Oper)) (v := undef) rfl (by kernel_rfl) (by kernel_rfl) (by kernel_rfl) (fun _ _ _ h => h) (Or.inr ⟨by rfl, rfl⟩) (by assumption) ?_
        simp only [Act.put, List.setIfInBounds_toArray, List.set_cons_zero, List.set_cons_succ]
        refine wpAnyH_take (i := 21) (oi := ({ dst := some 35, op := Go.Op.binOp Go.BinOp.eql 3 (Go.Operand.tmp 32) (Go.Operand.tmp 34) 3, type := 4, pos := _, after := _, guard := some (8, true) } : Oper)) (v := undef) rfl (by kernel_rfl) (by kernel_rfl) (by kernel_rfl) (fun _ _ _ h => h) (Or.inr ⟨by rfl, rfl⟩) (by assumption) ?_
        simp only [Act.put, List.setIfInBounds_toArray, List.set_cons_zero, List.set_cons_succ]
        refine wpAnyH_take (i := 22) (oi := ({ dst := some 36, op := Go.Op.pick (Go.Operand.tmp 22) (Go.Operand.tmp 35) (Go.Operand.const (Go.Value.bool false)), type := 4, pos := _, after := _, guard := none } : Oper)) (v := .bool false) rfl (by kernel_rfl) (by kernel_rfl) (by kernel_rfl) (fun _ _ _ h => h) (Or.inl ⟨by rfl, ?_⟩) (by assumption) ?_
        · (intro w hSw; (try dsimp only at hSw); go_simp; try (first | with_reducible rfl | (simp; done) | omega | (simp; omega)))
        simp only [Act.put, List.setIfInBounds_toArray, List.set_cons_zero, List.set_cons_succ]
        refine wpAnyH_done (by kernel_rfl) ?_ _
        have hrow9 := own_keep2 HRW.out (fun b _ h2 => hBc.block b h2)
        have hB9 := bcat2 hB hBc
        clear hHeld hS0
        go_wp2
        go_roundw
        case rel => exact ⟨k + 1, by omega, by go_num, by rw [(HSF.out HDF.out)]; exact hrow9, hB9⟩
        case measure => simp [intOf]; omega
    · have hki : ¬ (k : Int) < (m : Int) := by omega
      obtain rfl : k = m := by omega
      have hrow2 := hrow
      rw [ev_len] at hrow2
      have hE := SlE.of_own rfl hrow2 (Nat.lt_of_lt_of_le hwp hB.size)
      have hSL := hE.slL (f := xs) (fun s hs => (HCS.out.sl s (List.mem_range.1 (List.mem_filter.1 hs).1)).below hB)
      rw [HCS.out.all] at hSL
      obtain ⟨ra, rcap, rfl⟩ := own_slice' hrow
      have HSL := hide hSL
      have HBB := hide (bcat2 hB1 hB)
      clear hrow hrow2 hE hSL
      go_wp2
      go_ret
      exact ⟨_, P, ms, rfl, HCS.out.inv, HCS.out.perm, HCS.out.srt, HSL.out, HBB.out⟩
end Go.Proofs.YtgejngpioldhpaaGreatDoor
