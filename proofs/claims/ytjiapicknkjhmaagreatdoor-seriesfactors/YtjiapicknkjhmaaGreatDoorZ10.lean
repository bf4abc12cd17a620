/- Package series' Composition. Condition: the library's table of places lies as its text lays it. Series of subgroups as lists of sets, as mathematics: what Factors takes is a composition series; JORDAN AND HOELDER: all have the same factors, whose product is how many things there are. No condition. Package series' Factors at everything; what Composition answers is a composition series. Condition: the library's table of places lies as its text lays it. The law's factorsOf: the factors of a series, by the document's way; its walk, what it calls as premises. The factors, each put in its place, are the factors sorted. No condition. What the document's way of telling a step's factor simple says of a composition series, as mathematics: each thing's conjugates make all. No condition. The law's factorsOf: the factors of a series, by the document's way; its walk, what it calls as premises. What the document's Closed answers. What the document's C and Shifted answer. -/
import Derived.Test.YtjiapicknkjhmaaGreatDoorZ9
import Derived.Deep.AppendLies
import Derived.BigQuiet
import Derived.Test.YtjiapicknkjhmaaGreatDoorZ7
namespace Go.Proofs.YtjiapicknkjhmaaGreatDoor
open Go Go.RowKit

theorem call75c (x : Int) (y : Value) (W : World) : Sem.run Tryz.prog (callFunc 69 (#[.int .u64 x] ++ #[y])) W = .ok (.enter 69 (#[.int .u64 x] ++ #[y])) W := by kernel_rfl
theorem call41c (x : Value) (W : World) : Sem.run Tryz.prog (callFunc 37 #[x]) W = .ok (.enter 37 #[x]) W := by kernel_rfl
theorem comp_mxn {n e : Nat} {zs : List Int} {q : Nat → Bool} (g : IsGrp n zs e) (h1 : Fin.Sg (List.range n) (tm n zs) e (fun a => q a = true)) (h2 : bs (grt n zs e q) n ≠ bs q n) : Fin.Mxn (List.range n) (tm n zs) e (iv n zs e) q (grt n zs e q) := by
  refine grt_top g h1 (Classical.byContradiction fun h3 => h2 (grt_one h1 fun x hx hq => Classical.byContradiction fun h4 => h3 ⟨x, hx, hq, h4⟩))
theorem comp_step {n e : Nat} {zs : List Int} {q : Nat → Bool} (g : IsGrp n zs e) (h1 : Fin.Sg (List.range n) (tm n zs) e (fun a => q a = true)) (h2 : bs (grt n zs e q) n ≠ bs q n) :
    Fin.Sg (List.range n) (tm n zs) e (fun a => grt n zs e q a = true) ∧ (lst n (grt n zs e q)).length < (lst n q).length := by
  have h := comp_mxn g h1 h2
  exact ⟨h.sg, less_of n (fun x hx h3 => h.sub x (List.mem_range.2 hx) h3) h2⟩
set_option maxRecDepth 100000 in
theorem comp1_ok (n : Nat) (v u : Value) (zs : List Int) (e gb : Nat) (q : Nat → Bool) (w : World) (hG : GA w n v e u zs) (hT : Tab w) (hb : Box4 w gb n e v u) (hse : q e = true) :
    Calls Tryz.prog 69 (#[.int .u64 (bs q n)] ++ #[.pointer (some ⟨gb, 0, none⟩)]) w fun x w' => x = .returned (.int .u64 (bs (grt n zs e q) n)) ∧ Below w.heap.size w w' := by
  show Calls Tryz.prog 69 #[.int .u64 (bs q n), .pointer (some ⟨gb, 0, none⟩)] w _
  have HC := hide (greatest_ok n e v u zs q w hG hT hse)
  obtain ⟨c0, c1, c2, c3⟩ := hb.cells
  go_enter Tryz.func69, Tryz.ntmps69
  go_wp2_with fail
  refine HC.out.mono ?_
  rintro x w1 ⟨rfl, hb1⟩
  go_wp2
  go_ret
  exact ⟨rfl, hb1⟩
set_option maxRecDepth 100000 in
theorem composition_ok (n : Nat) (v u : Value) (zs : List Int) (e : Nat) (w : World) (hG : GA w n v e u zs) (hT : Tab w) :
    Calls Tryz.prog 37 #[.agg #[.int .i64 n, v, .int .i64 e, u]] w fun x w' => ∃ y, x = .returned y ∧ SerA w w' n (grt n zs e) (fun q => Fin.Sg (List.range n) (tm n zs) e (fun a => q a = true)) (fun q => (lst n q).length) (fun _ => true) y ∧ Below w.heap.size w w' := by
  have hg := hG.grp
  have hn := hG.le
  have hB0 : Below w.heap.size w (w.alloc (.cells #[.int .i64 n, v, .int .i64 e, u] 66)) := balloc w _
  have hX0 := Box4.new w n e v u
  obtain ⟨c0, c1, c2, c3⟩ := hX0.cells
  go_enter Tryz.func37, Tryz.ntmps37
  go_wp2_with fail
  clear c0 c1 c2 c3
  generalize w.alloc (.cells #[.int .i64 n, v, .int .i64 e, u] 66) = w0 at *
  refine (all_ok n v u e w0 hn).mono ?_
  rintro x w1 ⟨rfl, hb1⟩
  have hB1 := bcat2 hB0 hb1
  have hX1 := hX0.below hb1
  go_wp2_with fail
  refine (steps_ok n 69 #[.pointer (some ⟨w.heap.size, 0, none⟩)] (grt n zs e) (fun q => Fin.Sg (List.range n) (tm n zs) e (fun a => q a = true)) (fun q => (lst n q).length) (fun _ => true) w1 (fun x W => call75c x _ W) (fun W q h hq => comp1_ok n v u zs e _ q W (hG.below (bcat2 hB1 h)) (hT.below (bcat2 hB1 h)) (hX1.below h) hq.one) Nsg.all.sg (Nat.le_trans (lst_len _ _) hn) (fun q h1 h2 => comp_step hg h1 h2)).mono ?_
  rintro x w2 ⟨K, g, c, rfl, hst, hend, hrow, hb2⟩
  have hrow2 := own_le hrow hB1.size
  have hB2 := bcat2 hB1 hb2
  go_wp2
  go_ret
  exact ⟨_, rfl, ⟨K, g, c, rfl, hst, hend, hrow2⟩, hB2⟩
set_option maxRecDepth 100000 in
set_option maxHeartbeats 2000000 in
theorem scmp_bad (N : Int) (v : Value) (zs : List Int) (w : World) (hv : Sl w v zs) (hc : (gfault N zs).1 ≠ 0) :
    Calls Tryz.prog 13 #[.agg #[.int .i64 N, v]] w fun x w' => x = .returned (.tuple #[.slice none 0 0, .agg #[.int .i64 (gfault N zs).1, .int .i64 (gfault N zs).2]]) ∧ Below w.heap.size w w' := by
  obtain ⟨w0, BG⟩ := Beg.new w N v
  obtain ⟨c0, c1, _, _⟩ := BG.box.two
  have hck := fun f => listed_bad N v f zs w0 (hv.below BG.bel) hc
  obtain ⟨c, i, hci⟩ : ∃ c i, gfault N zs = (c, i) := ⟨_, _, rfl⟩
  rw [hci] at hck hc ⊢
  simp only at hc hck
  have HCK := hide hck
  clear hck hci
  rw [BG.eq] at c0 c1
  go_enter Tryz.func13, Tryz.ntmps13
  go_wp2_with fail
  rw [← BG.eq]
  refine (HCK.out _).mono ?_
  rintro x w1 ⟨rfl, hb1⟩
  clear c0 c1
  have hR1 := blk_below BG.res hb1
  have hBw := bcat BG.bel hb1 BG.bel.size
  obtain ⟨y0, y1, fy0, fy1⟩ := hR1.two
  obtain ⟨hR6, hB6⟩ := put2 hR1 hBw (by omega) c i
  obtain ⟨z0, z1, _, _⟩ := hR6.two
  go_wp2
  exact bodyPost_ret (v := .tuple #[.slice none 0 0, .agg #[.int .i64 c, .int .i64 i]]) (by simp [results, Tryz.results13, go_sem, z0, z1]) rfl ⟨rfl, hB6⟩
set_option maxRecDepth 100000 in
set_option maxHeartbeats 2000000 in
theorem scmp_good (n e : Nat) (v : Value) (zs : List Int) (w : World) (hv : Sl w v zs) (hg : IsGrp n zs e) (hT : Tab w) :
    Calls Tryz.prog 13 #[.agg #[.int .i64 n, v]] w fun x w' => ∃ y, x = .returned (.tuple #[y, .agg #[.int .i64 0, .int .i64 0]]) ∧ LisA w' n (grt n zs e) (fun q => Fin.Sg (List.range n) (tm n zs) e (fun a => q a = true)) (fun q => (lst n q).length) (fun _ => true) y ∧ Below w.heap.size w w' := by
  obtain ⟨w0, BG⟩ := Beg.new w n v
  obtain ⟨c0, c1, _, _⟩ := BG.box.two
  have HCK := hide (listed_good n e 37 v zs (grt n zs e) (fun q => Fin.Sg (List.range n) (tm n zs) e (fun a => q a = true)) (fun q => (lst n q).length) (fun _ => true) w0 (hv.below BG.bel) hg (hT.below BG.bel) (fun x W => call41c x W) (fun W u h hG => composition_ok n v u zs e W hG ((hT.below BG.bel).below h)))
  rw [BG.eq] at c0 c1
  go_enter Tryz.func13, Tryz.ntmps13
  go_wp2_with fail
  rw [← BG.eq]
  refine HCK.out.mono ?_
  rintro x w1 ⟨y, rfl, hl, hb1⟩
  clear c0 c1
  have hR1 := blk_below BG.res hb1
  have hBw := bcat BG.bel hb1 BG.bel.size
  obtain ⟨_, y0, y1, fy0, fy1, s0, s1⟩ := Two.mk' hR1
  go_wp2
  exact bodyPost_ret (v := .tuple #[y, .agg #[.int .i64 0, .int .i64 0]]) (by simp [results, Tryz.results13, go_sem, y0, y1]) rfl ⟨y, rfl, hl, hBw⟩
end Go.Proofs.YtjiapicknkjhmaaGreatDoor

namespace Go.Proofs.YtjiapicknkjhmaaGreatDoor
open Go Go.RowKit

section
variable {l : List Nat} {m : Nat → Nat → Nat} {e : Nat} {iv : Nat → Nat}
theorem cs_of (f : Nat → Nat → Bool) (K : Nat) (hm : ∀ k, k < K → Fin.Mxn l m e iv (f k) (f (k + 1))) (hl : ∀ x, x ∈ l → f K x = true → x = e) : ∀ j, j ≤ K → Fin.Cs l m e iv (f (K - j)) ((List.range j).map fun i => f (K - j + 1 + i))
  | 0, _ => hl
  | j + 1, hj => by
    rw [List.range_succ_eq_map, List.map_cons, List.map_map]
    refine ⟨?_, ?_⟩
    · have := hm (K - (j + 1)) (by omega)
      simpa using this
    · have := cs_of f K hm hl j (by omega)
      rw [show K - j = K - (j + 1) + 1 by omega] at this
      have e1 : (fun i => f (K - (j + 1) + 1 + 1 + i)) = ((fun i => f (K - (j + 1) + 1 + i)) ∘ Nat.succ) := by
        funext i
        show f _ = f _
        congr 1
        omega
      rw [e1] at this
      exact this
theorem facs_of (f : Nat → Nat → Bool) : ∀ (j s : Nat), Fin.facs l (f s) ((List.range j).map fun i => f (s + 1 + i)) = (List.range j).map fun i => Fin.sz l (f (s + i)) / Fin.sz l (f (s + 1 + i))
  | 0, _ => rfl
  | j + 1, s => by
    rw [List.range_succ_eq_map, List.map_cons, List.map_map, List.map_cons, List.map_map]
    show _ :: Fin.facs l (f (s + 1 + 0)) _ = _
    have e1 : ((fun i => f (s + 1 + i)) ∘ Nat.succ) = fun i => f (s + 1 + 1 + i) := by
      funext i
      show f _ = f _
      congr 1
      omega
    rw [e1]
    have h := facs_of f j (s + 1)
    rw [show s + 1 + 0 = s + 1 from rfl, h]
    congr 1
    refine List.map_congr_left fun i _ => ?_
    show _ = Fin.sz l (f (s + (i + 1))) / Fin.sz l (f (s + 1 + (i + 1)))
    rw [show s + 1 + i = s + (i + 1) by omega, show s + 1 + 1 + i = s + 1 + (i + 1) by omega]
end
def prI : List Int → Int
  | [] => 1
  | a :: l => a * prI l
theorem prI_perm {xs ys : List Int} (h : xs.Perm ys) : prI xs = prI ys := by
  induction h with
  | nil => rfl
  | cons x _ ih => show x * _ = x * _; rw [ih]
  | swap x y l => show y * (x * _) = x * (y * _); rw [← Int.mul_assoc, Int.mul_comm y x, Int.mul_assoc]
  | trans _ _ h1 h2 => rw [h1, h2]
theorem prI_app (xs : List Int) (a : Int) : prI (xs ++ [a]) = prI xs * a := by
  induction xs with
  | nil => show a * 1 = 1 * a; rw [Int.mul_one, Int.one_mul]
  | cons x xs ih => show x * prI (xs ++ [a]) = x * prI xs * a; rw [ih, Int.mul_assoc]
theorem prI_pos {xs : List Int} (h : ∀ x, x ∈ xs → 1 ≤ x) : 1 ≤ prI xs := by
  induction xs with
  | nil => exact Int.le_refl _
  | cons x xs ih =>
    have h1 := h x (by simp)
    have h2 := ih (fun y hy => h y (by simp [hy]))
    show 1 ≤ x * prI xs
    have := Int.mul_le_mul h1 h2 (by omega) (by omega)
    omega
theorem prI_take {xs : List Int} (h : ∀ x, x ∈ xs → 1 ≤ x) (i : Nat) : 1 ≤ prI (xs.take i) ∧ prI (xs.take i) ≤ prI xs := by
  have h1 := prI_pos (xs := xs.take i) (fun x hx => h x (List.mem_of_mem_take hx))
  refine ⟨h1, ?_⟩
  have h2 : prI xs = prI (xs.take i) * prI (xs.drop i) := by
    have : ∀ ys zs : List Int, prI (ys ++ zs) = prI ys * prI zs := by
      intro ys zs
      induction ys with
      | nil => show prI zs = 1 * prI zs; rw [Int.one_mul]
      | cons y ys ih => show y * prI (ys ++ zs) = y * prI ys * prI zs; rw [ih, Int.mul_assoc]
    rw [← this, List.take_append_drop]
  have h3 := prI_pos (xs := xs.drop i) (fun x hx => h x (List.mem_of_mem_drop hx))
  rw [h2]
  have := Int.mul_le_mul_of_nonneg_left h3 (show 0 ≤ prI (xs.take i) by omega)
  omega
theorem srtI_mem {xs : List Int} {x : Int} : x ∈ srtI xs ↔ x ∈ xs := (List.mergeSort_perm xs _).mem_iff
theorem prI_srt (xs : List Int) : prI (srtI xs) = prI xs := prI_perm (List.mergeSort_perm xs _)
/-- What Factors takes. -/
structure FOK (n : Nat) (zs : List Int) (e : Nat) (ls : List (List Int)) : Prop where
  l1 : 1 ≤ ls.length
  l2 : ls.length ≤ 10
  s0 : (ls[0]?.getD []).length = n
  s1 : (ls[ls.length - 1]?.getD []).length = 1
  gd : ∀ k, k < ls.length → gdB n zs e (ls[k]?.getD []) = true
  mx : ∀ t, 1 ≤ t → t < ls.length → Mxg n zs e (pset (ls[t - 1]?.getD [])) (pset (ls[t]?.getD []))
section
variable {n e : Nat} {zs : List Int} {ls : List (List Int)}
theorem gd_lst {l : List Int} (h : gdB n zs e l = true) : l = li (lst n (pset l)) ∧ subT n zs e (pset l) = true := by
  unfold gdB at h
  rw [Bool.and_eq_true, decide_eq_true_eq] at h
  exact ⟨set_lst (by rw [h.1]), h.2⟩
theorem gd_len {l : List Int} (h : gdB n zs e l = true) : l.length = Fin.sz (List.range n) (pset l) := by
  have h1 := (gd_lst h).1
  have h2 := congrArg List.length h1
  rw [li_len] at h2
  exact h2
theorem FOK.cs (h : FOK n zs e ls) (g : IsGrp n zs e) : Fin.Cs (List.range n) (tm n zs) e (Go.Proofs.YtjiapicknkjhmaaGreatDoor.iv n zs e) (pset (ls[0]?.getD [])) ((List.range (ls.length - 1)).map fun i => pset (ls[1 + i]?.getD [])) := by
  have l1 := h.l1
  have h1 := cs_of (l := List.range n) (m := tm n zs) (e := e) (iv := Go.Proofs.YtjiapicknkjhmaaGreatDoor.iv n zs e) (fun k => pset (ls[k]?.getD [])) (ls.length - 1) (fun k hk => by
      have := h.mx (k + 1) (by omega) (by omega)
      simpa using this) (fun x hx h2 => by
      have h3 := h.gd (ls.length - 1) (by omega)
      have h4 := gd_len h3
      rw [h.s1] at h4
      exact (Fin.sz_one (grp_fg g) (subT_iff.1 (gd_lst h3).2)).1 h4.symm x hx h2) (ls.length - 1) (Nat.le_refl _)
  rw [Nat.sub_self] at h1
  simpa using h1
theorem FOK.facs (h : FOK n zs e ls) : qts ls ls.length = li (Fin.facs (List.range n) (pset (ls[0]?.getD [])) ((List.range (ls.length - 1)).map fun i => pset (ls[1 + i]?.getD []))) := by
  have l1 := h.l1
  have h1 := facs_of (l := List.range n) (fun k => pset (ls[k]?.getD [])) (ls.length - 1) 0
  simp only [Nat.zero_add] at h1
  rw [h1]
  unfold qts li
  rw [List.map_map]
  refine List.map_congr_left fun k hk => ?_
  have hk := List.mem_range.1 hk
  rw [gd_len (h.gd k (by omega)), gd_len (h.gd (k + 1) (by omega))]
  show _ = ((Fin.sz (List.range n) (pset (ls[k]?.getD [])) / Fin.sz (List.range n) (pset (ls[1 + k]?.getD [])) : Nat) : Int)
  rw [Nat.add_comm 1 k]
theorem FOK.top (h : FOK n zs e ls) {x : Nat} (hx : x < n) : pset (ls[0]?.getD []) x = true := by
  have h1 := gd_len (h.gd 0 h.l1)
  rw [h.s0] at h1
  exact Fin.in_of_sz (l := List.range n) (p := pset (ls[0]?.getD [])) (q := fun _ => true) (fun _ _ _ => rfl) (by
    rw [← h1]
    unfold Fin.sz
    rw [List.filter_eq_self.2 (fun _ _ => rfl), List.length_range]) x (List.mem_range.2 hx) rfl
/-- JORDAN AND HOELDER. -/
theorem FOK.jordan {ks : List (List Int)} (h : FOK n zs e ls) (k : FOK n zs e ks) (g : IsGrp n zs e) : srtI (qts ls ls.length) = srtI (qts ks ks.length) := by
  refine srtI_perm ?_
  rw [h.facs, k.facs]
  have hA : ∀ x, x ∈ List.range n → pset (ks[0]?.getD []) x = pset (ls[0]?.getD []) x := fun x hx => by rw [h.top (List.mem_range.1 hx), k.top (List.mem_range.1 hx)]
  have e1 : Fin.sz (List.range n) (pset (ks[0]?.getD [])) = Fin.sz (List.range n) (pset (ls[0]?.getD [])) := by
    rw [← gd_len (h.gd 0 h.l1), ← gd_len (k.gd 0 k.l1), h.s0, k.s0]
  rw [Fin.facs_congr e1]
  refine List.Perm.map _ ?_
  exact Fin.jordan (grp_fg g) (grp_iv g) (N := n) (fun x hx => List.mem_range.1 hx) _ _ _ _ (subT_iff.1 (gd_lst (h.gd 0 h.l1)).2) (Nat.le_refl _) (h.cs g) (Fin.Cs.congr (grp_fg g) (grp_iv g) hA (k.cs g))
theorem foldl_pr : ∀ (xs : List Nat) (c : Nat), ((xs.foldl (· * ·) c : Nat) : Int) = (c : Int) * prI (li xs)
  | [], c => by show (c : Int) = c * 1; rw [Int.mul_one]
  | a :: xs, c => by
    show ((xs.foldl (· * ·) (c * a) : Nat) : Int) = (c : Int) * ((a : Int) * prI (li xs))
    rw [foldl_pr xs (c * a), Int.natCast_mul, Int.mul_assoc]
theorem FOK.prod (h : FOK n zs e ls) (g : IsGrp n zs e) : prI (srtI (qts ls ls.length)) = (n : Int) := by
  rw [prI_srt, h.facs]
  have h1 := Fin.facs_prod (grp_fg g) (iv := Go.Proofs.YtjiapicknkjhmaaGreatDoor.iv n zs e) _ _ (subT_iff.1 (gd_lst (h.gd 0 h.l1)).2) (h.cs g)
  have h2 := foldl_pr (Fin.facs (List.range n) (pset (ls[0]?.getD [])) ((List.range (ls.length - 1)).map fun i => pset (ls[1 + i]?.getD []))) 1
  rw [h1, ← gd_len (h.gd 0 h.l1), h.s0] at h2
  simp at h2
  exact h2.symm
theorem FOK.pos (h : FOK n zs e ls) (g : IsGrp n zs e) : ∀ x, x ∈ srtI (qts ls ls.length) → 1 ≤ x := fun x hx => by
  rw [srtI_mem] at hx
  unfold qts at hx
  obtain ⟨k, hk, rfl⟩ := List.mem_map.1 hx
  have hk := List.mem_range.1 hk
  have g1 := h.gd k (by omega)
  have g2 := h.gd (k + 1) (by omega)
  have hm := h.mx (k + 1) (by omega) (by omega)
  have hm : Mxg n zs e (pset (ls[k]?.getD [])) (pset (ls[k + 1]?.getD [])) := by simpa using hm
  rw [gd_len g1, gd_len g2]
  have h1 := Fin.sz_le hm.sub
  have h2 := Fin.sz_pos (grp_fg g) hm.sg
  have h3 := Nat.div_pos h1 h2
  show (1 : Int) ≤ ((_ : Nat) : Int)
  omega
end
end Go.Proofs.YtjiapicknkjhmaaGreatDoor

namespace Go.Proofs.YtjiapicknkjhmaaGreatDoor
open Go Go.RowKit

section
variable {n e K : Nat} {zs : List Int}
theorem half_of {A B : Nat → Bool} (g : IsGrp n zs e) (hA : Fin.SgB (List.range n) (tm n zs) e A) (h : Mxg n zs e A B) : 2 * (lst n B).length ≤ (lst n A).length := by
  obtain ⟨c, hc⟩ := Fin.sz_dvd (grp_fg g) h.sg hA h.sub
  have h1 := Fin.sz_lt h.sub h.less
  have h2 : (lst n A).length = (lst n B).length * c := hc
  have h3 : (lst n B).length < (lst n A).length := h1
  rcases Nat.lt_or_ge c 2 with h4 | h4
  · have : c = 0 ∨ c = 1 := by omega
    rcases this with rfl | rfl
    · omega
    · omega
  · have := Nat.mul_le_mul_left (lst n B).length h4
    omega
theorem comp_fok (g : IsGrp n zs e) (hst : Stp n (grt n zs e) (fun q => Fin.Sg (List.range n) (tm n zs) e (fun a => q a = true)) (fun q => (lst n q).length) (fun _ => true) K) (hend : bs (itr (grt n zs e) (fun _ => true) (K + 1)) n = bs (itr (grt n zs e) (fun _ => true) K) n) :
    FOK n zs e (sls n (itr (grt n zs e) (fun _ => true)) (K + 1)) := by
  have hmx : ∀ k, k < K → Mxg n zs e (itr (grt n zs e) (fun _ => true) k) (itr (grt n zs e) (fun _ => true) (k + 1)) := fun k hk => comp_mxn g (hst.inv k (by omega)) (hst.go k hk)
  have hhalf : ∀ k, k ≤ K → 2 ^ k * (lst n (itr (grt n zs e) (fun _ => true) k)).length ≤ n := by
    intro k
    induction k with
    | zero =>
      intro _
      have := lst_len n (itr (grt n zs e) (fun _ => true) 0)
      omega
    | succ k ih =>
      intro hk
      have h1 := ih (by omega)
      have h2 := half_of g (hst.inv k (by omega)) (hmx k (by omega))
      have h3 := Nat.mul_le_mul_left (2 ^ k) h2
      rw [Nat.pow_succ, Nat.mul_assoc]
      omega
  have hone : ∀ x, x < n → itr (grt n zs e) (fun _ => true) K x = true → x = e := fun x hx h1 => Classical.byContradiction fun h2 => by
    have h3 := grt_top g (hst.inv K (Nat.le_refl _)) ⟨x, hx, h1, h2⟩
    obtain ⟨y, hy, h4, h5⟩ := h3.less
    exact h5 (by
      have := bs_inj hend y (List.mem_range.1 hy)
      rw [show itr (grt n zs e) (fun _ => true) (K + 1) = grt n zs e (itr (grt n zs e) (fun _ => true) K) from rfl] at this
      rw [this]; exact h4)
  have hK : K ≤ 5 := by
    rcases Nat.lt_or_ge K 6 with h | h
    · omega
    · exfalso
      have h1 := hhalf K (Nat.le_refl _)
      have h2 : 1 ≤ (lst n (itr (grt n zs e) (fun _ => true) K)).length := Fin.sz_pos (grp_fg g) (hst.inv K (Nat.le_refl _))
      have h3 : 2 ^ 6 ≤ 2 ^ K := Nat.pow_le_pow_right (by omega) h
      have h4 := Nat.mul_le_mul h3 h2
      have := g.tab.le
      omega
  have hat : ∀ k, k < K + 1 → (sls n (itr (grt n zs e) (fun _ => true)) (K + 1))[k]?.getD [] = li (lst n (itr (grt n zs e) (fun _ => true) k)) := fun k hk => sls_at hk
  refine ⟨by rw [sls_len]; omega, by rw [sls_len]; omega, ?_, ?_, fun k hk => ?_, fun t h1 h2 => ?_⟩
  · rw [hat 0 (by omega), li_len]
    show (lst n fun _ => true).length = n
    rw [all_lst, List.length_range]
  · rw [sls_len, Nat.add_sub_cancel, hat K (by omega), li_len]
    exact (Fin.sz_one (grp_fg g) (hst.inv K (Nat.le_refl _))).2 (fun x hx h => hone x (List.mem_range.1 hx) h)
  · rw [sls_len] at hk
    rw [hat k hk]
    unfold gdB
    rw [Bool.and_eq_true, decide_eq_true_eq]
    exact ⟨lst_fault n _, (subT_congr g fun a ha => pset_lst ha).trans (subT_iff.2 (hst.inv k (by omega)))⟩
  · rw [sls_len] at h2
    rw [hat (t - 1) (by omega), hat t h2]
    have h3 := hmx (t - 1) (by omega)
    rw [Nat.sub_add_cancel h1] at h3
    exact h3.congr g (bs_ext fun a ha => (pset_lst ha).symm) (bs_ext fun a ha => (pset_lst ha).symm)
end
/-- What Factors answers. -/
theorem factors_grp (n e : Nat) (v lv : Value) (zs : List Int) (ls : List (List Int)) (w : World) (hv : Sl w v zs) (hg : IsGrp n zs e) (hT : Tab w) (hL : SlL w lv ls) :
    Calls Tryz.prog 6 #[.agg #[.int .i64 n, v], lv] w fun x w' => ∃ (y : Value) (c i : Int), x = .returned (.tuple #[y, .agg #[.int .i64 c, .int .i64 i]]) ∧ ((c ≠ 0 ∧ ¬ FOK n zs e ls) ∨ (c = 0 ∧ i = 0 ∧ FOK n zs e ls ∧ Row w' w.heap.size y (srtI (qts ls ls.length)))) ∧ Below w.heap.size w w' := by
  obtain ⟨v1, v2, v3, rfl⟩ := hv.isSlice
  have HC0 := hide (fun W (h : Below w.heap.size w W) => check_any n (.slice v1 v2 v3) zs W (hv.below h))
  rw [gfault_of_grp hg] at HC0
  by_cases hm : ls.length < 1 ∨ 10 < ls.length
  · refine (fac_chk n (.slice v1 v2 v3) lv w 2 0 (by decide) HC0 (hide fun W h => checked_many n (.slice v1 v2 v3) lv ls W (hL.below h) hm)).mono ?_
    rintro x w' ⟨rfl, hb⟩
    exact ⟨_, 2, 0, rfl, .inl ⟨by decide, fun h => by have := h.l1; have := h.l2; omega⟩, hb⟩
  · have l1 : 1 ≤ ls.length := by omega
    have l2 : ls.length ≤ 10 := by omega
    by_cases hs : (ls[0]?.getD []).length ≠ n ∨ (ls[ls.length - 1]?.getD []).length ≠ 1
    · refine (fac_chk n (.slice v1 v2 v3) lv w 8 0 (by decide) HC0 (hide fun W h => checked_size n (.slice v1 v2 v3) lv ls W (hL.below h) l1 l2 hs)).mono ?_
      rintro x w' ⟨rfl, hb⟩
      exact ⟨_, 8, 0, rfl, .inl ⟨by decide, fun h => by
        rcases hs with h1 | h1
        · exact h1 h.s0
        · exact h1 h.s1⟩, hb⟩
    · have s0 : (ls[0]?.getD []).length = n := Classical.byContradiction fun h => hs (.inl h)
      have s1 : (ls[ls.length - 1]?.getD []).length = 1 := Classical.byContradiction fun h => hs (.inr h)
      rcases least_cases ls.length (fun i => !gdB n zs e (ls[i]?.getD [])) with ⟨k, hk, h1, h2, _⟩ | ⟨h1, _⟩
      · have h1 : gdB n zs e (ls[k]?.getD []) = false := by simpa using h1
        have h2 : ∀ t, t < k → gdB n zs e (ls[t]?.getD []) = true := fun t ht => by simpa using h2 t ht
        refine (fac_chk n (.slice v1 v2 v3) lv w 5 k (by decide) HC0 (hide fun W h => checked_go n e (.slice v1 v2 v3) lv zs ls W (hv.below h) hg (hT.below h) (hL.below h) l1 l2 s0 s1 5 k (.inr ⟨k, hk, h2, h1, rfl, rfl⟩))).mono ?_
        rintro x w' ⟨rfl, hb⟩
        exact ⟨_, 5, k, rfl, .inl ⟨by decide, fun h => by have := h.gd k hk; rw [h1] at this; cases this⟩, hb⟩
      · have h1 : ∀ t, t < ls.length → gdB n zs e (ls[t]?.getD []) = true := fun t ht => by simpa using h1 t ht
        have hn := hg.tab.le
        refine (fac_go n v1 v2 v3 ls (fun t => stpc n zs e (pset (ls[t - 1]?.getD [])) (pset (ls[t]?.getD []))) lv w hL l1 l2 (fun t ht => ?_) HC0 (hide fun W h => checked_go n e (.slice v1 v2 v3) lv zs ls W (hv.below h) hg (hT.below h) (hL.below h) l1 l2 s0 s1 0 0 (.inl ⟨h1, rfl, rfl⟩)) (hide fun W t a b h ht1 ht2 ha hb => ?_)).mono ?_
        · have h3 := h1 t ht
          have h4 := gd_len h3
          have h5 := Fin.sz_pos (grp_fg hg) (subT_iff.1 (gd_lst h3).2)
          have h6 := lst_len n (pset (ls[t]?.getD []))
          have h7 : Fin.sz (List.range n) (pset (ls[t]?.getD [])) = (lst n (pset (ls[t]?.getD []))).length := rfl
          omega
        · have g1 := gd_lst (h1 (t - 1) (by omega))
          have g2 := gd_lst (h1 t ht2)
          exact cstep_ok n e (.slice v1 v2 v3) a b zs (pset (ls[t - 1]?.getD [])) (pset (ls[t]?.getD [])) W (hv.below h) (by rw [← g1.1]; exact ha) (by rw [← g2.1]; exact hb) hg (hT.below h) g1.2 g2.2
        · rintro x w' ⟨y, c, i, rfl, hc | ⟨h3, rfl, rfl, hr⟩, hb⟩
          · obtain ⟨t, ht1, ht2, _, h4, rfl, rfl, rfl⟩ := hc
            exact ⟨_, _, _, rfl, .inl ⟨h4, fun h => h4 (stpc_zero.2 (h.mx t ht1 ht2))⟩, hb⟩
          · exact ⟨y, 0, 0, rfl, .inr ⟨rfl, rfl, ⟨l1, l2, s0, s1, h1, fun t ht1 ht2 => stpc_zero.1 (h3 t ht1 ht2)⟩, hr⟩, hb⟩
end Go.Proofs.YtjiapicknkjhmaaGreatDoor

namespace Go.Proofs.YtjiapicknkjhmaaGreatDoor
open Go Go.RowKit

/-- A number, put into a list that rises. -/
def insI (k : Int) (o : List Int) : List Int := o.takeWhile (fun x => decide (x < k)) ++ k :: o.dropWhile (fun x => decide (x < k))
def insF (qs : Nat → Int) : Nat → List Int
  | 0 => []
  | t + 1 => insI (qs t) (insF qs t)
theorem insI_len (k : Int) (o : List Int) : (insI k o).length = o.length + 1 := by
  have h := congrArg List.length (List.takeWhile_append_dropWhile (p := fun x => decide (x < k)) (l := o))
  rw [List.length_append] at h
  unfold insI
  rw [List.length_append, List.length_cons]
  omega
theorem insF_len (qs : Nat → Int) : ∀ t, (insF qs t).length = t
  | 0 => rfl
  | t + 1 => by show (insI _ _).length = _; rw [insI_len, insF_len qs t]
theorem tw_facts (k : Int) : ∀ o : List Int, (o.takeWhile fun x => decide (x < k)).length ≤ o.length ∧ (∀ i, i < (o.takeWhile fun x => decide (x < k)).length → o[i]?.getD 0 < k) ∧ ((o.takeWhile fun x => decide (x < k)).length < o.length → ¬ o[(o.takeWhile fun x => decide (x < k)).length]?.getD 0 < k) ∧ o.takeWhile (fun x => decide (x < k)) = o.take (o.takeWhile fun x => decide (x < k)).length ∧ o.dropWhile (fun x => decide (x < k)) = o.drop (o.takeWhile fun x => decide (x < k)).length
  | [] => by simp
  | a :: o => by
    obtain ⟨h1, h2, h3, h4, h5⟩ := tw_facts k o
    by_cases ha : a < k
    · simp only [List.takeWhile_cons, List.dropWhile_cons, decide_eq_true ha, if_true, List.length_cons]
      refine ⟨by omega, fun i hi => ?_, fun h => ?_, ?_, ?_⟩
      · cases i with
        | zero => simpa using ha
        | succ i => have := h2 i (by omega); simpa using this
      · have := h3 (by omega)
        simpa using this
      · rw [List.take_succ_cons, ← h4]
      · rw [List.drop_succ_cons, ← h5]
    · simp only [List.takeWhile_cons, List.dropWhile_cons, decide_eq_false ha]
      simp
      omega
theorem run_append_zero (w : World) (ty : TypeId) (i : TypeInfo) (hi : Tryz.prog.info? 3 = some i) (B : Nat) (y : Option Addr) (c : Nat) :
    (Builtin.append_ #[22, 22] ty #[.slice (some ⟨B, 0, none⟩) 1 1, .slice y 0 c]).run Tryz.prog w = .ok (.slice (some ⟨B, 0, none⟩) 1 1) w := by
  cases y <;> simp [Builtin.append_, run_underlying under22b, sizeOf, typeInfo, hi, Builtin.lenOf, Builtin.firstCells, loadCells, loadCellsFrom, storeCells]
theorem step_append_zero {w : World} {ops : Array Oper} {o : Oper} {a : Act} {K : Act → World → Prop} {Q : Exit → Act → World → Prop} {E : Prop} (hgd : o.guard = none) (s x : Operand)
    (ho : o.op = .call { callee := .builtin .append, args := #[s, x], argTypes := #[22, 22] }) (i : TypeInfo) (hi : Tryz.prog.info? 3 = some i) (B : Nat) (y : Option Addr) (c : Nat) (hs : a.eval s = .slice (some ⟨B, 0, none⟩) 1 1) (hx : a.eval x = .slice y 0 c)
    (h : K (a.put o.dst (.slice (some ⟨B, 0, none⟩) 1 1)) w) : if Region.wanted o (yielded ops a.tmps) = true then Oper.wp Tryz.prog o a w K Q else E := by
  have hw : Region.wanted o (yielded ops a.tmps) = true := by simp [Region.wanted, hgd]
  rw [if_pos hw]
  have hr := run_append_zero w o.type i hi B y c
  unfold Oper.wp execOp
  simp only [ho, resolve, invoke, builtin, Sem.run_bind, Sem.run_pure, Result.andThen_ok, List.map_toArray, List.map_cons, List.map_nil, hs, hx, hr]
  exact h
theorem own_some {W : World} {B n op : Nat} {oa : Option Addr} {xs : List Value} (h : W.ownsRow B 3 1 (.slice oa n op) n xs) (hn : ¬ n = 0) : ∃ g, oa = some ⟨g, 0, none⟩ ∧ B ≤ g ∧ n ≤ op := by
  rcases h.2 with ⟨_, h2⟩ | ⟨g, cap, cur, hv, h1, _, h3, _⟩
  · exact absurd h2 hn
  · injection hv with e1 _ e2
    subst e1 e2
    exact ⟨g, rfl, h1, h3⟩
theorem own_cut' {W : World} {B n g cap : Nat} {e : TypeId} {xs : List Value} (h : W.ownsRow B e 1 (.slice (some ⟨g, 0, none⟩) n cap) n xs) {k : Nat} (hk : k ≤ n) : W.ownsRow B e 1 (.slice (some ⟨g, 0, none⟩) k cap) k (xs.take k) := by
  refine ⟨by rw [List.length_take, h.1]; omega, ?_⟩
  rcases h.2 with ⟨h0, _⟩ | ⟨g', cap', cur, hv, h1, h2, h3, h4, h5, h6⟩
  · cases h0
  · injection hv with e1 _ e2
    injection e1 with e1
    injection e1 with e1
    subst e1 e2
    refine .inr ⟨g, cap, cur, rfl, h1, h2, by omega, h4, h5, ?_⟩
    rw [← h6, List.take_take, Nat.mul_one, Nat.mul_one, Nat.min_eq_left hk]
theorem ints_one (xs : List Int) : ∀ u, u ∈ xs.map (Value.int .i64) → u.oneCell' = true := fun u hu => by
  obtain ⟨z, _, rfl⟩ := List.mem_map.1 hu
  rfl
theorem ints_one' (k : Int) (xs : List Int) : ∀ u, u ∈ [Value.int .i64 k] ++ xs.map (Value.int .i64) → u.oneCell' = true := fun u hu => by
  rcases List.mem_append.1 hu with h | h
  · rw [List.mem_singleton.1 h]; rfl
  · exact ints_one xs u h
/-- What factorsOf reads: sets, and what its calls answer. -/
structure FoP (n : Nat) (U : Nat → List Nat) (m : Nat) : Prop where
  pos : ∀ t, t < m → 1 ≤ (U t).length
  le : ∀ t, t < m → (U t).length ≤ 60
  lt : ∀ t, t < m → ∀ x, x ∈ U t → x < n
end Go.Proofs.YtjiapicknkjhmaaGreatDoor

namespace Go.Proofs.YtjiapicknkjhmaaGreatDoor
open Go Go.RowKit

theorem insI_perm (k : Int) (o : List Int) : (insI k o).Perm (k :: o) := by
  unfold insI
  refine List.perm_middle.trans ?_
  rw [List.takeWhile_append_dropWhile]
theorem insI_rise (k : Int) : ∀ {o : List Int}, o.Pairwise (fun a b => decide (a ≤ b) = true) → (insI k o).Pairwise (fun a b => decide (a ≤ b) = true)
  | [], _ => by simp [insI]
  | a :: o, h => by
    obtain ⟨h1, h2⟩ := List.pairwise_cons.1 h
    have h3 := insI_rise k h2
    unfold insI at h3 ⊢
    by_cases ha : a < k
    · simp only [List.takeWhile_cons, List.dropWhile_cons, decide_eq_true ha, if_true, List.cons_append]
      refine List.pairwise_cons.2 ⟨fun b hb => ?_, h3⟩
      have hb := (insI_perm k o).mem_iff.1 hb
      rcases List.mem_cons.1 hb with rfl | hb
      · exact decide_eq_true (Int.le_of_lt ha)
      · exact h1 b hb
    · simp only [List.takeWhile_cons, List.dropWhile_cons, decide_eq_false ha]
      refine List.pairwise_cons.2 ⟨fun b hb => ?_, h⟩
      have h4 : k ≤ a := by omega
      rcases List.mem_cons.1 hb with rfl | hb
      · exact decide_eq_true h4
      · exact decide_eq_true (Int.le_trans h4 (of_decide_eq_true (h1 b hb)))
theorem insF_rise (qs : Nat → Int) : ∀ t, (insF qs t).Pairwise (fun a b => decide (a ≤ b) = true)
  | 0 => List.Pairwise.nil
  | t + 1 => insI_rise _ (insF_rise qs t)
theorem insF_perm (qs : Nat → Int) : ∀ t, (insF qs t).Perm ((List.range t).map qs)
  | 0 => List.Perm.nil
  | t + 1 => by
    rw [List.range_succ, List.map_append]
    refine (insI_perm _ _).trans ?_
    refine ((insF_perm qs t).cons _).trans ?_
    exact (List.perm_append_singleton _ _).symm
theorem insF_srt (qs : Nat → Int) (t : Nat) : insF qs t = srtI ((List.range t).map qs) := by
  have tr : ∀ a b c : Int, decide (a ≤ b) = true → decide (b ≤ c) = true → decide (a ≤ c) = true := fun a b c h1 h2 => by simp at h1 h2 ⊢; omega
  have tot : ∀ a b : Int, (decide (a ≤ b) || decide (b ≤ a)) = true := fun a b => by simp; omega
  refine List.Perm.eq_of_pairwise (le := fun a b => decide (a ≤ b) = true) (fun a b _ _ h1 h2 => by simp at h1 h2; omega) (insF_rise qs t) (List.pairwise_mergeSort tr tot _) ?_
  exact (insF_perm qs t).trans (List.mergeSort_perm _ _).symm
theorem insF_qts (ls : List (List Int)) : insF (fun t => (((ls[t]?.getD []).length / (ls[t + 1]?.getD []).length : Nat) : Int)) (ls.length - 1) = srtI (qts ls ls.length) := insF_srt _ _
end Go.Proofs.YtjiapicknkjhmaaGreatDoor

namespace Go.Proofs.YtjiapicknkjhmaaGreatDoor
open Go Go.RowKit

section
variable {l : List Nat} {m : Nat → Nat → Nat} {e : Nat} {iv : Nat → Nat}
theorem Fin.sg_cj (F : Fin.Fg l m e) (V : Fin.Iv l m e iv) {A : Nat → Bool} (S : Fin.SgB l m e A) {x a : Nat} (hx : x ∈ l) (ha : a ∈ l) (h1 : A x = true) (h2 : A a = true) : A (Fin.cj m iv x a) = true := by
  have h3 : A (iv a) = true := Fin.Sg.inv F S ha (V a ha).1 (V a ha).2.1 h2
  exact S.mul _ _ (V a ha).1 (F.cl _ _ hx ha) h3 (S.mul _ _ hx ha h1 h2)
theorem Fin.Mxn.fill (F : Fin.Fg l m e) (V : Fin.Iv l m e iv) {A B C : Nat → Bool} (SA : Fin.SgB l m e A) (h : Fin.Mxn l m e iv A B) {a : Nat} (ha : a ∈ l) (h1 : A a = true) (h2 : ¬ B a = true)
    (hC : ∀ x, x ∈ l → (C x = true ↔ Fin.Gen l m e (fun y => B y = true ∨ ∃ b, b ∈ l ∧ A b = true ∧ Fin.cj m iv a b = y) x)) : Fin.sz l C = Fin.sz l A := by
  have SC : Fin.SgB l m e C := ⟨(hC e F.one).2 (Fin.Gen.sg _).one, fun x y hx hy h3 h4 => (hC _ (F.cl _ _ hx hy)).2 ((Fin.Gen.sg _).mul x y hx hy ((hC x hx).1 h3) ((hC y hy).1 h4))⟩
  have hBC : Fin.In l B C := fun x hx h3 => (hC x hx).2 (Fin.Gen.base hx (.inl h3))
  have hCA : Fin.In l C A := fun x hx h3 => by
    refine Fin.Gen.least (P := fun y => A y = true) SA (fun y hy h4 => ?_) ((hC x hx).1 h3)
    rcases h4 with h4 | ⟨b, hb, h5, rfl⟩
    · exact h.sub y hy h4
    · exact Fin.sg_cj F V SA ha hb h1 h5
  have hN : Fin.Nb l m iv C A := fun x b hx hb h3 h4 => by
    have S : Fin.Sg l m e (fun y => y ∈ l → C (Fin.cj m iv y b) = true) := by
      refine ⟨fun _ => by rw [Fin.cj_one F V hb]; exact SC.one, fun u v hu hv h5 h6 _ => ?_⟩
      rw [Fin.cj_mul F V hu hv hb]
      exact SC.mul _ _ (Fin.cj_mem F V hu hb) (Fin.cj_mem F V hv hb) (h5 hu) (h6 hv)
    refine Fin.Gen.least S (fun y hy h5 _ => ?_) ((hC x hx).1 h3) hx
    rcases h5 with h5 | ⟨c, hc, h6, rfl⟩
    · exact hBC _ (Fin.cj_mem F V hy hb) (h.nm y b hy hb h5 h4)
    · rw [Fin.cj_cj F V ha hc hb]
      have hcb := F.cl _ _ hc hb
      exact (hC _ (Fin.cj_mem F V ha hcb)).2 (Fin.Gen.base (Fin.cj_mem F V ha hcb) (.inr ⟨_, hcb, SA.mul _ _ hc hb h6 h4, rfl⟩))
  rcases h.top C SC hBC hCA hN with h3 | h3
  · refine absurd (h3 a ha ((hC a ha).2 (Fin.Gen.base ha (.inr ⟨e, F.one, SA.one, Fin.cj_id F V ha⟩)))) h2
  · exact Fin.sz_same hCA h3
end
/-- The things that a list makes. -/
noncomputable def spq (n : Nat) (zs : List Int) (e : Nat) (xs : List Nat) : Nat → Bool := Classical.choose (mkd_ex' n zs e fun a => decide (a ∈ xs))
theorem spq_iff (n : Nat) (zs : List Int) (e : Nat) (xs : List Nat) : ∀ a, a < n → (spq n zs e xs a = true ↔ Mkd n zs e (fun a => decide (a ∈ xs)) a) := Classical.choose_spec (mkd_ex' n zs e fun a => decide (a ∈ xs))
section
variable {n e : Nat} {zs : List Int}
theorem mxg_fill (g : IsGrp n zs e) {A B : Nat → Bool} (SA : subT n zs e A = true) (h : Mxg n zs e A B) {a : Nat} (ha : a ∈ lst n A) (hb : a ∉ lst n B) :
    (lst n (spq n zs e (lst n B ++ (lst n A).map (Fin.cj (tm n zs) (iv n zs e) a)))).length = (lst n A).length := by
  obtain ⟨ha, h1⟩ := mem_lst.1 ha
  refine Fin.Mxn.fill (grp_fg g) (grp_iv g) (subT_iff.1 SA) h (List.mem_range.2 ha) h1 (fun h2 => hb (mem_lst.2 ⟨ha, h2⟩)) fun x hx => ?_
  rw [spq_iff n zs e _ x (List.mem_range.1 hx)]
  constructor <;> refine Fin.Gen.mono fun y hy h3 => ?_
  · have h3 := of_decide_eq_true h3
    rw [List.mem_append, mem_lst, List.mem_map] at h3
    rcases h3 with h3 | ⟨b, hb, rfl⟩
    · exact .inl h3.2
    · exact .inr ⟨b, List.mem_range.2 (mem_lst.1 hb).1, (mem_lst.1 hb).2, rfl⟩
  · refine decide_eq_true ?_
    rw [List.mem_append, mem_lst, List.mem_map]
    rcases h3 with h3 | ⟨b, hb, h4, rfl⟩
    · exact .inl ⟨List.mem_range.1 hy, h3⟩
    · exact .inr ⟨b, mem_lst.2 ⟨List.mem_range.1 hb, h4⟩, rfl⟩
theorem mxg_stay (g : IsGrp n zs e) {A B : Nat → Bool} (h : Mxg n zs e A B) (SA : subT n zs e A = true) {a : Nat} (ha : a ∈ lst n A) : lst n (cjl n zs e (lst n B) a) = lst n B := by
  obtain ⟨ha, h1⟩ := mem_lst.1 ha
  have F := grp_fg g
  have V := grp_iv g
  have ha' := List.mem_range.2 ha
  have hi := (V a ha').1
  have h2 : A (iv n zs e a) = true := Fin.Sg.inv F (subT_iff.1 SA) ha' hi (V a ha').2.1 h1
  refine lst_congr fun y hy => ?_
  show cjq n zs e B a y = B y
  rw [Bool.eq_iff_iff, cjq_iff]
  constructor
  · rintro ⟨x, hx, h3, rfl⟩
    exact h.nm x a hx ha' h3 h1
  · intro h3
    exact ⟨_, Fin.cj_mem F V (List.mem_range.2 hy) hi, h.nm y _ (List.mem_range.2 hy) hi h3 h2, (Fin.cj_back F V (List.mem_range.2 hy) ha').2⟩
theorem lst_dec (p : Nat → Bool) : ∀ a, a < n → (decide (a ∈ lst n p)) = p a := fun a ha => by
  rw [Bool.eq_iff_iff, decide_eq_true_eq, mem_lst]
  exact ⟨fun h => h.2, fun h => ⟨ha, h⟩⟩
end
end Go.Proofs.YtjiapicknkjhmaaGreatDoor

namespace Go.Proofs.YtjiapicknkjhmaaGreatDoor
open Go Go.RowKit

set_option maxRecDepth 100000 in
set_option maxHeartbeats 16000000 in
theorem fo_go (n : Nat) (v1 : Option Addr) (v2 v3 : Nat) (ls : List (List Int)) (U : Nat → List Nat) (SHL : Nat → Nat → List Int) (CJ : Nat → Nat → Nat) (SPL : List Nat → List Nat) (lv : Value) (w : World) (hL : SlL w lv ls) (hl1 : 1 ≤ ls.length) (hl2 : ls.length ≤ 10)
    (hU : ∀ t, t < ls.length → ls[t]?.getD [] = li (U t)) (FP : FoP n U ls.length) (hs0 : (U 0).length = n) (hs1 : (U (ls.length - 1)).length = 1)
    (HGF : Hid (∀ W, Below w.heap.size w W → Calls Tryz.prog 14 #[.agg #[.int .i64 n, .slice v1 v2 v3]] W fun x W' => x = .returned (.agg #[.int .i64 0, .int .i64 0]) ∧ Below W.heap.size W W'))
    (HLF : Hid (∀ W u t, Below w.heap.size w W → t < ls.length → Sl W u (li (U t)) → Calls Tryz.prog 28 #[.agg #[.int .i64 n, .slice v1 v2 v3], u] W fun x W' => x = .returned (.agg #[.int .i64 0, .int .i64 0]) ∧ Below W.heap.size W W'))
    (HCD : Hid (∀ W u t, Below w.heap.size w W → t < ls.length → Sl W u (li (U t)) → Calls Tryz.prog 29 #[.agg #[.int .i64 n, .slice v1 v2 v3], u] W fun x W' => x = .returned (.bool true) ∧ Below W.heap.size W W'))
    (HPT : Hid (∀ t, 1 ≤ t → t < ls.length → ((li (U t)).all fun a => decide (a ∈ li (U (t - 1)))) = true))
    (HSH : Hid (∀ W u t a, Below w.heap.size w W → t < ls.length → a < n → Sl W u (li (U t)) → Calls Tryz.prog 31 #[.agg #[.int .i64 n, .slice v1 v2 v3], u, .int .i64 a] W fun x W' => ∃ r1 r2 r3, x = .returned (.slice r1 r2 r3) ∧ Sl W' (.slice r1 r2 r3) (SHL t a) ∧ Below W.heap.size W W'))
    (HSL : Hid (∀ t a, 1 ≤ t → t < ls.length → a ∈ U (t - 1) → SHL t a = li (U t)))
    (HNE : Hid (∀ t, 1 ≤ t → t < ls.length → (U t).length ≠ (U (t - 1)).length))
    (HCJ : Hid (∀ W x y, Below w.heap.size w W → x < n → y < n → Calls Tryz.prog 33 #[.agg #[.int .i64 n, .slice v1 v2 v3], .int .i64 x, .int .i64 y] W fun r W' => r = .returned (.int .i64 (CJ x y)) ∧ Below W.heap.size W W'))
    (HCL : Hid (∀ x y, x < n → y < n → CJ x y < n))
    (HSP : Hid (∀ W u xs, Below w.heap.size w W → (∀ x, x ∈ xs → x < n) → xs.length ≤ 200 → Sl W u (li xs) → Calls Tryz.prog 34 #[.agg #[.int .i64 n, .slice v1 v2 v3], u] W fun r W' => ∃ r1 r3, r = .returned (.slice r1 (SPL xs).length r3) ∧ Below W.heap.size W W'))
    (HSQ : Hid (∀ t a, 1 ≤ t → t < ls.length → a ∈ U (t - 1) → a ∉ U t → (SPL (U t ++ (U (t - 1)).map (CJ a))).length = (U (t - 1)).length))
    (QS : Nat → Int) (hQS : QS = fun t => (((U t).length / (U (t + 1)).length : Nat) : Int)) :
    Calls Tryz.prog 9 #[.agg #[.int .i64 n, .slice v1 v2 v3], lv] w fun x w' => ∃ y, x = .returned (.tuple #[y, .agg #[.int .i64 0, .int .i64 0]]) ∧ Row w' w.heap.size y (insF QS (ls.length - 1)) ∧ Below w.heap.size w w' := by
  obtain ⟨i3, hi3, hy0, hy1, hy2⟩ := info_parts info3b
  obtain ⟨la, lc, lb, lo, rfl, h1, h2, h3, _, _⟩ := id hL
  obtain rfl := h1 (by omega)
  obtain ⟨w0, BG⟩ := Beg.new w n (.slice v1 v2 v3)
  have HROW := hide (fun j (hj : j < ls.length) => (show ∃ r1 r3, w.cell? ⟨lb, lo + j, none⟩ = some (.slice r1 (U j).length r3) ∧ Sl w (.slice r1 (U j).length r3) (li (U j)) by
    obtain ⟨r1, r3, hc, hs⟩ := row_at h2 hj
    rw [hU j hj, li_len] at hc hs
    exact ⟨r1, r3, hc, hs⟩))
  have HFP := hide FP
  clear h1 h2 hU FP hL
  obtain ⟨c0, c1, _, _⟩ := BG.box.two
  rw [BG.eq] at c0 c1
  go_enter Tryz.func9, Tryz.ntmps9
  go_wp2_with fail
  rw [← BG.eq]
  refine (HGF.out _ BG.bel).mono ?_
  rintro x w1 ⟨rfl, hb1⟩
  clear c0 c1
  obtain ⟨w2, hw2⟩ : ∃ w2, w2 = w1.alloc (.cells #[.int .i64 0, .int .i64 0] 28) := ⟨_, rfl⟩
  have hb2 : Below w1.heap.size w1 w2 := by rw [hw2]; exact balloc w1 _
  have hF2 : Blk w2 w1.heap.size 28 [.int .i64 0, .int .i64 0] := by rw [hw2]; exact blk0 _ _
  have hB2 := bcat2 BG.bel (bcat2 hb1 hb2)
  have hX2 := blk_below BG.box (bcat2 hb1 hb2)
  have hR2 := blk_below BG.res (bcat2 hb1 hb2)
  obtain ⟨a1, a3, ca, sa⟩ := HROW.out 0 (by omega)
  obtain ⟨b1, b3, cb, sb⟩ := HROW.out (ls.length - 1) (by omega)
  rw [Nat.add_zero, hs0] at ca
  rw [hs1] at cb
  have ca := below_cell hB2 ca
  have cb := below_cell hB2 cb
  have hs12 : w.heap.size ≤ w1.heap.size := Nat.le_trans BG.bel.size hb1.size
  clear sa sb hs0 hs1 BG HGF
  have g1 : ¬ (ls.length : Int) < 1 := by omega
  have g2 : ¬ (ls.length : Int) > 10 := by omega
  have g3 : (ls.length : Int) - 1 = ((ls.length - 1 : Nat) : Int) := by omega
  have g4 : ((ls.length - 1 : Nat) : Int) < (ls.length : Int) := by omega
  have g5 : (0 : Int) < (ls.length : Int) := by omega
  generalize hkk : ls.length - 1 = kk at *
  have HKK := hide hkk
  clear hkk
  obtain ⟨c0, c1, _, _⟩ := hX2.two
  obtain ⟨f0, f1, _, _⟩ := hF2.two
  rw [hw2] at c0 c1 f0 f1 ca cb
  go_wp2_with fail
  go_quiet (fail)
  rw [← hw2]
  have hBq := bdrewN hB2 nq
  have hXq : BoxG (w2.drewN nq) w.heap.size n (.slice v1 v2 v3) := hX2
  have hRq : Blk (w2.drewN nq) (w.heap.size + 1) 28 [.int .i64 0, .int .i64 0] := hR2
  have hFq : Blk (w2.drewN nq) w1.heap.size 28 [.int .i64 0, .int .i64 0] := hF2
  clear c0 c1 f0 f1 ca cb hw2 hB2 hX2 hR2 hF2 hb1 hb2 g3 g4
  generalize w2.drewN nq = w3 at *
  go_wp2_with fail
  go_loopw [7] (fun iv wr => ∃ j : Nat, j ≤ ls.length ∧ iv = .int .i64 j ∧ Below w3.heap.size w3 wr) (fun iv _ => ls.length - (intOf iv).toNat)
  case atStart => exact ⟨0, Nat.zero_le _, rfl, Below.refl _ _⟩
  case round =>
    obtain ⟨j, hj, rfl, hb⟩ := hrel
    have hBr := bcat2 hBq hb
    have hXr := blk_below hXq hb
    by_cases hlt : j < ls.length
    · have hji : (j : Int) < (ls.length : Int) := by omega
      obtain ⟨r1, r3, cr, sr⟩ := HROW.out j hlt
      have crw := below_cell hBq cr
      have HL1 := hide (fun W (h : Below w3.heap.size w3 W) => HLF.out W _ j (bcat2 hBq h) hlt (sr.below (bcat2 hBq h)))
      have HC1 := hide (fun W (h : Below w3.heap.size w3 W) => HCD.out W _ j (bcat2 hBq h) hlt (sr.below (bcat2 hBq h)))
      have hfld : ∀ W, Sem.run Tryz.prog (Instr.field 28 (.agg #[.int .i64 0, .int .i64 0]) 0) W = .ok (.int .i64 0) W := fun W => by kernel_rfl
      obtain ⟨d0, d1, _, _⟩ := hXq.two
      have hS : ∀ W, Below w3.heap.size w3 W → (Below w3.heap.size w3 W ∧ W.cell? ⟨w.heap.size, 0, none⟩ = some (.int .i64 n) ∧ W.cell? ⟨w.heap.size, 1, none⟩ = some (.slice v1 v2 v3) ∧ W.cell? ⟨lb, lo + j, none⟩ = some (.slice r1 (U j).length r3)) := fun W h => ⟨h, below_cell h d0, below_cell h d1, below_cell h crw⟩
      have hS0 := hS _ (bdrew hb)
      clear crw d0 d1 cr sr
      go_wp2_with fail
      go_region_held3 (fun W => Below w3.heap.size w3 W ∧ W.cell? ⟨w.heap.size, 0, none⟩ = some (.int .i64 n) ∧ W.cell? ⟨w.heap.size, 1, none⟩ = some (.slice v1 v2 v3) ∧ W.cell? ⟨lb, lo + j, none⟩ = some (.slice r1 (U j).length r3))
        (first | exact hS0 | assumption | exact hS _ (bcat2 (And.left ‹_›) hl6) | exact hS _ (bcat2 (And.left ‹_›) hl5))
        (first
          | (go_at_call 28; refine (HL1.out _ (And.left ‹_›)).mono ?_; rintro e5 U5 ⟨rfl, hl5⟩; have hU5 := bcat2 (And.left ‹_›) hl5)
          | (go_at_call 29; refine (HC1.out _ (And.left ‹_›)).mono ?_; rintro e6 U6 ⟨rfl, hl6⟩; have hU6 := bcat2 (And.left ‹_›) hl6))
      all_goals (
        go_wp2
        go_roundw
        case rel => exact ⟨j + 1, by omega, by go_num, hU6⟩
        case measure => simp [intOf]; omega)
    · have hji : ¬ (j : Int) < (ls.length : Int) := by omega
      have hFr := blk_below hFq hb
      have hRr := blk_below hRq hb
      clear hBq hXq hRq hFq
      obtain ⟨w4, hw4⟩ : ∃ w4, w4 = wr := ⟨_, rfl⟩
      rw [← hw4] at hBr hXr hFr hRr ⊢
      clear hw4 hb HLF HCD
      have hps4 : 0 < w4.heap.size := Nat.lt_of_le_of_lt (Nat.zero_le _) hXr.lt
      go_wp2_with fail
      go_loopw [8, 9] (fun ov iv wr => ∃ (t : Nat) (oa : Option Addr) (op : Nat), 1 ≤ t ∧ t ≤ ls.length ∧ iv = .int .i64 t ∧ ov = .slice oa (insF QS (t - 1)).length op ∧ (t = 1 → oa = none ∧ op = 0) ∧ Row wr w4.heap.size (.slice oa (insF QS (t - 1)).length op) (insF QS (t - 1)) ∧ Below w4.heap.size w4 wr) (fun _ iv _ => ls.length - (intOf iv).toNat)
      case atStart => exact ⟨1, none, 0, Nat.le_refl _, hl1, rfl, rfl, fun _ => ⟨rfl, rfl⟩, nil_row _ _, Below.refl _ _⟩
      case round =>
        obtain ⟨t, oa, op, ht1, htl, rfl, rfl, hnil, hrow, hb⟩ := hrel
        have HNIL := hide hnil
        clear hnil
        by_cases hlt : t < ls.length
        · have hti : (t : Int) < (ls.length : Int) := by omega
          have htj : ((t - 1 : Nat) : Int) < (ls.length : Int) := by omega
          have hts : (t : Int) - 1 = ((t - 1 : Nat) : Int) := by omega
          have hwt : IntKind.i64.wrap ((t : Int) - 1) = ((t - 1 : Nat) : Int) := by rw [IntKind.wrap_i64]; omega
          have hk0 : (0 : Int) ≤ ((t - 1 : Nat) : Int) := by omega
          obtain ⟨a1, a3, ca, sa⟩ := HROW.out (t - 1) (by omega)
          obtain ⟨b1, b3, cb, sb⟩ := HROW.out t hlt
          have hBw := bcat2 hBr hb
          have ca := below_cell hBw ca
          have cb := below_cell hBw cb
          have HPT1 := hide (HPT.out t ht1 hlt)
          have HSL1 := hide (fun a => HSL.out t a ht1 hlt)
          have hne1 := HNE.out t ht1 hlt
          have HSQ1 := hide (fun a => HSQ.out t a ht1 hlt)
          have hpa := HFP.out.pos (t - 1) (by omega)
          have hpb := HFP.out.pos t hlt
          have hqa := HFP.out.le (t - 1) (by omega)
          have hqb := HFP.out.le t hlt
          have HUA := hide (HFP.out.lt (t - 1) (by omega))
          have HUB := hide (HFP.out.lt t hlt)
          have HSH1 := hide (fun W u a (h : Below w.heap.size w W) => HSH.out W u t a h hlt)
          have HQS := hide (show insF QS (t + 1 - 1) = insI (((U (t - 1)).length / (U t).length : Nat) : Int) (insF QS (t - 1)) by
            obtain ⟨k, rfl⟩ : ∃ k, t = k + 1 := ⟨t - 1, by omega⟩
            show insI (QS k) _ = _
            rw [hQS]
            rfl)
          have hln : (insF QS (t - 1)).length ≤ 10 := by rw [insF_len]; omega
          have HLK := hide (insF_len QS (t - 1))
          generalize hUu : U (t - 1) = up at *
          generalize hUd : U t = dn at *
          generalize hol : insF QS (t - 1) = ol at *
          have HT1 := hide hts
          clear hUu hUd hol hts
          generalize hk : t - 1 = k at *
          have HKT := hide hk
          clear hk
          go_wp2_with fail
          go_quiet (fail)
          have hb5 : Below w4.heap.size w4 (wr.drewN nq) := bdrewN hb nq
          have hrow5 : Row (wr.drewN nq) w4.heap.size (.slice oa ol.length op) ol := own_keep2 hrow (fun _ _ _ => rfl)
          clear ca cb hb hrow hBw
          generalize wr.drewN nq = w5 at *
          have hB5 := bcat2 hBr hb5
          have hX5 := blk_below hXr hb5
          have su5 := sa.below hB5
          have sd5 := sb.below hB5
          have hP5 := parted_ok _ _ _ _ w5 sd5 su5
          rw [HPT1.out] at hP5
          have HP5 := hide hP5
          clear hP5
          go_wp2_with fail
          refine HP5.out.mono ?_
          rintro x w9 ⟨rfl, rfl⟩
          obtain ⟨ua, ucap, ub, uo, hue, hur, hup, huq, hum⟩ := id su5
          injection hue with hue1 hue2 hue3
          subst hue1 hue3
          have HUR := hide hur
          have HLU := hide (li_len up)
          clear hur hue2 HP5
          go_wp2_with fail
          go_loopw [12] (fun iv wr => ∃ a : Nat, a ≤ up.length ∧ iv = .int .i64 a ∧ Below w9.heap.size w9 wr) (fun iv _ => up.length - (intOf iv).toNat)
          case atStart => exact ⟨0, Nat.zero_le _, rfl, Below.refl _ _⟩
          case round =>
            obtain ⟨a, ha, rfl, hb6⟩ := hrel
            by_cases hlta : a < up.length
            · have hai : (a : Int) < (up.length : Int) := by omega
              have hck := HUR.out.cell a (by rw [HLU.out]; exact hlta)
              rw [li_get hlta] at hck
              obtain rfl := HUR.out.at_ (by rw [HLU.out]; omega)
              obtain ⟨x, hxe⟩ : ∃ x, up[a] = x := ⟨_, rfl⟩
              have hxm : x ∈ up := by rw [← hxe]; exact List.getElem_mem hlta
              rw [hxe] at hck
              have HSE := hide (HSL1.out x hxm)
              have HS1 := hide (fun W (h : Below w9.heap.size w9 W) => HSH1.out W _ x (bcat2 hB5 h) (HUA.out x hxm) (sd5.below h))
              rw [HSE.out] at HS1
              have HI1 := hide (fun W (u : Value) (h : Below w9.heap.size w9 W) (hu : Sl W u (li dn)) => ints_any u _ _ _ W hu (sd5.below h))
              rw [decide_eq_true (show li dn = li dn from rfl)] at HI1
              obtain ⟨d0, d1, _, _⟩ := hX5.two
              have hS : ∀ W, Below w9.heap.size w9 W → (Below w9.heap.size w9 W ∧ W.cell? ⟨w.heap.size, 0, none⟩ = some (.int .i64 n) ∧ W.cell? ⟨w.heap.size, 1, none⟩ = some (.slice v1 v2 v3) ∧ W.cell? ⟨ub, uo + a, none⟩ = some (.int .i64 x)) := fun W h => ⟨h, below_cell h d0, below_cell h d1, below_cell h hck⟩
              have hS0 := hS _ (bdrew hb6)
              clear hxe hck d0 d1
              go_wp2_with fail
              go_region_held3 (fun W => Below w9.heap.size w9 W ∧ W.cell? ⟨w.heap.size, 0, none⟩ = some (.int .i64 n) ∧ W.cell? ⟨w.heap.size, 1, none⟩ = some (.slice v1 v2 v3) ∧ W.cell? ⟨ub, uo + a, none⟩ = some (.int .i64 x))
                (first | exact hS0 | assumption | exact hS _ (bcat2 (And.left ‹_›) hl6) | exact hS _ (bcat2 (And.left ‹_›) hl5))
                (first
                  | (go_at_call 31; refine (HS1.out _ (And.left ‹_›)).mono ?_; rintro e5 U5 ⟨r1, r2, r3, rfl, hs5, hl5⟩; have hU5 := bcat2 (And.left ‹_›) hl5)
                  | (go_at_call 21; refine (HI1.out _ _ (And.left ‹_›) hs5).mono ?_; rintro e6 U6 ⟨rfl, hl6⟩; have hU6 := bcat2 (And.left ‹_›) hl6))
              all_goals (
                go_wp2
                go_roundw
                case rel => exact ⟨a + 1, by omega, by go_num, hU6⟩
                case measure => simp [intOf]; omega)
            · have hai : ¬ (a : Int) < (up.length : Int) := by omega
              have hnei : ¬ (up.length : Int) = (dn.length : Int) := by omega
              have hneb : ((up.length : Int) == (dn.length : Int)) = false := by rw [beq_eq_false_iff_ne]; exact hnei
              have hB6 := bcat2 hB5 hb6
              have hb46 := bcat2 hb5 hb6
              have hrow6 : Row wr w4.heap.size (.slice oa ol.length op) ol := own_keep2 hrow5 (fun g _ h2 => hb6.block g h2)
              have hX6 := blk_below hX5 hb6
              have su6 := su5.below hb6
              have sd6 := sd5.below hb6
              have HUR6 := hide (HUR.out.below hb6 hup)
              obtain ⟨w6, hw6⟩ : ∃ w6, w6 = wr := ⟨_, rfl⟩
              rw [← hw6] at hB6 hb46 hrow6 hX6 su6 sd6 HUR6 ⊢
              have hup6 : ub < w6.heap.size := by rw [hw6]; exact Nat.lt_of_lt_of_le hup hb6.size
              clear hw6 hb6 HSL1 HSH1 HPT1 hrow5 hX5 su5 sd5 HUR hB5 hb5 hup
              go_wp2_with fail
              go_loopw [13] (fun iv wr => ∃ a : Nat, a ≤ up.length ∧ iv = .int .i64 a ∧ Below w6.heap.size w6 wr) (fun iv _ => up.length - (intOf iv).toNat)
              case atStart => exact ⟨0, Nat.zero_le _, rfl, Below.refl _ _⟩
              case round =>
                obtain ⟨a, ha, rfl, hb7⟩ := hrel
                by_cases hlta : a < up.length
                · have hai : (a : Int) < (up.length : Int) := by omega
                  have hck6 := HUR6.out.cell a (by rw [HLU.out]; exact hlta)
                  rw [li_get hlta] at hck6
                  obtain rfl := HUR6.out.at_ (by rw [HLU.out]; omega)
                  obtain ⟨x, hxe⟩ : ∃ x, up[a] = x := ⟨_, rfl⟩
                  have hxm : x ∈ up := by rw [← hxe]; exact List.getElem_mem hlta
                  rw [hxe] at hck6
                  have hck := below_cell hb7 hck6
                  have hxn := HUA.out x hxm
                  have HHA := hide (rhas_ok _ _ (x : Int) wr (sd6.below hb7))
                  clear hxe
                  by_cases hin : x ∈ dn
                  · rw [decide_eq_true (mem_li.2 hin)] at HHA
                    go_wp2_with fail
                    refine HHA.out.mono ?_
                    rintro y w8 ⟨rfl, rfl⟩
                    go_wp2
                    go_roundw
                    case rel => exact ⟨a + 1, by omega, by go_num, hb7⟩
                    case measure => simp [intOf]; omega
                  · rw [decide_eq_false (fun h => hin (mem_li.1 h))] at HHA
                    have HSZ := hide (HSQ1.out x hxm hin)
                    have hB7 := bcat2 hB6 hb7
                    have hX7 := blk_below hX6 hb7
                    have HOW := hide (own_any _ _ wr (sd6.below hb7) (by rw [li_len]; omega))
                    go_wp2_with fail
                    refine HHA.out.mono ?_
                    rintro y w8 ⟨rfl, rfl⟩
                    go_wp2_with fail
                    refine HOW.out.mono ?_
                    rintro y w9 ⟨r, rfl, hm9, hb9⟩
                    obtain ⟨ma, mc, rfl⟩ := own_slice hm9
                    have HUR9 := hide (HUR6.out.below hb7 hup6)
                    have hm0 : Row w9 w8.heap.size (.slice ma (li (dn ++ (up.take 0).map (CJ x))).length mc) (li (dn ++ (up.take 0).map (CJ x))) := by
                      simp only [List.take_zero, List.map_nil, List.append_nil]
                      exact hm9
                    clear hm9 HOW HHA
                    go_wp2_with fail
                    go_loopw [14, 15] (fun mv iv wr => ∃ (b : Nat) (ma : Option Addr) (mc : Nat), b ≤ up.length ∧ iv = .int .i64 b ∧ mv = .slice ma (li (dn ++ (up.take b).map (CJ x))).length mc ∧ Row wr w8.heap.size (.slice ma (li (dn ++ (up.take b).map (CJ x))).length mc) (li (dn ++ (up.take b).map (CJ x))) ∧ Below w8.heap.size w8 wr) (fun _ iv _ => up.length - (intOf iv).toNat)
                    case atStart => exact ⟨0, ma, mc, Nat.zero_le _, rfl, by simp, hm0, hb9⟩
                    case round =>
                      clear hm0
                      obtain ⟨b, ma, mc, hbl, rfl, rfl, hrm, hbe⟩ := hrel
                      by_cases hltb : b < up.length
                      · have hbi : (b : Int) < (up.length : Int) := by omega
                        have hcy := HUR9.out.cell b (by rw [HLU.out]; exact hltb)
                        rw [li_get hltb] at hcy
                        obtain ⟨y, hye⟩ : ∃ y, up[b] = y := ⟨_, rfl⟩
                        have hym : y ∈ up := by rw [← hye]; exact List.getElem_mem hltb
                        have hyn := HUA.out y hym
                        have hsj : up.take (b + 1) = up.take b ++ [y] := by rw [List.take_succ_eq_append_getElem hltb, hye]
                        rw [hye] at hcy
                        have HSJ := hide (show li (dn ++ (up.take (b + 1)).map (CJ x)) = li (dn ++ (up.take b).map (CJ x)) ++ [((CJ x y : Nat) : Int)] by
                          rw [hsj, List.map_append, ← List.append_assoc]
                          simp [li])
                        have HLC := hide (show (li (dn ++ (up.take b).map (CJ x))).length ≤ 130 by
                          rw [li_len, List.length_append, List.length_map, List.length_take]
                          omega)
                        clear hye hsj hym
                        have HCM := hide (fun W (h : Below w8.heap.size w8 W) => HCJ.out W x y (bcat2 hB7 h) hxn hyn)
                        generalize CJ x y = z9 at *
                        generalize li (dn ++ (up.take b).map (CJ x)) = lm at *
                        obtain ⟨d0, d1, _, _⟩ := hX7.two
                        have hS : ∀ W, Below w8.heap.size w8 W → (Below w8.heap.size w8 W ∧ W.cell? ⟨w.heap.size, 0, none⟩ = some (.int .i64 n) ∧ W.cell? ⟨w.heap.size, 1, none⟩ = some (.slice v1 v2 v3) ∧ W.cell? ⟨ub, uo + a, none⟩ = some (.int .i64 x) ∧ W.cell? ⟨ub, uo + b, none⟩ = some (.int .i64 y)) := fun W h => ⟨h, below_cell h d0, below_cell h d1, below_cell h hck, below_cell h hcy⟩
                        have hS0 := hS _ (bdrew hbe)
                        have hown : wr.ownsRow w8.heap.size 3 1 (.slice ma lm.length mc) lm.length (lm.map (Value.int .i64)) := hrm
                        clear d0 d1 hcy
                        go_wp2_with fail
                        go_region_held3 (fun W => Below w8.heap.size w8 W ∧ W.cell? ⟨w.heap.size, 0, none⟩ = some (.int .i64 n) ∧ W.cell? ⟨w.heap.size, 1, none⟩ = some (.slice v1 v2 v3) ∧ W.cell? ⟨ub, uo + a, none⟩ = some (.int .i64 x) ∧ W.cell? ⟨ub, uo + b, none⟩ = some (.int .i64 y))
                          (first | exact hS0 | assumption | exact hS _ (bcat2 (And.left ‹_›) hl5) | exact hS _ (bcat2 hU5 (balloc _ _)) | exact hS _ hB99)
                          (first
                            | (go_at_call 33; refine (HCM.out _ (And.left ‹_›)).mono ?_; rintro e5 U5 ⟨rfl, hl5⟩; have hU5 := bcat2 (And.left ‹_›) hl5; have hr5 := own_keep2 (W := wr) hown (fun g _ h2 => hl5.block g h2); have hs5 := hl5.size)
                            | (refine step_append_lies _ rfl _ _ 22 rfl w8.heap.size 3 i3 (.int .i64 0) 1 8 under22b hi3 hy0 hy1 hy2 rfl (by decide) _ _ _ rfl (World.ownsRow.alloc hr5 _) ⟨U5.heap.size, 0, none⟩ 1 1 [.int .i64 z9] rfl rfl (cell_one_new _ _ _) (by simp [Value.oneCell']) (by decide) (by unfold maxLen; have := HLC.out; omega) (by have := HLC.out; omega) (by have := hU5.size; simp; omega) _ rfl ?_; intro g9 cap9 w99 hown9 hgrow hloc _; have hB99 : Below w8.heap.size w8 w99 := (hU5.alloc hU5.size _).grown hgrow (by have := hU5.size; simp; omega) (fun t e9 => owns_ge hr5 t e9)))
                        all_goals (
                          have hrow9 : Row w99 w8.heap.size (.slice (some ⟨g9, 0, none⟩) (li (dn ++ (up.take (b + 1)).map (CJ x))).length cap9) (li (dn ++ (up.take (b + 1)).map (CJ x))) := by
                            rw [HSJ.out]
                            unfold Row
                            simpa using hown9
                          clear hown9 hgrow hloc hr5 hown hrm
                          go_wp2
                          go_roundw
                          case rel => exact ⟨b + 1, some ⟨g9, 0, none⟩, cap9, by omega, by go_num, by rw [HSJ.out]; simp, hrow9, hB99⟩
                          case measure => simp [intOf]; omega)
                      · have hbi : ¬ (b : Int) < (up.length : Int) := by omega
                        have HE := hide (show dn ++ (up.take b).map (CJ x) = dn ++ up.map (CJ x) by rw [show b = up.length by omega, List.take_length])
                        rw [HE.out] at hrm ⊢
                        have hBe := bcat2 hB7 hbe
                        have hXe := blk_below hX7 hbe
                        have hsm := row_sl hrm (Nat.lt_of_le_of_lt (Nat.zero_le _) hXe.lt)
                        have HSPN := hide (HSP.out wr _ (dn ++ up.map (CJ x)) hBe (fun z hz => by
                          rcases List.mem_append.1 hz with hz | hz
                          · exact HUB.out z hz
                          · obtain ⟨y, hy, rfl⟩ := List.mem_map.1 hz
                            exact HCL.out x y hxn (HUA.out y hy)) (by rw [List.length_append, List.length_map]; omega) hsm)
                        rw [HSZ.out] at HSPN
                        obtain ⟨c0, c1, _, _⟩ := hXe.two
                        generalize li (dn ++ up.map (CJ x)) = lm at *
                        clear hsm hrm
                        go_wp2_with fail
                        clear c0 c1
                        refine HSPN.out.mono ?_
                        rintro y we ⟨r1, r3, rfl, hbf⟩
                        have hbx := bcat2 hb7 (bcat2 hbe hbf)
                        go_wp2
                        go_roundw
                        case rel => exact ⟨a + 1, by omega, by go_num, hbx⟩
                        case measure => simp [intOf]; omega
                · have hai : ¬ (a : Int) < (up.length : Int) := by omega
                  have hdiv : ¬ ((dn.length : Int) = 0) := by omega
                  have hdiv2 : ¬ dn.length = 0 := by omega
                  obtain ⟨q9, hq9⟩ : ∃ q9, up.length / dn.length = q9 := ⟨_, rfl⟩
                  have hqq : Int.tdiv (up.length : Int) (dn.length : Int) = (q9 : Int) := by rw [Int.tdiv_eq_ediv_of_nonneg (by omega), ← Int.natCast_ediv, hq9]
                  have hqe : (up.length : Int) / (dn.length : Int) = (q9 : Int) := by rw [← Int.natCast_ediv, hq9]
                  have hq2 : q9 ≤ 60 := by rw [← hq9]; exact Nat.le_trans (Nat.div_le_self _ _) hqa
                  have hwq : IntKind.i64.wrap (q9 : Int) = (q9 : Int) := by rw [IntKind.wrap_i64]; omega
                  rw [hq9] at HQS
                  clear hq9
                  have hb8 := bcat2 hb46 hb7
                  have hrow8 : Row wr w4.heap.size (.slice oa ol.length op) ol := own_keep2 hrow6 (fun g _ h2 => hb7.block g h2)
                  have hso := row_sl hrow8 (Nat.lt_of_lt_of_le hps4 hb8.size)
                  obtain ⟨xa, xcap, xb, xo, hxe, hxr, hxp, hxq, hxm⟩ := id hso
                  injection hxe with hxe1 hxe2 hxe3
                  subst hxe1 hxe3
                  have HXR := hide hxr
                  have HTW := hide (tw_facts (q9 : Int) ol)
                  clear hxr hxe2 hso hb7 hrow6 hX6 su6 sd6 HUR6
                  generalize htw : (ol.takeWhile fun x => decide (x < (q9 : Int))).length = tw at *
                  have HTWE := hide htw
                  clear htw
                  have htwl := HTW.out.1
                  go_wp2_with fail
                  go_loopw [17] (fun iv w10 => ∃ c : Nat, c ≤ tw ∧ iv = .int .i64 c ∧ w10 = wr) (fun iv _ => ol.length - (intOf iv).toNat)
                  case atStart => exact ⟨0, Nat.zero_le _, rfl, rfl⟩
                  case round =>
                    obtain ⟨c, hc, rfl, rfl⟩ := hrel
                    by_cases hct : c < tw
                    · have hci : (c : Int) < (ol.length : Int) := by omega
                      have hcc := HXR.out.cell c (by omega)
                      obtain rfl := HXR.out.at_ (by omega)
                      have hlt9 := HTW.out.2.1 c hct
                      generalize ol[c]?.getD 0 = z9 at *
                      go_wp2
                      go_roundw
                      case rel => exact ⟨c + 1, by omega, by go_num, trivial⟩
                      case measure => simp [intOf]; omega
                    · by_cases hco : tw < ol.length
                      · have hci : (c : Int) < (ol.length : Int) := by omega
                        have hce : c = tw := by omega
                        have hrow8o : wr.ownsRow w4.heap.size 3 1 (.slice oa ol.length op) ol.length (ol.map (Value.int .i64)) := hrow8
                        obtain ⟨g, hg1, hg2, hg3⟩ := own_some hrow8o (by omega)
                        subst hg1
                        have HQL := hide (show insI (q9 : Int) ol = ol.take c ++ (q9 : Int) :: ol.drop c by
                          unfold insI
                          rw [HTW.out.2.2.2.1, HTW.out.2.2.2.2, ← hce])
                        have hadd : ∀ k j : Nat, (⟨g, k, none⟩ : Addr).add j = ⟨g, k + j, none⟩ := fun k j => by unfold Addr.add; split <;> simp_all
                        have HCELL := hide (fun j (hj : j < ol.length) => (show wr.cell? ⟨g, j, none⟩ = some (.int .i64 (ol[j]?.getD 0)) by
                          have h9 := hrow8o.cells (g := g) rfl j _ (show (ol.map (Value.int .i64))[j]? = some (.int .i64 (ol[j]?.getD 0)) by simp [hj])
                          rw [hadd 0 j, Nat.zero_add] at h9
                          exact h9))
                        have hcc := HCELL.out c (by omega)
                        have hge9 := HTW.out.2.2.1 hco
                        rw [← hce] at hge9
                        have hcut := own_cut' hrow8o (k := c) (by omega)
                        have hsz8 := hb8.size
                        have hlit : (wr.drew.alloc (.cells #[.int .i64 (q9 : Int)] 3)).ownsRow wr.drew.heap.size 3 1 (.slice (some ⟨wr.drew.heap.size, 0, none⟩) 1 1) 1 [.int .i64 (q9 : Int)] := World.ownsRow_lit (e := 3) (size := 1) wr.drew #[.int .i64 (q9 : Int)] 1 (Nat.le_refl _) (by unfold maxLen; omega) rfl
                        have HNW := hide (show ∀ j u, ((ol.drop c).map (Value.int .i64))[j]? = some u → (wr.drew.alloc (.cells #[.int .i64 (q9 : Int)] 3)).cell? ((⟨g, c, none⟩ : Addr).add j) = some u from fun j u h => by
                          have hj : c + j < ol.length := by
                            rcases Nat.lt_or_ge (c + j) ol.length with h9 | h9
                            · exact h9
                            · rw [List.getElem?_eq_none (by simp; omega)] at h; cases h
                          have h9 := below_cell ((bdrew (Below.refl wr.heap.size wr)).alloc (Nat.le_refl _) (.cells #[.int .i64 (q9 : Int)] 3)) (HCELL.out (c + j) hj)
                          rw [hadd c j, h9]
                          simp [hj] at h ⊢
                          exact h)
                        obtain ⟨L, hL⟩ : ∃ L, ol.length = L := ⟨_, rfl⟩
                        have HL := hide hL
                        have hdl : ((ol.drop c).map (Value.int .i64)).length = (L - c) * 1 := by simp [hL]
                        rw [hL] at hci hco hln hg3 hrow8o ⊢
                        have hcop : (c : Int) ≤ (op : Int) := by omega
                        have hci2 : (c : Int) ≤ (L : Int) := by omega
                        have hlc0 : 0 < L - c := by omega
                        have hnop : ¬ op = c := by omega
                        generalize ol[c]?.getD 0 = z9 at *
                        clear hL HCELL hrow8o hrow8 hxq htwl hct hc hce hco
                        go_wp2_with fail
                        go_region_held3 (fun _ => True)
                          (first | trivial | assumption)
                          (first
                            | (refine step_append_lies _ rfl _ _ 22 rfl wr.drew.heap.size 3 i3 (.int .i64 0) 1 8 under22b hi3 hy0 hy1 hy2 rfl (by decide) _ _ _ rfl hlit ⟨g, c, none⟩ (L - c) (op - c) ((ol.drop c).map (Value.int .i64)) rfl hdl HNW.out (ints_one _) hlc0 (by unfold maxLen; omega) (by omega) (by simp) _ rfl ?_; intro g1 cap1 w99 hown1 hgrow1 hloc1 _; have hBq1 : Below wr.heap.size wr w99 := ((bdrew (Below.refl wr.heap.size wr)).alloc (Nat.le_refl _) _).grown hgrow1 (by simp) (fun t e9 => owns_ge hlit t e9); have hcut1 := own_keep2 hcut (fun g' _ h2 => hBq1.block g' h2); have hsz1 := hBq1.size)
                            | (refine step_append_lies _ rfl _ _ 22 rfl w4.heap.size 3 i3 (.int .i64 0) 1 8 under22b hi3 hy0 hy1 hy2 rfl (by decide) _ _ _ rfl hcut1 ⟨g1, 0, none⟩ (1 + (L - c)) cap1 ([.int .i64 (q9 : Int)] ++ (ol.drop c).map (Value.int .i64)) rfl (by rw [List.length_append, hdl]; simp) (hown1.cells (g := g1) rfl) (ints_one' _ _) (by omega) (by unfold maxLen; omega) (by omega) (by omega) _ rfl ?_; intro g9 cap9 w98 hown9 hgrow hloc _; have hB98 : Below w4.heap.size w4 w98 := (bcat2 hb8 hBq1).grown hgrow (by omega) (fun t e9 => owns_ge hcut1 t e9)))
                        all_goals (
                          have hrow9 : Row w98 w4.heap.size (.slice (some ⟨g9, 0, none⟩) (insF QS (t + 1 - 1)).length cap9) (insF QS (t + 1 - 1)) := by
                            rw [HQS.out, HQL.out]
                            unfold Row
                            have e9 : (ol.take c ++ (q9 : Int) :: ol.drop c).length = c + (1 + (L - c)) := by
                              rw [List.length_append, List.length_cons, List.length_take, List.length_drop, HL.out]
                              omega
                            rw [e9]
                            simpa [List.map_take] using hown9
                          have hlen9 : c + (1 + (L - c)) = (insF QS (t + 1 - 1)).length := by
                            rw [HQS.out, HQL.out, List.length_append, List.length_cons, List.length_take, List.length_drop, HL.out]
                            omega
                          have HLEN9 := hide hlen9
                          clear hown9 hgrow hloc hown1 hgrow1 hloc1 hlen9
                          go_wp2
                          go_roundw
                          case rel => exact ⟨t + 1, some ⟨g9, 0, none⟩, cap9, by omega, by omega, by go_num, by rw [← HLEN9.out], fun h => by omega, hrow9, hB98⟩
                          case measure => simp [intOf]; omega)
                      · have hci : ¬ (c : Int) < (ol.length : Int) := by omega
                        have hcl : (c : Int) = (ol.length : Int) := by omega
                        by_cases hol0 : ol.length = 0
                        · have hk1 : t = 1 := by
                            have := HNIL.out
                            have h9 := HKT.out
                            have h8 := HLK.out
                            omega
                          obtain ⟨rfl, rfl⟩ := HNIL.out hk1
                          have hc0 : c = 0 := by omega
                          subst hc0
                          have hol : ol = [] := List.length_eq_zero_iff.1 hol0
                          subst hol
                          have hbd := bdrew hb8
                          have hlit : (wr.drew.alloc (.cells #[.int .i64 (q9 : Int)] 3)).ownsRow wr.drew.heap.size 3 1 (.slice (some ⟨wr.drew.heap.size, 0, none⟩) 1 1) 1 [.int .i64 (q9 : Int)] := World.ownsRow_lit (e := 3) (size := 1) wr.drew #[.int .i64 (q9 : Int)] 1 (Nat.le_refl _) (by unfold maxLen; omega) rfl
                          go_wp2_with fail
                          go_region_held3 (fun _ => True)
                            (first | trivial | assumption)
                            (first
                              | (refine step_append_zero rfl _ _ rfl i3 hi3 _ _ _ rfl rfl ?_)
                              | (refine step_append_lies _ rfl _ _ 22 rfl w4.heap.size 3 i3 (.int .i64 0) 1 8 under22b hi3 hy0 hy1 hy2 rfl (by decide) _ _ _ rfl (World.ownsRow_nil _ _ _ _) ⟨_, 0, none⟩ 1 1 [.int .i64 (q9 : Int)] rfl rfl (cell_one_new _ _ _) (by simp [Value.oneCell']) (by decide) (by unfold maxLen; omega) (by omega) (by have := hb8.size; simp; omega) _ rfl ?_; intro g9 cap9 w99 hown9 hgrow hloc _; have hB99 : Below w4.heap.size w4 w99 := (hbd.alloc hbd.size _).grown hgrow (by have := hb8.size; simp; omega) (fun t e9 => by cases e9)))
                          all_goals (
                            have hrow9 : Row w99 w4.heap.size (.slice (some ⟨g9, 0, none⟩) (insF QS (t + 1 - 1)).length cap9) (insF QS (t + 1 - 1)) := by
                              rw [HQS.out]
                              unfold Row
                              simpa [insI] using hown9
                            clear hown9 hgrow hloc
                            go_wp2
                            go_roundw
                            case rel => exact ⟨t + 1, some ⟨g9, 0, none⟩, cap9, by omega, by omega, by go_num, by rw [HQS.out]; simp [insI], fun h => by omega, hrow9, hB99⟩
                            case measure => simp [intOf]; omega)
                        · have hrow8o : wr.ownsRow w4.heap.size 3 1 (.slice oa ol.length op) ol.length (ol.map (Value.int .i64)) := hrow8
                          obtain ⟨g, hg1, hg2, hg3⟩ := own_some hrow8o hol0
                          subst hg1
                          have hLc : ol.length = c := by omega
                          have HQL := hide (show insI (q9 : Int) ol = ol ++ [(q9 : Int)] by
                            unfold insI
                            rw [HTW.out.2.2.2.1, HTW.out.2.2.2.2, show tw = ol.length by omega, List.take_length, List.drop_length])
                          rw [hLc] at hrow8o hg3 ⊢
                          have hown : wr.drew.ownsRow w4.heap.size 3 1 (.slice (some ⟨g, 0, none⟩) c op) c (ol.map (Value.int .i64)) := own_keep2 hrow8o (fun _ _ _ => rfl)
                          have hcop : (c : Int) ≤ (op : Int) := by omega
                          have hc10 : c ≤ 10 := by omega
                          have hbd := bdrew hb8
                          have hsz8 := hb8.size
                          have HLc := hide hLc
                          clear hcl hci hLc hrow8 hrow8o hxq hln htwl hco hct hc hol0
                          go_wp2_with fail
                          go_region_held3 (fun _ => True)
                            (first | trivial | assumption)
                            (first
                              | (refine step_append_zero rfl _ _ rfl i3 hi3 _ _ _ rfl rfl ?_)
                              | (refine step_append_lies _ rfl _ _ 22 rfl w4.heap.size 3 i3 (.int .i64 0) 1 8 under22b hi3 hy0 hy1 hy2 rfl (by decide) _ _ _ rfl (World.ownsRow.alloc hown _) ⟨_, 0, none⟩ 1 1 [.int .i64 (q9 : Int)] rfl rfl (cell_one_new _ _ _) (by simp [Value.oneCell']) (by decide) (by unfold maxLen; omega) (by omega) (by simp; omega) _ rfl ?_; intro g9 cap9 w99 hown9 hgrow hloc _; have hB99 : Below w4.heap.size w4 w99 := (hbd.alloc hbd.size _).grown hgrow (by simp; omega) (fun t e9 => owns_ge hown t e9)))
                          all_goals (
                            have hrow9 : Row w99 w4.heap.size (.slice (some ⟨g9, 0, none⟩) (insF QS (t + 1 - 1)).length cap9) (insF QS (t + 1 - 1)) := by
                              rw [HQS.out, HQL.out]
                              unfold Row
                              rw [List.length_append, HLc.out]
                              simpa using hown9
                            clear hown9 hgrow hloc hown
                            go_wp2
                            go_roundw
                            case rel => exact ⟨t + 1, some ⟨g9, 0, none⟩, cap9, by omega, by omega, by go_num, by rw [HQS.out, HQL.out, List.length_append, HLc.out]; simp, fun h => by omega, hrow9, hB99⟩
                            case measure => simp [intOf]; omega)
        · have hti : ¬ (t : Int) < (ls.length : Int) := by omega
          have HE := hide (show insF QS (t - 1) = insF QS (ls.length - 1) by rw [show t = ls.length by omega])
          rw [HE.out] at hrow ⊢
          have hBw := bcat2 hBr hb
          have hF9 := blk_below hFr hb
          have hR9 := blk_below hRr hb
          obtain ⟨t0, t1, _, _⟩ := hF9.two
          obtain ⟨y0, y1, y2, y3⟩ := hR9.two
          have hst := store_same y0 y1
          have hstd : (wr.drew.setCell ⟨w.heap.size + 1, 0, none⟩ (.int .i64 0)).setCell ⟨w.heap.size + 1, 1, none⟩ (.int .i64 0) = wr.drew := store_same y0 y1
          obtain ⟨lq, hlq⟩ : ∃ lq, lq = insF QS (ls.length - 1) := ⟨_, rfl⟩
          rw [← hlq] at hrow ⊢
          have HLQ := hide hlq
          clear hlq HE
          have hrw : Row wr.drew w.heap.size (.slice oa lq.length op) lq := own_keep2 (own_le hrow hBr.size) (fun _ _ _ => rfl)
          have hBd := bdrew hBw
          go_wp2_with fail
          go_region
          all_goals (
            go_wp2
            have y0d : wr.drew.cell? ⟨w.heap.size + 1, 0, none⟩ = some (.int .i64 0) := y0
            have y1d : wr.drew.cell? ⟨w.heap.size + 1, 1, none⟩ = some (.int .i64 0) := y1
            exact bodyPost_ret (v := .tuple #[.slice oa lq.length op, .agg #[.int .i64 0, .int .i64 0]]) (by simp [results, Tryz.results9, go_sem, y0d, y1d]) rfl ⟨_, rfl, by rw [← HLQ.out]; exact hrw, hBd⟩)
end Go.Proofs.YtjiapicknkjhmaaGreatDoor

namespace Go.Proofs.YtjiapicknkjhmaaGreatDoor
open Go Go.RowKit

set_option maxRecDepth 100000 in
set_option maxHeartbeats 8000000 in
theorem closed_ok (n e : Nat) (v u : Value) (zs : List Int) (xs : List Nat) (w : World) (hv : Sl w v zs) (hg : IsGrp n zs e) (hu : Sl w u (li xs)) (hx : ∀ x, x ∈ xs → x < n) (hxl : xs.length ≤ 100000) :
    Calls Tryz.prog 29 #[.agg #[.int .i64 n, v], u] w fun x w' => x = .returned (.bool (subT n zs e fun a => decide (a ∈ xs))) ∧ Below w.heap.size w w' := by
  have hsub := subT_iff (n := n) (zs := zs) (e := e) (q := fun a => decide (a ∈ xs))
  have hB0 : Below w.heap.size w (w.alloc (.cells #[.int .i64 n, v] 24)) := balloc w _
  have hX0 : BoxG (w.alloc (.cells #[.int .i64 n, v] 24)) w.heap.size n v := blk0 _ _
  obtain ⟨w0, hw0⟩ : ∃ w0, w0 = w.alloc (.cells #[.int .i64 n, v] 24) := ⟨_, rfl⟩
  rw [← hw0] at hB0 hX0
  obtain ⟨c0, c1, _, _⟩ := hX0.two
  rw [hw0] at c0 c1
  obtain ⟨ua, ucap, pb, po, rfl, hur, hup, huq, hum⟩ := id hu
  have HUR := hide hur
  have HX := hide hx
  have HE := hide (E_ok n v zs w0 hg.tab (hv.below hB0))
  rw [hg.one] at HE
  have HHS := hide (fun a W (h : Below w.heap.size w W) => has_sl _ xs a W (hu.below h))
  have HSUB := hide hsub
  have hFg := grp_fg hg
  clear hur hx hum hsub
  rw [li_len] at *
  have HUL := hide (li_len xs)
  go_enter Tryz.func29, Tryz.ntmps29
  go_wp2_with fail
  rw [← hw0]
  clear hw0 c0 c1
  refine HE.out.mono ?_
  rintro x9 w1 ⟨rfl, hb1⟩
  have hB1 := bcat2 hB0 hb1
  go_wp2_with fail
  refine (HHS.out e w1 hB1).mono ?_
  by_cases hee : e ∈ xs
  · rw [decide_eq_true hee]
    rintro x9 w2 ⟨rfl, hb2⟩
    have hB2 := bcat2 hB1 hb2
    have hX2 := blk_below hX0 (bcat2 hb1 hb2)
    go_wp2
    go_loopw [5] (fun i wr => ∃ k : Nat, k ≤ xs.length ∧ i = .int .i64 k ∧ (∀ t, (ht : t < xs.length) → t < k → ∀ y, y ∈ xs → tm n zs xs[t] y ∈ xs) ∧ Below w2.heap.size w2 wr) (fun i _ => xs.length - (intOf i).toNat)
    case atStart => exact ⟨0, Nat.zero_le _, rfl, fun t _ ht => by omega, Below.refl _ _⟩
    case round =>
      obtain ⟨k, hk, rfl, hno, hB⟩ := hrel
      have HNO := hide hno
      clear hno
      have hBw := bcat2 hB2 hB
      by_cases hlt : k < xs.length
      · have hck := (HUR.out.below hBw hup).cell k (by rw [HUL.out]; exact hlt)
        rw [li_get hlt] at hck
        obtain rfl := HUR.out.at_ (by rw [HUL.out]; omega)
        obtain ⟨x, hxe⟩ : ∃ x, xs[k] = x := ⟨_, rfl⟩
        have hxm : x ∈ xs := by rw [← hxe]; exact List.getElem_mem hlt
        have hxn : x < n := HX.out _ hxm
        rw [hxe] at hck
        have HXE := hide hxe
        clear hxe
        have hki : (k : Int) < (xs.length : Int) := by omega
        obtain ⟨g0, g1, _, _⟩ := (blk_below hX2 hB).two
        obtain ⟨hin, hi1, _, _⟩ := iv_spec hg hxn
        have hvr := hv.below hBw
        have HI := hide (fun W (h : Below wr.heap.size wr W) => Iiv_ok n x e v zs W hg (hvr.below h) hxn)
        have HH := hide (fun W (h : Below wr.heap.size wr W) => HHS.out (iv n zs e x) W (bcat2 hBw h))
        have hS : ∀ W, Below wr.heap.size wr W → (Below wr.heap.size wr W ∧ W.cell? ⟨w.heap.size, 0, none⟩ = some (.int .i64 n) ∧ W.cell? ⟨w.heap.size, 1, none⟩ = some v ∧ W.cell? ⟨pb, po + k, none⟩ = some (.int .i64 x)) := fun W h => ⟨h, below_cell h g0, below_cell h g1, below_cell h hck⟩
        have hS0 := hS _ (bdrew (Below.refl _ wr))
        by_cases hiin : iv n zs e x ∈ xs
        · rw [decide_eq_true hiin] at HH
          clear hi1 hin
          generalize iv n zs e x = i at *
          go_wp2_with fail
          go_region_held3 (fun W => Below wr.heap.size wr W ∧ W.cell? ⟨w.heap.size, 0, none⟩ = some (.int .i64 n) ∧ W.cell? ⟨w.heap.size, 1, none⟩ = some v ∧ W.cell? ⟨pb, po + k, none⟩ = some (.int .i64 x))
            (first | exact hS0 | assumption | exact hS _ (bcat2 (And.left ‹_›) hl1))
            (first
              | (go_at_call 40; refine (HI.out _ (And.left ‹_›)).mono ?_; rintro e1 U1 ⟨rfl, hl1⟩)
              | (go_at_call 32; refine (HH.out _ (And.left ‹_›)).mono ?_; rintro e2 U2 ⟨rfl, hl1⟩))
          have hB9 := And.left ‹Below wr.heap.size wr U2 ∧ _›
          clear hS hS0 HH HI hl1
          have hB3 := bcat2 hB hB9
          have hX3 := blk_below hX2 hB3
          have hck3 := below_cell hB9 hck
          go_wp2
          clear g0 g1 hck
          go_loopw [6] (fun i wr' => ∃ j : Nat, j ≤ xs.length ∧ i = .int .i64 j ∧ (∀ t, (ht : t < xs.length) → t < j → tm n zs x xs[t] ∈ xs) ∧ Below U2.heap.size U2 wr') (fun i _ => xs.length - (intOf i).toNat)
          case atStart => exact ⟨0, Nat.zero_le _, rfl, fun t _ ht => by omega, Below.refl _ _⟩
          case round =>
            obtain ⟨j, hj, rfl, hnj, hBj⟩ := hrel
            have HNJ := hide hnj
            clear hnj
            have hBw := bcat2 hB2 (bcat2 hB3 hBj)
            have hck := below_cell hBj hck3
            by_cases hltj : j < xs.length
            · have hcj := (HUR.out.below hBw hup).cell j (by rw [HUL.out]; exact hltj)
              rw [li_get hltj] at hcj
              obtain ⟨y, hye⟩ : ∃ y, xs[j] = y := ⟨_, rfl⟩
              have hym : y ∈ xs := by rw [← hye]; exact List.getElem_mem hltj
              have hyn : y < n := HX.out _ hym
              rw [hye] at hcj
              have HYE := hide hye
              clear hye
              have hji : (j : Int) < (xs.length : Int) := by omega
              obtain ⟨g0, g1, _, _⟩ := (blk_below hX3 hBj).two
              have hvr := hv.below hBw
              have HMM := hide (fun W (h : Below wr.heap.size wr W) => M_ok n v zs x y W hg.tab (hvr.below h) hxn hyn)
              have HH := hide (fun W (h : Below wr.heap.size wr W) => HHS.out (tm n zs x y) W (bcat2 hBw h))
              have hS : ∀ W, Below wr.heap.size wr W → (Below wr.heap.size wr W ∧ W.cell? ⟨w.heap.size, 0, none⟩ = some (.int .i64 n) ∧ W.cell? ⟨w.heap.size, 1, none⟩ = some v ∧ W.cell? ⟨pb, po + k, none⟩ = some (.int .i64 x) ∧ W.cell? ⟨pb, po + j, none⟩ = some (.int .i64 y)) := fun W h => ⟨h, below_cell h g0, below_cell h g1, below_cell h hck, below_cell h hcj⟩
              have hS0 := hS _ (bdrew (Below.refl _ wr))
              by_cases htin : tm n zs x y ∈ xs
              · rw [decide_eq_true htin] at HH
                have HTQ := hide htin
                obtain ⟨t, ht⟩ : ∃ t, tm n zs x y = t := ⟨_, rfl⟩
                rw [ht] at HMM HH
                clear ht htin
                go_wp2_with fail
                go_region_held3 (fun W => Below wr.heap.size wr W ∧ W.cell? ⟨w.heap.size, 0, none⟩ = some (.int .i64 n) ∧ W.cell? ⟨w.heap.size, 1, none⟩ = some v ∧ W.cell? ⟨pb, po + k, none⟩ = some (.int .i64 x) ∧ W.cell? ⟨pb, po + j, none⟩ = some (.int .i64 y))
                  (first | exact hS0 | assumption | exact hS _ (bcat2 (And.left ‹_›) hl1))
                  (first
                    | (go_at_call 39; refine (HMM.out _ (And.left ‹_›)).mono ?_; rintro e1 U1 ⟨rfl, hl1⟩)
                    | (go_at_call 32; refine (HH.out _ (And.left ‹_›)).mono ?_; rintro e2 U2 ⟨rfl, hl1⟩))
                have hB9 := And.left ‹Below wr.heap.size wr U2 ∧ _›
                clear hS hS0 HH HMM hl1
                go_wp2
                go_roundw
                case rel => exact ⟨j + 1, by omega, by go_num, fun t9 h1 h2 => by
                  by_cases e9 : t9 = j
                  · subst e9; rw [HYE.out]; exact HTQ.out
                  · exact HNJ.out t9 h1 (by omega), bcat2 hBj hB9⟩
                case measure => simp [intOf]; omega
              · rw [decide_eq_false htin] at HH
                have HD := hide (show (subT n zs e fun a => decide (a ∈ xs)) = false by
                  rw [← Bool.not_eq_true]
                  intro h
                  exact htin (by simpa using (HSUB.out.1 h).mul x y (List.mem_range.2 hxn) (List.mem_range.2 hyn) (by simpa using hxm) (by simpa using hym)))
                clear htin
                generalize tm n zs x y = t at *
                go_wp2_with fail
                go_region_held3 (fun W => Below wr.heap.size wr W ∧ W.cell? ⟨w.heap.size, 0, none⟩ = some (.int .i64 n) ∧ W.cell? ⟨w.heap.size, 1, none⟩ = some v ∧ W.cell? ⟨pb, po + k, none⟩ = some (.int .i64 x) ∧ W.cell? ⟨pb, po + j, none⟩ = some (.int .i64 y))
                  (first | exact hS0 | assumption | exact hS _ (bcat2 (And.left ‹_›) hl1))
                  (first
                    | (go_at_call 39; refine (HMM.out _ (And.left ‹_›)).mono ?_; rintro e1 U1 ⟨rfl, hl1⟩)
                    | (go_at_call 32; refine (HH.out _ (And.left ‹_›)).mono ?_; rintro e2 U2 ⟨rfl, hl1⟩))
                have hB9 := And.left ‹Below wr.heap.size wr U2 ∧ _›
                go_wp2
                go_ret
                exact ⟨by rw [HD.out]; rfl, bcat2 hBw hB9⟩
            · go_wp2
              go_roundw
              case rel => exact ⟨k + 1, by omega, by go_num, fun t h1 h2 y hy => by
                by_cases e9 : t = k
                · subst e9
                  obtain ⟨t9, h9, rfl⟩ := List.mem_iff_getElem.1 hy
                  rw [HXE.out]; exact HNJ.out t9 h9 (by omega)
                · exact HNO.out t h1 (by omega) y hy, bcat2 hB3 hBj⟩
              case measure => simp [intOf]; omega
        · rw [decide_eq_false hiin] at HH
          have HD := hide (show (subT n zs e fun a => decide (a ∈ xs)) = false by
            rw [← Bool.not_eq_true]
            intro h
            exact hiin (by simpa using (HSUB.out.1 h).inv hFg (List.mem_range.2 hxn) (List.mem_range.2 hin) hi1 (by simpa using hxm)))
          clear hiin hi1 hin
          generalize iv n zs e x = i at *
          go_wp2_with fail
          go_region_held3 (fun W => Below wr.heap.size wr W ∧ W.cell? ⟨w.heap.size, 0, none⟩ = some (.int .i64 n) ∧ W.cell? ⟨w.heap.size, 1, none⟩ = some v ∧ W.cell? ⟨pb, po + k, none⟩ = some (.int .i64 x))
            (first | exact hS0 | assumption | exact hS _ (bcat2 (And.left ‹_›) hl1))
            (first
              | (go_at_call 40; refine (HI.out _ (And.left ‹_›)).mono ?_; rintro e1 U1 ⟨rfl, hl1⟩)
              | (go_at_call 32; refine (HH.out _ (And.left ‹_›)).mono ?_; rintro e2 U2 ⟨rfl, hl1⟩))
          have hB9 := And.left ‹Below wr.heap.size wr U2 ∧ _›
          go_wp2
          go_ret
          exact ⟨by rw [HD.out]; rfl, bcat2 hBw hB9⟩
      · have HD := hide (show (subT n zs e fun a => decide (a ∈ xs)) = true by
          rw [HSUB.out]
          refine ⟨by simpa using hee, fun a b _ _ h1 h2 => ?_⟩
          have h1 : a ∈ xs := by simpa using h1
          have h2 : b ∈ xs := by simpa using h2
          obtain ⟨t, ht, rfl⟩ := List.mem_iff_getElem.1 h1
          simpa using HNO.out t ht (by omega) b h2)
        go_wp2
        go_ret
        exact ⟨by rw [HD.out]; rfl, hBw⟩
  · rw [decide_eq_false hee]
    rintro x9 w2 ⟨rfl, hb2⟩
    have HD := hide (show (subT n zs e fun a => decide (a ∈ xs)) = false by
      rw [← Bool.not_eq_true]
      intro h
      exact hee (by simpa using (HSUB.out.1 h).one))
    go_wp2
    go_ret
    exact ⟨by rw [HD.out]; rfl, bcat2 hB1 hb2⟩
end Go.Proofs.YtjiapicknkjhmaaGreatDoor

namespace Go.Proofs.YtjiapicknkjhmaaGreatDoor
open Go Go.RowKit

set_option maxRecDepth 100000 in
set_option maxHeartbeats 4000000 in
theorem rcj_ok (n e a b : Nat) (v : Value) (zs : List Int) (w : World) (g : IsGrp n zs e) (hv : Sl w v zs) (ha : a < n) (hb : b < n) :
    Calls Tryz.prog 33 #[.agg #[.int .i64 n, v], .int .i64 a, .int .i64 b] w fun x w' => x = .returned (.int .i64 (Fin.cj (tm n zs) (iv n zs e) a b)) ∧ Below w.heap.size w w' := by
  have hB0 : Below w.heap.size w (w.alloc (.cells #[.int .i64 n, v] 24)) := balloc w _
  have hX0 : BoxG (w.alloc (.cells #[.int .i64 n, v] 24)) w.heap.size n v := blk0 _ _
  obtain ⟨w0, hw0⟩ : ∃ w0, w0 = w.alloc (.cells #[.int .i64 n, v] 24) := ⟨_, rfl⟩
  rw [← hw0] at hB0 hX0
  have hv0 := hv.below hB0
  obtain ⟨c0, c1, _, _⟩ := hX0.two
  obtain ⟨hib, _, _, _⟩ := iv_spec g hb
  have hab := tm_lt g.tab ha hb
  show Calls Tryz.prog 33 _ w fun x w' => x = .returned (.int .i64 (tm n zs (iv n zs e b) (tm n zs a b))) ∧ Below w.heap.size w w'
  have HI := hide (fun W x (h : Below w0.heap.size w0 W) (hx : x < n) => Iiv_ok n x e v zs W g (hv0.below h) hx)
  have HM := hide (fun W x y (h : Below w0.heap.size w0 W) (hx : x < n) (hy : y < n) => M_ok n v zs x y W g.tab (hv0.below h) hx hy)
  have hS : ∀ W, Below w0.heap.size w0 W → (Below w0.heap.size w0 W ∧ W.cell? ⟨w.heap.size, 0, none⟩ = some (.int .i64 n) ∧ W.cell? ⟨w.heap.size, 1, none⟩ = some v) := fun W h => ⟨h, below_cell h c0, below_cell h c1⟩
  have hS0 := hS _ (bdrew (Below.refl _ w0))
  clear c0 c1
  go_enter Tryz.func33, Tryz.ntmps33
  go_wp2_with fail
  rw [← hw0]
  clear hw0
  go_region_held3 (fun W => Below w0.heap.size w0 W ∧ W.cell? ⟨w.heap.size, 0, none⟩ = some (.int .i64 n) ∧ W.cell? ⟨w.heap.size, 1, none⟩ = some v)
    (first | exact hS0 | assumption | exact hS _ (bcat2 (And.left ‹_›) hl1))
    (first
      | (go_at_call 40; refine (HI.out _ _ (And.left ‹_›) (by assumption)).mono ?_; rintro e1 U1 ⟨rfl, hl1⟩)
      | (go_at_call 39; refine (HM.out _ _ _ (And.left ‹_›) (by assumption) (by assumption)).mono ?_; rintro e1 U1 ⟨rfl, hl1⟩))
  all_goals (
    have hB9 := And.left ‹Below w0.heap.size w0 U1 ∧ _›
    clear hS hS0
    go_wp2
    go_ret
    exact ⟨rfl, bcat2 hB0 hB9⟩)
theorem rcj_lt {n e x a : Nat} {zs : List Int} (g : IsGrp n zs e) (hx : x < n) (ha : a < n) : Fin.cj (tm n zs) (iv n zs e) x a < n := List.mem_range.1 (Fin.cj_mem (grp_fg g) (grp_iv g) (List.mem_range.2 hx) (List.mem_range.2 ha))
theorem call96 (a : Int) (x y z : Value) (W : World) : Sem.run Tryz.prog (callFunc 65 (#[.int .i64 a] ++ #[x, y, z])) W = .ok (.enter 65 (#[.int .i64 a] ++ #[x, y, z])) W := by kernel_rfl
set_option maxRecDepth 100000 in
set_option maxHeartbeats 4000000 in
theorem shf1_ok (n e y a lb gb ab : Nat) (v lv : Value) (zs : List Int) (xs : List Nat) (w : World) (g : IsGrp n zs e) (hv : Sl w v zs) (ha : a < n) (hL : Boxed w lb 22 lv) (hsL : Sl w lv (li xs)) (hX : BoxG w gb n v) (hA : Boxed w ab 3 (.int .i64 a)) (hm : ∀ x, x ∈ xs → x < n) :
    Calls Tryz.prog 65 (#[.int .i64 y] ++ #[.pointer (some ⟨lb, 0, none⟩), .pointer (some ⟨gb, 0, none⟩), .pointer (some ⟨ab, 0, none⟩)]) w fun z w' => z = .returned (.bool (cjl n zs e xs a y)) ∧ Below w.heap.size w w' := by
  show Calls Tryz.prog 65 #[.int .i64 y, .pointer (some ⟨lb, 0, none⟩), .pointer (some ⟨gb, 0, none⟩), .pointer (some ⟨ab, 0, none⟩)] w _
  obtain ⟨la, cap, pb, po, rfl, hr, hp, hq3, hq4⟩ := hsL
  have hml : xs.length ≤ 9223372036854775807 := by rw [li_len] at hq3; unfold maxLen at hq4; omega
  rw [li_len] at *
  have HR := hide hr
  have HLL := hide (li_len xs)
  have HM9 := hide hm
  clear hr hq3 hq4 hm
  go_enter Tryz.func65, Tryz.ntmps65
  go_wp2
  go_loopw [6] (fun i wr => ∃ k : Nat, k ≤ xs.length ∧ i = .int .i64 k ∧ (∀ t, (ht : t < xs.length) → t < k → ¬ Fin.cj (tm n zs) (iv n zs e) xs[t] a = y) ∧ Below w.heap.size w wr) (fun i _ => xs.length - (intOf i).toNat)
  case atStart => exact ⟨0, Nat.zero_le _, rfl, fun t _ ht => by omega, Below.refl _ _⟩
  case round =>
    obtain ⟨k, hk, rfl, hno, hBw⟩ := hrel
    have HNO := hide hno
    clear hno
    have hLc := (Boxed.below hL hBw).cell
    by_cases hlt : k < xs.length
    · have hck := (HR.out.below hBw hp).cell k (by rw [HLL.out]; exact hlt)
      rw [li_get hlt] at hck
      obtain rfl := HR.out.at_ (by rw [HLL.out]; omega)
      obtain ⟨x, hxe⟩ : ∃ x, xs[k] = x := ⟨_, rfl⟩
      have hxn : x < n := by rw [← hxe]; exact HM9.out _ (List.getElem_mem hlt)
      rw [hxe] at hck
      have HXE := hide hxe
      clear hxe
      have HC := hide (fun W (h : Below wr.heap.size wr W) => rcj_ok n e x a v zs W g ((hv.below hBw).below h) hxn ha)
      obtain ⟨g0, g1, _, _⟩ := (blk_below hX hBw).two
      have a0 := (Boxed.below hA hBw).cell
      have hki : (k : Int) < (xs.length : Int) := by omega
      have hS : ∀ W, Below wr.heap.size wr W → (Below wr.heap.size wr W ∧ W.cell? ⟨lb, 0, none⟩ = some (.slice (some ⟨pb, po, none⟩) xs.length cap) ∧ W.cell? ⟨gb, 0, none⟩ = some (.int .i64 n) ∧ W.cell? ⟨gb, 1, none⟩ = some v ∧ W.cell? ⟨ab, 0, none⟩ = some (.int .i64 a) ∧ W.cell? ⟨pb, po + k, none⟩ = some (.int .i64 x)) := fun W h => ⟨h, below_cell h hLc, below_cell h g0, below_cell h g1, below_cell h a0, below_cell h hck⟩
      have hS0 := hS _ (bdrew (Below.refl _ wr))
      clear hck g0 g1 a0
      by_cases heq : Fin.cj (tm n zs) (iv n zs e) x a = y
      · have HD := hide (show cjl n zs e xs a y = true by
          unfold cjl
          rw [List.any_eq_true]
          exact ⟨xs[k], List.getElem_mem hlt, by rw [HXE.out]; simpa using heq⟩)
        rw [heq] at HC
        go_wp2_with fail
        go_region_held3 (fun W => Below wr.heap.size wr W ∧ W.cell? ⟨lb, 0, none⟩ = some (.slice (some ⟨pb, po, none⟩) xs.length cap) ∧ W.cell? ⟨gb, 0, none⟩ = some (.int .i64 n) ∧ W.cell? ⟨gb, 1, none⟩ = some v ∧ W.cell? ⟨ab, 0, none⟩ = some (.int .i64 a) ∧ W.cell? ⟨pb, po + k, none⟩ = some (.int .i64 x))
          (first | exact hS0 | assumption | exact hS _ (bcat2 (And.left ‹_›) hl1))
          (first | (go_at_call 33; refine (HC.out _ (And.left ‹_›)).mono ?_; rintro e3 W3 ⟨rfl, hl1⟩))
        all_goals (
          have hB9 := And.left ‹Below wr.heap.size wr W3 ∧ _›
          go_wp2
          go_ret
          exact ⟨by rw [HD.out]; first | rfl | simp, bcat hBw hB9 hBw.size⟩)
      · have HN := hide (show ∀ t, (ht : t < xs.length) → t < k + 1 → ¬ Fin.cj (tm n zs) (iv n zs e) xs[t] a = y from fun t h1 h2 => by
          by_cases e9 : t = k
          · subst e9; rw [HXE.out]; exact heq
          · exact HNO.out t h1 (by omega))
        generalize Fin.cj (tm n zs) (iv n zs e) x a = c at *
        have hci : ¬ (c : Int) = (y : Int) := by omega
        go_wp2_with fail
        go_region_held3 (fun W => Below wr.heap.size wr W ∧ W.cell? ⟨lb, 0, none⟩ = some (.slice (some ⟨pb, po, none⟩) xs.length cap) ∧ W.cell? ⟨gb, 0, none⟩ = some (.int .i64 n) ∧ W.cell? ⟨gb, 1, none⟩ = some v ∧ W.cell? ⟨ab, 0, none⟩ = some (.int .i64 a) ∧ W.cell? ⟨pb, po + k, none⟩ = some (.int .i64 x))
          (first | exact hS0 | assumption | exact hS _ (bcat2 (And.left ‹_›) hl1))
          (first | (go_at_call 33; refine (HC.out _ (And.left ‹_›)).mono ?_; rintro e3 W3 ⟨rfl, hl1⟩))
        all_goals (
          have hB9 := And.left ‹Below wr.heap.size wr W3 ∧ _›
          go_wp2
          go_roundw
          case rel => exact ⟨k + 1, by omega, by go_num, HN.out, bcat hBw hB9 hBw.size⟩
          case measure => simp [intOf]; omega)
    · have HD := hide (show cjl n zs e xs a y = false by
        unfold cjl
        rw [List.any_eq_false]
        intro z hz
        obtain ⟨t, ht, rfl⟩ := List.mem_iff_getElem.1 hz
        simpa using HNO.out t ht (by omega))
      go_wp2
      go_ret
      exact ⟨by rw [HD.out]; rfl, hBw⟩
set_option maxRecDepth 100000 in
set_option maxHeartbeats 4000000 in
theorem shf_ok (n e a : Nat) (v lv : Value) (zs : List Int) (xs : List Nat) (w : World) (g : IsGrp n zs e) (hv : Sl w v zs) (ha : a < n) (hsL : Sl w lv (li xs)) (hm : ∀ x, x ∈ xs → x < n) :
    Calls Tryz.prog 31 #[.agg #[.int .i64 n, v], lv, .int .i64 a] w fun x w' => ∃ r, x = .returned r ∧ Row w' w.heap.size r (li (lst n (cjl n zs e xs a))) ∧ Below w.heap.size w w' := by
  obtain ⟨l1, l2, l3, rfl⟩ := hsL.isSlice
  obtain ⟨w0, hw0⟩ : ∃ w0, w0 = ((w.alloc (.cells #[.int .i64 n, v] 24)).alloc (.cells #[.slice l1 l2 l3] 22)).alloc (.cells #[.int .i64 a] 3) := ⟨_, rfl⟩
  have hB0 : Below w.heap.size w w0 := by rw [hw0]; exact ((balloc w _).alloc (by simp) _).alloc (by simp; omega) _
  have hX0 : BoxG w0 w.heap.size n v := by rw [hw0]; exact ((blk0 (w := w) (T := 24) _ _).alloc _).alloc _
  have hL0 : Boxed w0 (w.heap.size + 1) 22 (.slice l1 l2 l3) := by
    have h := (Boxed.new (w.alloc (.cells #[.int .i64 n, v] 24)) 22 (.slice l1 l2 l3)).alloc (.cells #[.int .i64 a] 3)
    rw [World.size_alloc] at h
    rw [hw0]; exact h
  have hA0 : Boxed w0 (w.heap.size + 1 + 1) 3 (.int .i64 a) := by
    have h := Boxed.new ((w.alloc (.cells #[.int .i64 n, v] 24)).alloc (.cells #[.slice l1 l2 l3] 22)) 3 (.int .i64 a)
    rw [World.size_alloc, World.size_alloc] at h
    rw [hw0]; exact h
  obtain ⟨c0, c1, _, _⟩ := hX0.two
  rw [hw0] at c0 c1
  go_enter Tryz.func31, Tryz.ntmps31
  go_wp2_with fail
  rw [← hw0]
  clear hw0 c0 c1
  refine (rthose_ok n 65 v _ (cjl n zs e xs a) w0 g.tab.le (fun a W => call96 a _ _ _ W) (fun W x hW hx => shf1_ok n e x a (w.heap.size + 1) w.heap.size (w.heap.size + 1 + 1) v (.slice l1 l2 l3) zs xs W g ((hv.below hB0).below hW) ha (Boxed.below hL0 hW) ((hsL.below hB0).below hW) (blk_below hX0 hW) (Boxed.below hA0 hW) hm)).mono ?_
  rintro x w1 ⟨r, rfl, hr, hb1⟩
  go_wp2
  go_ret
  exact ⟨_, rfl, owns_mono hr hB0.size, bcat2 hB0 hb1⟩

end Go.Proofs.YtjiapicknkjhmaaGreatDoor
