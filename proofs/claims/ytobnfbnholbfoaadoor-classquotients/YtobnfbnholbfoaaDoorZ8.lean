/- Package sub's Closure at what is wrong; the closure is a normal subgroup; quotients as homomorphisms. The law ClassQuotients: its walk. Condition: the library's table of places lies as its text lays it. The frame that all rows of this family share: how a table that came in reads. The frame that all rows of this family share: what the listed table gives a walk; how a list of ints that came in reads. -/
import Derived.Test.YtobnfbnholbfoaaDoorZ7
import Derived.Test.YtobnfbnholbfoaaDoorZ5
import Derived.Test.YtobnfbnholbfoaaDoorZ3
import Derived.Test.YtobnfbnholbfoaaDoorZ6
import Derived.Test.YtobnfbnholbfoaaDoorRows
import Derived.Test.YtobnfbnholbfoaaDoorZ1
import Derived.ProofKit
import Derived.OpenShut
import Derived.ChangeOld
import Derived.Below
import Derived.SizedLaws
import Derived.LaidMore
import Derived.Stop.Joined
import Derived.Stop.LaidErr
import Derived.Lib.LaidTab
namespace Go.Proofs.YtobnfbnholbfoaaDoor
open Go Go.RowKit Go.Maps

section
variable {n e : Nat} {zs : List Int} {q r s A B : Nat → Bool}
theorem nrmq_iff {n e : Nat} {zs : List Int} {q : Nat → Bool} : nrmq n zs e q = true ↔ ∀ a, a < n → bs (cjq n zs e q a) n = bs q n := by
  unfold nrmq
  rw [decide_eq_true_eq]
  constructor
  · intro h a ha
    have := bs_inj h a ha
    unfold norq at this
    exact of_decide_eq_true this
  · intro h
    exact bs_ext fun a ha => by unfold norq; exact decide_eq_true (h a ha)
theorem nrmq_pset {n e : Nat} {zs : List Int} {q : Nat → Bool} : nrmq n zs e (pset (li (lst n q))) = nrmq n zs e q := by
  have h1 : lst n (pset (li (lst n q))) = lst n q := lst_pset n q
  have h2 : bs (pset (li (lst n q))) n = bs q n := bs_ext fun a ha => pset_lst ha
  unfold nrmq norq cjq
  rw [h1, h2]
/-- A normal subgroup. -/
structure Nsg (n : Nat) (zs : List Int) (e : Nat) (q : Nat → Bool) : Prop where
  sg : Fin.Sg (List.range n) (tm n zs) e (fun a => q a = true)
  nm : Fin.Nm (List.range n) (tm n zs) (iv n zs e) (fun a => q a = true)
theorem clo_nsg (g : IsGrp n zs e) {q p : Nat → Bool} (hp : ∀ a, a < n → (p a = true ↔ Mkd n zs e (cloq n zs e q n) a)) : Nsg n zs e p := by
  have F := grp_fg g
  have V := grp_iv g
  refine ⟨made_sg g hp, fun x a hx ha h => ?_⟩
  have hm := Fin.cj_mem F V hx ha
  exact (hp _ (List.mem_range.1 hm)).2 ((mkd_clo _).2 (Fin.clos_nm F V x a hx ha ((mkd_clo _).1 ((hp x (List.mem_range.1 hx)).1 h))))
theorem nrmq_nm (g : IsGrp n zs e) : nrmq n zs e B = true ↔ ∀ x a, x < n → a < n → B x = true → B (Fin.cj (tm n zs) (iv n zs e) x a) = true := by
  constructor
  · intro h x a hx ha h1
    have h2 := bs_inj (nrmq_iff.1 h a ha) _ (List.mem_range.1 (Fin.cj_mem (grp_fg g) (grp_iv g) (List.mem_range.2 hx) (List.mem_range.2 ha)))
    rw [← h2]
    exact cjq_iff.2 ⟨x, List.mem_range.2 hx, h1, rfl⟩
  · intro h
    refine nrmq_iff.2 fun a ha => ?_
    have F := grp_fg g
    have V := grp_iv g
    have ha' := List.mem_range.2 ha
    have hi := (V a ha').1
    refine bs_ext fun y hy => ?_
    rw [Bool.eq_iff_iff, cjq_iff]
    constructor
    · rintro ⟨x, hx, h1, rfl⟩
      exact h x a (List.mem_range.1 hx) ha h1
    · intro h1
      exact ⟨_, Fin.cj_mem F V (List.mem_range.2 hy) hi, h y _ hy (List.mem_range.1 hi) h1, (Fin.cj_back F V (List.mem_range.2 hy) ha').2⟩
end
set_option maxRecDepth 100000 in
set_option maxHeartbeats 4000000 in
theorem clo_bad (N : Int) (v u0 : Value) (zs l0 : List Int) (w : World) (hv : Sl w v zs) (hu : Sl w u0 l0) (hc : (sfault N zs l0).1 ≠ 0) :
    Calls Tryd.prog 33 #[.agg #[.int .i64 N, v], u0] w fun x w' => x = .returned (.tuple #[.slice none 0 0, .agg #[.int .i64 (sfault N zs l0).1, .int .i64 (sfault N zs l0).2]]) ∧ Below w.heap.size w w' := by
  obtain ⟨w0, BG⟩ := Beg.new w N v
  have hv0 := hv.below BG.bel
  obtain ⟨c0, c1, _, _⟩ := BG.box.two
  have hck := oset_bad N v u0 zs l0 w0 hv0 (hu.below BG.bel) hc
  obtain ⟨c, i, hci⟩ : ∃ c i, sfault N zs l0 = (c, i) := ⟨_, _, rfl⟩
  rw [hci] at hck hc ⊢
  simp only at hc hck
  have HCK := hide hck
  clear hck hci
  have hcb : (c != 0) = true := by simpa using hc
  rw [BG.eq] at c0 c1
  go_enter Tryd.func33, Tryd.ntmps33
  go_wp2_with fail
  rw [← BG.eq]
  refine HCK.out.mono ?_
  rintro x w1 ⟨rfl, hb1⟩
  clear c0 c1
  obtain ⟨w2, hw2⟩ : ∃ w2, w2 = (w1.alloc (.cells #[.int .i64 0, .slice none 0 0, .int .i64 0, .slice none 0 0] 63)).alloc (.cells #[.int .i64 c, .int .i64 i] 27) := ⟨_, rfl⟩
  have hB1 : Below w0.heap.size w0 w2 := by rw [hw2]; exact bcat2 hb1 ((balloc w1 _).alloc (by simp) _)
  have hF1 : Blk w2 (w1.heap.size + 1) 27 [.int .i64 c, .int .i64 i] := by
    rw [hw2]
    have := blk0 (w := w1.alloc (.cells #[.int .i64 0, .slice none 0 0, .int .i64 0, .slice none 0 0] 63)) (T := 27) (.int .i64 c) (.int .i64 i)
    rwa [World.size_alloc] at this
  have hR1 := blk_below BG.res hB1
  have hBw := bcat BG.bel hB1 BG.bel.size
  obtain ⟨y0, y1, fy0, fy1⟩ := hR1.two
  obtain ⟨t0, t1, _, _⟩ := hF1.two
  rw [hw2] at t0 t1
  go_wp2_with fail
  rw [← hw2]
  rw [← hw2] at t0 t1
  clear hw2
  go_region
  all_goals (
    go_wp2
    obtain ⟨hR6, hB6⟩ := put2 hR1 hBw (by omega) c i
    have hB7 := bdrew hB6
    have hR7 : Blk ((w2.setCell ⟨w.heap.size + 1, 0, none⟩ (.int .i64 c)).setCell ⟨w.heap.size + 1, 1, none⟩ (.int .i64 i)).drew (w.heap.size + 1) 27 [.int .i64 c, .int .i64 i] := hR6
    generalize ((w2.setCell ⟨w.heap.size + 1, 0, none⟩ (.int .i64 c)).setCell ⟨w.heap.size + 1, 1, none⟩ (.int .i64 i)).drew = W at hR7 hB7 ⊢
    obtain ⟨z0, z1, _, _⟩ := hR7.two
    exact bodyPost_ret (v := .tuple #[.slice none 0 0, .agg #[.int .i64 c, .int .i64 i]]) (by simp [results, Tryd.results33, go_sem, z0, z1]) rfl ⟨rfl, hB7⟩)
/-- A map of things that keeps products. -/
structure IsHom (n : Nat) (zs : List Int) (m : Nat) (ys : List Int) (φ : Nat → Nat) : Prop where
  lt : ∀ a, a < n → φ a < m
  mul : ∀ a b, a < n → b < n → φ (tm n zs a b) = tm m ys (φ a) (φ b)
theorem IsHom.one {n e m d : Nat} {zs ys : List Int} {φ : Nat → Nat} (g : IsGrp n zs e) (h : IsGrp m ys d) (H : IsHom n zs m ys φ) : φ e = d := by
  have h1 := H.mul e e g.elt g.elt
  rw [g.left e g.elt] at h1
  have hl := H.lt e g.elt
  exact grp_cancel h hl hl h.elt (by rw [← h1, h.right _ hl])
/-- A homomorphism onto. -/
structure IsOnto (n : Nat) (zs : List Int) (m : Nat) (ys : List Int) (π : Nat → Nat) : Prop where
  hom : IsHom n zs m ys π
  hits : ∀ y, y < m → ∃ a, a < n ∧ π a = y
section
variable {n e : Nat} {zs : List Int} {q : Nat → Bool}
/-- A quotient is an image. -/
theorem quo_onto (g : IsGrp n zs e) (hs : subT n zs e q = true) (hN : nrmq n zs e q = true) :
    IsOnto n zs (fsts n (rgtq n zs (lst n q)) n).length (mkT (fsts n (rgtq n zs (lst n q)) n).length (quoF n zs (rgtq n zs (lst n q)))) (num n (rgtq n zs (lst n q))) := by
  have P := rgt_parts g hs
  refine ⟨⟨fun a ha => (prts_num_lt P ha).1, fun a b ha hb => ?_⟩, fun i hi => ⟨_, fst_lt hi, prts_num_at P hi⟩⟩
  rw [tm_mk (prts_num_lt P ha).1 (prts_num_lt P hb).1]
  exact (quo_hom g hs hN ha hb).symm
end
end Go.Proofs.YtobnfbnholbfoaaDoor

namespace Go.Proofs.YtobnfbnholbfoaaDoor
open Go Go.RowKit Go.Maps

/-- The first of a thing's set. -/
def ldr (n : Nat) (f : Nat → Nat → Bool) (x : Nat) : Nat := ((lst n (f x)).head?).getD 0
theorem ldr_ok {n x : Nat} {f : Nat → Nat → Bool} (h : Prts n f) (hx : x < n) : ldr n f x < n ∧ f x (ldr n f x) = true ∧ (lst n (f (ldr n f x))).head? = some (ldr n f x) := by
  have hne : lst n (f x) ≠ [] := List.ne_nil_of_mem (mem_lst.2 ⟨hx, h.refl x hx⟩)
  unfold ldr
  cases hl : (lst n (f x)).head? with
  | none => rw [List.head?_eq_none_iff] at hl; exact absurd hl hne
  | some k =>
    have h1 := head_lst.1 hl
    rw [Option.getD_some]
    refine ⟨h1.1, h1.2.1, head_lst.2 ⟨h1.1, h.refl k h1.1, fun b hb => ?_⟩⟩
    rw [← h.same x k hx h1.1 h1.2.1 b (by omega)]
    exact h1.2.2 b hb
theorem onto_cjx {n e m d : Nat} {zs ys : List Int} {π : Nat → Nat} (g : IsGrp n zs e) (h : IsGrp m ys d) (O : IsHom n zs m ys π) {x a : Nat} (hx : x < n) (ha : a < n) : π (Fin.cj (tm n zs) (iv n zs e) x a) = Fin.cj (tm m ys) (iv m ys d) (π x) (π a) := by
  have hc : Fin.cj (tm n zs) (iv n zs e) x a < n := List.mem_range.1 (Fin.cj_mem (grp_fg g) (grp_iv g) (List.mem_range.2 hx) (List.mem_range.2 ha))
  refine (Fin.cj_unique (grp_fg h) (grp_iv h) (List.mem_range.2 (O.lt x hx)) (List.mem_range.2 (O.lt _ hc)) (List.mem_range.2 (O.lt a ha)) ?_).symm
  rw [← O.mul a _ ha hc, Fin.cj_eq (grp_fg g) (grp_iv g) (List.mem_range.2 hx) (List.mem_range.2 ha), O.mul x a hx ha]
/-- A quotient has no more classes. -/
theorem cls_le {n e m d : Nat} {zs ys : List Int} {π : Nat → Nat} (g : IsGrp n zs e) (h : IsGrp m ys d) (O : IsOnto n zs m ys π) : (rcs m (clq m ys d) m).length ≤ (rcs n (clq n zs e) n).length := by
  have PG := clq_parts g
  have PQ := clq_parts h
  unfold rcs
  rw [List.length_map, List.length_map]
  have hch : ∀ y : Nat, ∃ a, y < m → a < n ∧ π a = y := fun y => by
    by_cases hy : y < m
    · obtain ⟨a, h1, h2⟩ := O.hits y hy
      exact ⟨a, fun _ => ⟨h1, h2⟩⟩
    · exact ⟨0, fun h9 => absurd h9 hy⟩
  let ψ : Nat → Nat := fun y => Classical.choose (hch y)
  have hψ : ∀ y, y < m → ψ y < n ∧ π (ψ y) = y := fun y hy => Classical.choose_spec (hch y) hy
  have h1 : (((List.range m).filter fun a => decide ((lst m (clq m ys d a)).head? = some a)).map fun y => ldr n (clq n zs e) (ψ y)).Nodup := by
    refine map_nodup (List.nodup_range.filter _) fun x y hx hy hxy => ?_
    rw [List.mem_filter, List.mem_range, decide_eq_true_eq] at hx hy
    obtain ⟨a1, a2⟩ := hψ x hx.1
    obtain ⟨b1, b2⟩ := hψ y hy.1
    obtain ⟨k1, k2, _⟩ := ldr_ok PG a1
    obtain ⟨_, l2, _⟩ := ldr_ok PG b1
    rw [← hxy] at l2
    have hk : clq n zs e (ψ x) (ψ y) = true := by
      rw [PG.same _ _ a1 k1 k2 _ b1]
      exact PG.symm b1 k1 l2
    obtain ⟨t, ht, h9⟩ := clq_iff.1 hk
    have hxy2 : clq m ys d x y = true := clq_iff.2 ⟨π t, O.hom.lt t ht, by rw [← b2, ← h9, onto_cjx g h O.hom a1 ht, a2]⟩
    have h10 : lst m (clq m ys d x) = lst m (clq m ys d y) := lst_congr fun c hc => PQ.same _ _ hx.1 hy.1 hxy2 c hc
    have h11 := hx.2
    rw [h10, hy.2] at h11
    injection h11 with h11
    exact h11.symm
  have h2 := nodup_len _ ((List.range n).filter fun a => decide ((lst n (clq n zs e a)).head? = some a)) h1 (fun z hz => by
    obtain ⟨y, hy, rfl⟩ := List.mem_map.1 hz
    rw [List.mem_filter, List.mem_range] at hy
    obtain ⟨k1, _, k3⟩ := ldr_ok PG (hψ y hy.1).1
    rw [List.mem_filter, List.mem_range, decide_eq_true_eq]
    exact ⟨k1, k3⟩)
  rwa [List.length_map] at h2
/-- A class is in a normal subgroup as a whole, or not at all. -/
theorem cls_whole {n e x : Nat} {zs : List Int} {c : Nat → Bool} (g : IsGrp n zs e) (hN : Nsg n zs e c) (hx : x < n) : ((li (lst n (clq n zs e x))).filter fun a => decide (a ∈ li (lst n c))).length = 0 ∨ ((li (lst n (clq n zs e x))).filter fun a => decide (a ∈ li (lst n c))).length = (lst n (clq n zs e x)).length := by
  have hmem : ∀ y : Nat, (y : Int) ∈ li (lst n c) ↔ y < n ∧ c y = true := fun y => by
    unfold li
    rw [List.mem_map]
    constructor
    · rintro ⟨z, hz, h1⟩
      obtain rfl : z = y := by omega
      exact mem_lst.1 hz
    · exact fun h => ⟨y, mem_lst.2 h, rfl⟩
  by_cases hc : c x = true
  · right
    have : (li (lst n (clq n zs e x))).filter (fun a => decide (a ∈ li (lst n c))) = li (lst n (clq n zs e x)) := List.filter_eq_self.2 fun a ha => by
      unfold li at ha
      obtain ⟨y, hy, rfl⟩ := List.mem_map.1 ha
      obtain ⟨hyn, hyc⟩ := mem_lst.1 hy
      obtain ⟨t, ht, rfl⟩ := clq_iff.1 hyc
      exact decide_eq_true ((hmem _).2 ⟨hyn, hN.nm x t (List.mem_range.2 hx) (List.mem_range.2 ht) hc⟩)
    rw [this]; simp [li]
  · left
    rw [List.length_eq_zero_iff, List.filter_eq_nil_iff]
    intro a ha h9
    unfold li at ha
    obtain ⟨y, hy, rfl⟩ := List.mem_map.1 ha
    obtain ⟨hyn, hyc⟩ := mem_lst.1 hy
    have h10 := ((hmem y).1 (of_decide_eq_true h9)).2
    obtain ⟨t, ht, h11⟩ := clq_iff.1 ((clq_parts g).symm hx hyn hyc)
    apply hc
    rw [← h11]
    exact hN.nm y t (List.mem_range.2 hyn) (List.mem_range.2 ht) h10

set_option maxRecDepth 100000 in
set_option maxHeartbeats 4000000 in
theorem clquo_bad (N c i : Int) (v u : Value) (w : World) (hT : Tab w) (hc : c ≠ 0)
    (HCL : Hid (∀ W, Below w.heap.size w W → Calls Tryd.prog 33 #[.agg #[.int .i64 N, v], u] W fun x W' => x = .returned (.tuple #[.slice none 0 0, .agg #[.int .i64 c, .int .i64 i]]) ∧ Below W.heap.size W W')) :
    Calls Tryd.prog 8 #[.agg #[.int .i64 N, v], u] w fun x w' => x = .returned (.bool true) ∧ Below w.heap.size w w' := by
  have hB0 : Below w.heap.size w (w.alloc (.cells #[.int .i64 N, v] 24)) := balloc w _
  have hX0 : BoxG (w.alloc (.cells #[.int .i64 N, v] 24)) w.heap.size N v := blk0 _ _
  obtain ⟨w0, hw0⟩ : ∃ w0, w0 = w.alloc (.cells #[.int .i64 N, v] 24) := ⟨_, rfl⟩
  rw [← hw0] at hB0 hX0
  have hcb : (c != 0) = true := by simpa using hc
  go_enter Tryd.func8, Tryd.ntmps8
  go_wp2_with fail
  rw [← hw0]
  clear hw0
  refine (classBegun_any w0 (hT.below hB0)).mono ?_
  rintro x w1 ⟨rfl, hb1⟩
  have hB1 := bcat2 hB0 hb1
  obtain ⟨c0, c1, _, _⟩ := (blk_below hX0 hb1).two
  go_wp2_with fail
  clear c0 c1
  refine (HCL.out _ hB1).mono ?_
  rintro x w2 ⟨rfl, hb2⟩
  have hb3 := balloc w2 (.cells #[.int .i64 c, .int .i64 i] 27)
  have hF3 := blk0 (w := w2) (T := 27) (.int .i64 c) (.int .i64 i)
  have hB3 := bcat2 (bcat2 hB1 hb2) hb3
  obtain ⟨t0, t1, _, _⟩ := hF3.two
  go_wp2
  go_ret
  exact ⟨rfl, hB3⟩

set_option maxRecDepth 100000 in
set_option maxHeartbeats 4000000 in
theorem clquo_good (n e : Nat) (v u : Value) (zs us : List Int) (w : World) (hv : Sl w v zs) (hu : Sl w u us) (hT : Tab w) (hg : IsGrp n zs e) (hl : lfault n us = (0, 0)) :
    Calls Tryd.prog 8 #[.agg #[.int .i64 n, v], u] w fun x w' => x = .returned (.bool true) ∧ Below w.heap.size w w' := by
  obtain ⟨va, vl, vc, rfl⟩ := hv.isSlice
  obtain ⟨c, hc⟩ := mkd_ex' n zs e (cloq n zs e (pset us) n)
  have hN := clo_nsg hg hc
  have hcs : subT n zs e c = true := subT_iff.2 hN.sg
  have hNq : nrmq n zs e c = true := (nrmq_nm hg).2 fun x a hx ha h => hN.nm x a (List.mem_range.2 hx) (List.mem_range.2 ha) h
  have Q := quo_grp hg hcs hNq
  have O := quo_onto hg hcs hNq
  have HLE := hide (cls_le hg Q O)
  have HWH := hide (fun x (hx : x < n) => cls_whole hg hN hx)
  have hB0 : Below w.heap.size w (w.alloc (.cells #[.int .i64 n, .slice va vl vc] 24)) := balloc w _
  have hX0 : BoxG (w.alloc (.cells #[.int .i64 n, .slice va vl vc] 24)) w.heap.size n (.slice va vl vc) := blk0 _ _
  obtain ⟨w0, hw0⟩ : ∃ w0, w0 = w.alloc (.cells #[.int .i64 n, .slice va vl vc] 24) := ⟨_, rfl⟩
  rw [← hw0] at hB0 hX0
  have HCL := hide (fun W (h : Below w.heap.size w W) => clo_good n e (.slice va vl vc) u zs us c W (hv.below h) hg (hu.below h) (hT.below h) hl hc)
  have HQU := hide (fun W u9 (h : Below w.heap.size w W) (hs : Sl W u9 (li (lst n c))) => quo_good n e (.slice va vl vc) u9 zs (li (lst n c)) W (hv.below h) hg hs (hT.below h) (lst_fault n c) ((subT_congr hg fun a ha => pset_lst ha).trans hcs) (by rw [nrmq_pset]; exact hNq))
  rw [lst_pset] at HQU
  have HA1 := hide (fun W (h : Below w.heap.size w W) => cla_sl n e (.slice va vl vc) zs W (hv.below h) hg (hT.below h))
  have HA2 := hide (fun W y (h : Below w.heap.size w W) (hs : Sl W y (mkT (fsts n (rgtq n zs (lst n c)) n).length (quoF n zs (rgtq n zs (lst n c))))) => cla_sl _ _ y _ W hs Q (hT.below h))
  have hcl := lst_len n c
  have hn := hg.tab.le
  have hrl := rcs_len n (clq n zs e) n
  have hql : (fsts n (rgtq n zs (lst n c)) n).length ≤ n := fsts_len _ _ _
  clear hN hcs hNq Q O hc
  generalize (fsts n (rgtq n zs (lst n c)) n).length = m at *
  generalize quoF n zs (rgtq n zs (lst n c)) = qF at *
  generalize num n (rgtq n zs (lst n c)) e = d at *
  generalize hbs : rcs m (clq m (mkT m qF) d) m = bl at *
  go_enter Tryd.func8, Tryd.ntmps8
  go_wp2_with fail
  rw [← hw0]
  clear hw0
  refine (classBegun_any w0 (hT.below hB0)).mono ?_
  rintro x w1 ⟨rfl, hb1⟩
  have hB1 := bcat2 hB0 hb1
  have hX1 := blk_below hX0 hb1
  obtain ⟨c0, c1, _, _⟩ := hX1.two
  go_wp2_with fail
  clear c0 c1
  refine (HCL.out _ hB1).mono ?_
  rintro x w2 ⟨r, rfl, hr, hb2⟩
  have hr2 := hr.sl
  obtain ⟨ra, rl, rc, rfl⟩ := hr2.isSlice
  have hb3 := balloc w2 (.cells #[.int .i64 0, .int .i64 0] 27)
  have hF3 := blk0 (w := w2) (T := 27) (.int .i64 0) (.int .i64 0)
  have hB3 := bcat2 (bcat2 hB1 hb2) hb3
  have hX3 := blk_below hX1 (bcat2 hb2 hb3)
  have hr3 := hr2.below hb3
  have hf3 : w.heap.size ≤ w2.heap.size := (bcat2 hB1 hb2).size
  obtain ⟨t0, t1, _, _⟩ := hF3.two
  obtain ⟨c0, c1, _, _⟩ := hX3.two
  go_wp2_with fail
  generalize w2.alloc (.cells #[.int .i64 0, .int .i64 0] 27) = w3 at *
  generalize w2.heap.size = fb at *
  clear t0 t1 c0 c1
  refine (HQU.out _ _ hB3 hr3).mono ?_
  rintro x w4 ⟨q1, q2, q3, s1, s2, s3, rfl, hq, _, hb4⟩
  obtain ⟨w5, hw5⟩ : ∃ w5, w5 = (w4.alloc (.cells #[.int .i64 m, .slice q1 q2 q3] 24)).alloc (.cells #[.int .i64 0, .int .i64 0] 27) := ⟨_, rfl⟩
  have hb5 : Below w4.heap.size w4 w5 := by rw [hw5]; exact (balloc w4 _).alloc (by simp) _
  have hQ5 : BoxG w5 w4.heap.size m (.slice q1 q2 q3) := by rw [hw5]; exact (blk0 _ _).alloc _
  have hE5 : Blk w5 (w4.heap.size + 1) 27 [.int .i64 0, .int .i64 0] := by
    rw [hw5]
    have := blk0 (w := w4.alloc (.cells #[.int .i64 m, .slice q1 q2 q3] 24)) (T := 27) (.int .i64 0) (.int .i64 0)
    rwa [World.size_alloc] at this
  have hB5 := bcat2 (bcat2 hB3 hb4) hb5
  have hX5 := blk_below hX3 (bcat2 hb4 hb5)
  have hF5 := blk_below hF3 (bcat2 hb4 hb5)
  have hr5 := hr3.below (bcat2 hb4 hb5)
  have hq5 := hq.below hb5
  obtain ⟨c0, c1, _, _⟩ := hX5.two
  obtain ⟨t0, t1, _, _⟩ := hQ5.two
  obtain ⟨s0, s9, _, _⟩ := hE5.two
  rw [hw5] at c0 c1 t0 t1 s0 s9
  go_wp2_with fail
  rw [← hw5]
  clear hw5 c0 c1 t0 t1 s0 s9
  generalize w4.heap.size = qb at *
  refine (HA1.out _ hB5).mono ?_
  rintro x w6 ⟨a1, a2, a3, rfl, hA, hb6⟩
  have hb7 := balloc w6 (.cells #[.int .i64 0, .int .i64 0] 27)
  have hG7 := blk0 (w := w6) (T := 27) (.int .i64 0) (.int .i64 0)
  have hB7 := bcat2 (bcat2 hB5 hb6) hb7
  have hQ7 := blk_below hQ5 (bcat2 hb6 hb7)
  have hE7 := blk_below hE5 (bcat2 hb6 hb7)
  have hF7 := blk_below hF5 (bcat2 hb6 hb7)
  have hr7 := hr5.below (bcat2 hb6 hb7)
  have hq7 := hq5.below (bcat2 hb6 hb7)
  have hA7 := hA.below hb7
  obtain ⟨c0, c1, _, _⟩ := hG7.two
  obtain ⟨t0, t1, _, _⟩ := hQ7.two
  obtain ⟨s0, s9, _, _⟩ := hE7.two
  go_wp2_with fail
  generalize w6.alloc (.cells #[.int .i64 0, .int .i64 0] 27) = w7 at *
  clear c0 c1 t0 t1 s0 s9
  refine (HA2.out _ _ hB7 hq7).mono ?_
  rintro x w8 ⟨b1, b2, b3, rfl, hBl, hb8⟩
  have hB8 := bcat2 hB7 hb8
  have hA8 := hA7.below hb8
  have hr8 := hr7.below hb8
  have hF8 := blk_below hF7 hb8
  obtain ⟨_, y0, y1, fy0, fy1, z0, z1⟩ := Two.mk' hF8
  obtain ⟨la, lcap, lb, lo, hle, hl1, hl2, hl3, hl4, hl5⟩ := hA8
  injection hle with e1 e2 e3
  subst e1 e2 e3
  obtain ⟨_, _, _, _, hle, _⟩ := hBl
  injection hle with e1 e2 e3
  subst e1 e2 e3
  have hni3 : ¬ ((rcs n (clq n zs e) n).length < bl.length) := by have := HLE.out; omega
  have hnd : decide ((rcs n (clq n zs e) n).length < bl.length) = false := decide_eq_false hni3
  have hni2 : ¬ (((rcs n (clq n zs e) n).length : Int) < (bl.length : Int)) := by have := HLE.out; omega
  have HL1 := hide hl1
  have HL2 := hide hl2
  clear hl1 hl2 hA7 hr7
  go_wp2
  try rw [hnd]
  try rw [hnd]
  go_loopw [13] (fun i wr => ∃ k : Nat, k ≤ (rcs n (clq n zs e) n).length ∧ i = .int .i64 k ∧ Below w8.heap.size w8 wr) (fun i _ => (rcs n (clq n zs e) n).length - (intOf i).toNat)
  case atStart => exact ⟨0, Nat.zero_le _, rfl, Below.refl _ _⟩
  case round =>
    obtain ⟨k, hk, rfl, hB⟩ := hrel
    by_cases hlt : k < (rcs n (clq n zs e) n).length
    · obtain ⟨x, hx, hhd, hat⟩ := rcs_at hlt
      have hkl : (k : Int) < ((rcs n (clq n zs e) n).length : Int) := by omega
      obtain ⟨xx, cx, hSx⟩ := HL2.out k hlt
      rw [hat, Option.getD_some] at hSx
      obtain rfl := HL1.out (by omega)
      have cx' := below_cell hB cx
      have hSx' := hSx.below hB
      have hml := lst_len n (clq n zs e x)
      have HBO := hide (both_ok xx (.slice ra rl rc) _ _ wr hSx' (hr8.below hB) (by rw [li_len]; omega))
      have HW := hide (HWH.out x hx)
      have hfl : ((li (lst n (clq n zs e x))).filter fun a => decide (a ∈ li (lst n c))).length ≤ n := Nat.le_trans (List.length_filter_le _ _) (by rw [li_len]; exact hml)
      obtain ⟨qa, qc, qb', qo, rfl, _⟩ := hSx
      rw [li_len] at cx cx' HBO
      clear hat hhd hSx'
      generalize hfs : (li (lst n (clq n zs e x))).filter (fun a => decide (a ∈ li (lst n c))) = fs at *
      generalize (lst n (clq n zs e x)).length = ql at *
      go_wp2_with fail
      refine HBO.out.mono ?_
      rintro x9 w9 ⟨r9, rfl, hr9, hb9⟩
      obtain ⟨p1, p3, rfl⟩ := row_len hr9
      have cx2 := below_cell hb9 cx'
      clear cx cx'
      rcases HW.out with h0 | h0
      · rw [h0]
        go_wp2
        go_roundw
        case rel => exact ⟨k + 1, by omega, by go_num, bcat2 hB hb9⟩
        case measure => simp [intOf]; omega
      · rw [h0]
        by_cases hq0 : ql = 0
        · subst hq0
          go_wp2
          go_roundw
          case rel => exact ⟨k + 1, by omega, by go_num, bcat2 hB hb9⟩
          case measure => simp [intOf]; omega
        · have hqi : ¬ (ql : Int) = 0 := by omega
          go_wp2
          go_roundw
          case rel => exact ⟨k + 1, by omega, by go_num, bcat2 hB hb9⟩
          case measure => simp [intOf]; omega
    · have hkl : ¬ (k : Int) < ((rcs n (clq n zs e) n).length : Int) := by omega
      go_wp2
      go_ret
      exact ⟨rfl, bcat2 hB8 hB⟩
theorem clquo_law (N : Int) (v u : Value) (zs us : List Int) (w : World) (hv : Sl w v zs) (hu : Sl w u us) (hT : Tab w) :
    Calls Tryd.prog 8 #[.agg #[.int .i64 N, v], u] w fun x w' => x = .returned (.bool true) ∧ Below w.heap.size w w' := by
  by_cases hc : (gfault N zs).1 = 0
  · obtain ⟨n, e, rfl, hg, _⟩ := gfault_grp hc
    by_cases hl : (lfault n us).1 = 0
    · exact clquo_good n e v u zs us w hv hu hT hg (lfault_zero hl).1
    · exact clquo_bad n _ _ v u w hT (by rw [sfault_l hg]; exact hl) (hide fun W h => clo_bad n v u zs us W (hv.below h) (hu.below h) (by rw [sfault_l hg]; exact hl))
  · exact clquo_bad N _ _ v u w hT (by rw [sfault_g hc]; exact hc) (hide fun W h => clo_bad N v u zs us W (hv.below h) (hu.below h) (by rw [sfault_g hc]; exact hc))
end Go.Proofs.YtobnfbnholbfoaaDoor

namespace Go.Proofs.YtobnfbnholbfoaaDoor
open Go.ChangeShapes Go.WideShapes Go.ChangeAt Go.RowKit

theorem own : ownKnob Tryd.prog.godebug = none := by kernel_rfl
theorem laidOut : laidOutB Tryd.prog = true := by kernel_rfl

/-- A slice of ints that reads as zs; where nothing is in it, nothing is told of the memory. -/
def SlA (w : World) (v : Value) (zs : List Int) : Prop := ∃ a cap pb po, v = .slice a zs.length cap ∧ Reads w a pb po zs ∧ (0 < zs.length → pb < w.heap.size) ∧ zs.length ≤ cap ∧ cap ≤ maxLen
theorem SlA.up {w w' : World} {v : Value} {zs : List Int} (h : SlA w v zs) (hb : Below w.heap.size w w') (h0 : 0 < w'.heap.size) : Sl w' v zs := by
  obtain ⟨a, cap, pb, po, hv, hr, hp, h1, h2⟩ := h
  rcases Nat.eq_zero_or_pos zs.length with hz | hz
  · exact ⟨a, cap, 0, 0, hv, ⟨fun h => by omega, fun j hj => by omega⟩, h0, h1, h2⟩
  · exact ⟨a, cap, pb, po, hv, hr.below hb (hp hz), Nat.lt_of_lt_of_le (hp hz) hb.size, h1, h2⟩
theorem SlA.of {w : World} {v : Value} {zs : List Int} (h : Sl w v zs) : SlA w v zs := by
  obtain ⟨a, cap, pb, po, hv, hr, hp, h1, h2⟩ := h
  exact ⟨a, cap, pb, po, hv, hr, fun _ => hp, h1, h2⟩

theorem und24 : ∃ f0 f1 : Field, Tryd.prog.underlying 24 = some (.struct #[f0, f1]) ∧ f0.type = 3 ∧ f1.type = 22 ∧ f0.offset = 0 ∧ f1.offset = 1 := ⟨_, _, Tryd.underlying24, rfl, rfl, rfl, rfl⟩
theorem und3 : Tryd.prog.underlying 3 = some (.int .i64) := by kernel_rfl
theorem und22 : Tryd.prog.underlying 22 = some (.slice 3) := by kernel_rfl
theorem und4 : Tryd.prog.underlying 4 = some .bool := by kernel_rfl

set_option maxRecDepth 100000 in
/-- What is told of a table that came in. -/
theorem open_group {H : Type} {enc : TypeId × Value → H} {W : World} {b0 : Nat} {v : Value} {d : DataW H} {ps : List MemPlace} (hval : Value.okWide Tryd.prog W .any b0 24 v)
    (hd : DataW.Trod enc Tryd.prog W 0 (fun _ => true) true 24 v d ps) :
    ∃ N u zs, v = .agg #[.int .i64 N, u] ∧ SlA W u zs ∧ (Lit.int .i64 N).wf = true ∧ ((d.weights Tryd.prog 24).all (· ≤ reachBytes) = true → zs.length * 8 ≤ 140737488355328) := by
  obtain ⟨f0, f1, hu, ht0, ht1, ho0, ho1⟩ := und24
  obtain ⟨cs, rfl, hsz⟩ := okWide_struct hu hval
  rw [show Tryd.prog.cellsOf 24 = 2 by kernel_rfl] at hsz
  obtain ⟨l⟩ := cs
  match l, hsz with
  | [c0, c1], _ =>
  obtain ⟨fuel, hf⟩ := hd
  obtain ⟨y0, y1, m, hx, _, hy0, hy1⟩ := trod_struct2 hu hf
  rw [ht0, ho0, show Tryd.prog.cellsOf 3 = 1 by kernel_rfl] at hy0
  rw [ht1, ho1, show Tryd.prog.cellsOf 22 = 1 by kernel_rfl] at hy1
  obtain ⟨N, e0, rfl, wN⟩ := DataW.trod_int und3 hy0
  simp [Value.cells] at e0
  subst e0
  simp [Value.cells] at hy1
  rcases open_ints und22 und3 (by kernel_rfl) hy1 with ⟨hcs, _⟩ | ⟨x, l, c, zs, hcs, _, hl, hm, hz, heq, hcell, hwz⟩
  · simp at hcs
    subst hcs
    exact ⟨N, _, [], rfl, ⟨none, 0, 0, 0, rfl, ⟨by simp, by simp⟩, by simp, by simp, by unfold maxLen; omega⟩, wN, fun _ => by simp⟩
  · simp at hcs
    subst hcs
    have hzc : zs.length = c := by simpa using hz
    have hlen : (zs.take l).length = l := by rw [List.length_take]; omega
    refine ⟨N, _, zs.take l, rfl, ?_, wN, fun hw => ?_⟩
    · by_cases hpos : 0 < c
      · obtain ⟨b, o, rfl, hc'⟩ := ints_at hcell (by omega)
        refine ⟨some ⟨b, o, none⟩, c, b, o, by rw [hlen], ⟨fun _ => rfl, fun j hj => ?_⟩, fun _ => World.block_lt_of_cell? W _ (hc' 0 (by omega)), by omega, hm⟩
        rw [hlen] at hj
        rw [hc' j (by omega), List.getElem?_take, if_pos hj, List.getD_eq_getElem?_getD]
      · have : l = 0 := by omega
        subst this
        exact ⟨some x, c, 0, 0, by simp, ⟨by simp, by simp⟩, by simp, by simp, hm⟩
    · have hd : d = .agg [.lit (.int .i64 N), .slice (lits .i64 (zs.take l)) (lits .i64 (zs.drop l))] := by
        have h1 := congrArg Prod.fst hx
        simp only [heq] at h1
        exact h1
      have hw2 := List.all_eq_true.1 hw (((lits (H := H) .i64 (zs.take l)).length + (lits (H := H) .i64 (zs.drop l)).length) * Tryd.prog.bytesOf 3) (by
        rw [hd]; simp [DataW.weights, DataW.weightsEach, hu, ht0, ht1])
      rw [show Tryd.prog.bytesOf 3 = 8 by kernel_rfl] at hw2
      simp only [lits, List.length_map, decide_eq_true_eq] at hw2
      unfold reachBytes at hw2
      omega
end Go.Proofs.YtobnfbnholbfoaaDoor

namespace Go.Proofs.YtobnfbnholbfoaaDoor
open Go.ChangeShapes Go.WideShapes Go.ChangeAt Go.RowKit

/-- What the rows list. -/
def laid1 : List (String × DataW Unit) := Rows.classAllRow.laid
def tabZ : List Int := Lib.deBruijn64tab.map fun (x : Nat) => (x : Int)
theorem tab_data : (Rows.laid_math_bits_deBruijn64tab : DataW Unit) = Lib.tabData .u8 tabZ := by kernel_rfl
/-- The door's own heap meets the condition. -/
theorem door_met (os : Os) (args : Array Value) : laidMetH Tryd.prog laid1 ((World.doorLaid Tryd.prog 400 os).forCall (fun _ _ => 0) ⟨#[], args, []⟩).memory :=
  laidMetH_of_parts3 (fuel := 8) (laidMet_of_run' 8 (by kernel_rfl) (by kernel_rfl)) (by kernel_rfl) (by kernel_rfl)
theorem tab_of_laid {W : World} (h : laidMetH Tryd.prog laid1 W) : Tab W := by
  rw [MakeChecks.laidMetH_plain _ _ _ (by kernel_rfl)] at h
  have h2 : laidMet Tryd.prog [("math/bits.deBruijn64tab", (Rows.laid_math_bits_deBruijn64tab : DataW Unit))] W := h
  rw [tab_data] at h2
  have hg : Tryd.prog.globalNamed "math/bits.deBruijn64tab" = some 0 := by kernel_rfl
  have hT := Lib.tabIs_of_head hg (t := 108) (e := 5) (n := 64) (by kernel_rfl) (by kernel_rfl) (by kernel_rfl) (by kernel_rfl) (by kernel_rfl) h2
  intro j hj
  have hj' : j < tabZ.length := by simpa [tabZ] using hj
  have hc := hT.cell hg j hj'
  rw [hc]
  simp [tabZ, hj]
set_option maxRecDepth 100000 in
/-- A list of ints that came in: its value, what it reads as, and its size. -/
theorem open_list {H : Type} {enc : TypeId × Value → H} {W : World} {b0 : Nat} {v : Value} {d : DataW H} {ps : List MemPlace} (hval : Value.okWide Tryd.prog W .any b0 22 v)
    (hd : DataW.Trod enc Tryd.prog W 0 (fun _ => true) true 22 v d ps) (h0 : 0 < W.heap.size) :
    ∃ zs, Sl W v zs ∧ ((d.weights Tryd.prog 22).all (· ≤ reachBytes) = true → zs.length * 8 ≤ 140737488355328) := by
  obtain ⟨a, len, cap, rfl⟩ := okWide_slice und22 hval
  obtain ⟨fuel, hf⟩ := hd
  rcases open_ints und22 und3 (by kernel_rfl) hf with ⟨hcs, _⟩ | ⟨x, l, c, zs, hcs, _, hl, hm, hz, heq, hcell, hwz⟩
  · simp [Value.cells] at hcs
    obtain ⟨rfl, rfl, rfl⟩ := hcs
    exact ⟨[], Sl.nil h0, fun _ => by simp⟩
  · simp [Value.cells] at hcs
    obtain ⟨rfl, rfl, rfl⟩ := hcs
    have hzc : zs.length = cap := by simpa using hz
    have hlen : (zs.take len).length = len := by rw [List.length_take]; omega
    refine ⟨zs.take len, ?_, fun hw => ?_⟩
    · by_cases hpos : 0 < cap
      · obtain ⟨b, o, rfl, hc'⟩ := ints_at hcell (by omega)
        refine ⟨some ⟨b, o, none⟩, cap, b, o, by rw [hlen], ⟨fun _ => rfl, fun j hj => ?_⟩, World.block_lt_of_cell? W _ (hc' 0 (by omega)), by omega, hm⟩
        rw [hlen] at hj
        rw [hc' j (by omega), List.getElem?_take, if_pos hj, List.getD_eq_getElem?_getD]
      · have : len = 0 := by omega
        subst this
        exact ⟨some x, cap, 0, 0, by simp, ⟨by simp, by simp⟩, h0, by simp, hm⟩
    · simp only [Prod.mk.injEq] at heq
      have hw2 := List.all_eq_true.1 hw (((lits (H := H) .i64 (zs.take len)).length + (lits (H := H) .i64 (zs.drop len)).length) * Tryd.prog.bytesOf 3) (by
        rw [heq.1]; simp [DataW.weights])
      rw [show Tryd.prog.bytesOf 3 = 8 by kernel_rfl] at hw2
      simp only [lits, List.length_map, decide_eq_true_eq] at hw2
      unfold reachBytes at hw2
      omega
end Go.Proofs.YtobnfbnholbfoaaDoor
