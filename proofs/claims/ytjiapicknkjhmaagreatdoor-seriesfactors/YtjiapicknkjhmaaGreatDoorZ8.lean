/- FRATTINI'S ARGUMENT as mathematics: a normal subgroup, and what one of its Sylow subgroups is conjugated by without a change, make all. No condition. Package set's In, slices.Index and package series' places. No condition. Package sub's Is, package coset's Right. Condition: the library's table of places lies as its text lays it. Package quot's Quotient. Condition: the library's table of places lies as its text lays it. Package quot's Simple. Condition: the library's table of places lies as its text lays it. Greatest normal subgroups of a part and of a quotient, as mathematics: they go over into those of the whole; a quotient is simple just where what it is made by is a greatest one. No condition. What is nilpotent: a subgroup that is not all is less than its normaliser, and each normal subgroup of more than the one has something of the centre. No condition. -/
import Derived.Test.YtjiapicknkjhmaaGreatDoorZ7
import Derived.BigQuiet
import Derived.Deep.AppendLies
import Derived.Deep.DeepCutAuto
import Derived.Deep.RegionLaw
import Derived.Laws.EntriesVeiled
import Derived.Maps.AppendAt
import Derived.Maps.Ext
import Derived.Maps.OwnOps
import Derived.Maps.OwnSet
import Derived.Test.YtjiapicknkjhmaaGreatDoorZ6
namespace Go.Proofs.YtjiapicknkjhmaaGreatDoor
open Go Go.RowKit Go.Maps

section
variable {n e : Nat} {zs : List Int} {q r : Nat → Bool}
/-- A set of a part, as one of the whole. -/
def upt (n : Nat) (q r : Nat → Bool) (x : Nat) : Bool := q x && r (place (lst n q) x)
theorem thing_lt {i : Nat} (hi : i < (lst n q).length) : thing (lst n q) i < n := (mem_lst.1 (thing_mem hi)).1
theorem thing_in {i : Nat} (hi : i < (lst n q).length) : q (thing (lst n q) i) = true := (mem_lst.1 (thing_mem hi)).2
theorem upt_iff {x : Nat} (hx : x < n) : upt n q r x = true ↔ ∃ i, i < (lst n q).length ∧ r i = true ∧ thing (lst n q) i = x := by
  unfold upt
  rw [Bool.and_eq_true]
  constructor
  · rintro ⟨h1, h2⟩
    have hm : x ∈ lst n q := mem_lst.2 ⟨hx, h1⟩
    exact ⟨_, (place_at hm).1, h2, thing_place hm⟩
  · rintro ⟨i, hi, h1, rfl⟩
    exact ⟨thing_in hi, by rw [place_thing (lst_nd n q) hi]; exact h1⟩
theorem upt_at {i : Nat} (hi : i < (lst n q).length) : upt n q r (thing (lst n q) i) = r i := by
  unfold upt
  rw [thing_in hi, place_thing (lst_nd n q) hi, Bool.true_and]
theorem thing_mono {i j : Nat} (hj : j < (lst n q).length) (h : i < j) : thing (lst n q) i < thing (lst n q) j := by
  rw [thing_eq hj, thing_eq (Nat.lt_trans h hj)]
  exact List.pairwise_iff_getElem.1 (lst_rise n q) i j _ hj h
theorem upt_lst : (lst (lst n q).length r).map (thing (lst n q)) = lst n (upt n q r) := by
  refine rise_eq ?_ (lst_rise n _) (fun a => ?_)
  · rw [List.pairwise_map]
    refine List.Pairwise.imp_of_mem (fun {i j} _ hj h => ?_) (lst_rise (lst n q).length r)
    exact thing_mono (mem_lst.1 hj).1 h
  · rw [List.mem_map, mem_lst]
    constructor
    · rintro ⟨i, hi, rfl⟩
      obtain ⟨h1, h2⟩ := mem_lst.1 hi
      exact ⟨thing_lt h1, by rw [upt_at h1]; exact h2⟩
    · rintro ⟨h1, h2⟩
      obtain ⟨i, hi, h3, h4⟩ := (upt_iff h1).1 h2
      exact ⟨i, mem_lst.2 ⟨hi, h3⟩, h4⟩
theorem upt_len : (lst n (upt n q r)).length = (lst (lst n q).length r).length := by rw [← upt_lst, List.length_map]
theorem part_cj (g : IsGrp n zs e) (hs : subT n zs e q = true) {i j : Nat} (hi : i < (lst n q).length) (hj : j < (lst n q).length) :
    thing (lst n q) (Fin.cj (tm (lst n q).length (mkT (lst n q).length (parF n zs (lst n q)))) (iv (lst n q).length (mkT (lst n q).length (parF n zs (lst n q))) (place (lst n q) e)) i j) = Fin.cj (tm n zs) (iv n zs e) (thing (lst n q) i) (thing (lst n q) j) := by
  have h := part_grp g hs
  have hc := List.mem_range.1 (Fin.cj_mem (grp_fg h) (grp_iv h) (List.mem_range.2 hi) (List.mem_range.2 hj))
  refine (Fin.cj_unique (grp_fg g) (grp_iv g) (List.mem_range.2 (thing_lt hi)) (List.mem_range.2 (thing_lt hc)) (List.mem_range.2 (thing_lt hj)) ?_).symm
  rw [← part_mul g hs hj hc, Fin.cj_eq (grp_fg h) (grp_iv h) (List.mem_range.2 hi) (List.mem_range.2 hj), part_mul g hs hi hj]
theorem upt_cj (g : IsGrp n zs e) (hs : subT n zs e q = true) {j : Nat} (hj : j < (lst n q).length) :
    bs (upt n q (cjq (lst n q).length (mkT (lst n q).length (parF n zs (lst n q))) (place (lst n q) e) r j)) n = bs (cjq n zs e (upt n q r) (thing (lst n q) j)) n := by
  have h := part_grp g hs
  refine bs_ext fun x hx => ?_
  rw [Bool.eq_iff_iff, upt_iff hx, cjq_iff]
  constructor
  · rintro ⟨i, hi, h1, rfl⟩
    obtain ⟨k, hk, h2, rfl⟩ := cjq_iff.1 h1
    have hk' := List.mem_range.1 hk
    exact ⟨thing (lst n q) k, List.mem_range.2 (thing_lt hk'), by rw [upt_at hk']; exact h2, (part_cj g hs hk' hj).symm⟩
  · rintro ⟨y, hy, h1, rfl⟩
    obtain ⟨k, hk, h2, rfl⟩ := (upt_iff (List.mem_range.1 hy)).1 h1
    exact ⟨_, List.mem_range.1 (Fin.cj_mem (grp_fg h) (grp_iv h) (List.mem_range.2 hk) (List.mem_range.2 hj)), cjq_iff.2 ⟨k, List.mem_range.2 hk, h2, rfl⟩, part_cj g hs hk hj⟩
theorem part_e (g : IsGrp n zs e) (hs : subT n zs e q = true) : place (lst n q) e < (lst n q).length ∧ thing (lst n q) (place (lst n q) e) = e := by
  have hel : e ∈ lst n q := mem_lst.2 ⟨g.elt, (subT_iff.1 hs).1⟩
  exact ⟨(place_at hel).1, thing_place hel⟩
theorem upt_sub (g : IsGrp n zs e) (hs : subT n zs e q = true) (hr : subT (lst n q).length (mkT (lst n q).length (parF n zs (lst n q))) (place (lst n q) e) r = true) : subT n zs e (upt n q r) = true := by
  have S := subT_iff.1 hr
  obtain ⟨p1, p2⟩ := part_e g hs
  have h := part_grp g hs
  refine subT_iff.2 ⟨(upt_iff g.elt).2 ⟨_, p1, S.one, p2⟩, fun a b ha hb h1 h2 => ?_⟩
  obtain ⟨i, hi, h3, rfl⟩ := (upt_iff (List.mem_range.1 ha)).1 h1
  obtain ⟨j, hj, h4, rfl⟩ := (upt_iff (List.mem_range.1 hb)).1 h2
  have hm := tm_lt h.tab hi hj
  show upt n q r (tm n zs _ _) = true
  rw [← part_mul g hs hi hj, upt_at hm]
  exact S.mul i j (List.mem_range.2 hi) (List.mem_range.2 hj) h3 h4
theorem down_sub {u : Nat → Bool} (g : IsGrp n zs e) (hs : subT n zs e q = true) (hu : subT n zs e u = true) : subT (lst n q).length (mkT (lst n q).length (parF n zs (lst n q))) (place (lst n q) e) (fun i => u (thing (lst n q) i)) = true := by
  have S := subT_iff.1 hu
  obtain ⟨_, p2⟩ := part_e g hs
  refine subT_iff.2 ⟨by show u (thing _ _) = true; rw [p2]; exact S.one, fun i j hi hj h1 h2 => ?_⟩
  have hi' := List.mem_range.1 hi
  have hj' := List.mem_range.1 hj
  show u (thing _ _) = true
  rw [part_mul g hs hi' hj']
  exact S.mul _ _ (List.mem_range.2 (thing_lt hi')) (List.mem_range.2 (thing_lt hj')) h1 h2
theorem up_down {u : Nat → Bool} (hin : ∀ x, x < n → u x = true → q x = true) : bs (upt n q fun i => u (thing (lst n q) i)) n = bs u n := by
  refine bs_ext fun x hx => ?_
  rw [Bool.eq_iff_iff, upt_iff hx]
  constructor
  · rintro ⟨i, _, h1, rfl⟩
    exact h1
  · intro h1
    have hm : x ∈ lst n q := mem_lst.2 ⟨hx, hin x hx h1⟩
    exact ⟨_, (place_at hm).1, by show u _ = true; rw [thing_place hm]; exact h1, thing_place hm⟩
theorem cjq_bs {a : Nat} (h : bs q n = bs r n) : bs (cjq n zs e q a) n = bs (cjq n zs e r a) n := by
  refine bs_ext fun y _ => ?_
  rw [Bool.eq_iff_iff, cjq_iff, cjq_iff]
  have h1 := bs_inj h
  exact ⟨fun ⟨x, hx, h2, h3⟩ => ⟨x, hx, by rw [← h1 x (List.mem_range.1 hx)]; exact h2, h3⟩, fun ⟨x, hx, h2, h3⟩ => ⟨x, hx, by rw [h1 x (List.mem_range.1 hx)]; exact h2, h3⟩⟩
theorem upt_bs {r' : Nat → Bool} (h : bs r (lst n q).length = bs r' (lst n q).length) : bs (upt n q r) n = bs (upt n q r') n := by
  have h1 := bs_inj h
  refine bs_ext fun x hx => ?_
  rw [Bool.eq_iff_iff, upt_iff hx, upt_iff hx]
  exact ⟨fun ⟨i, hi, h2, h3⟩ => ⟨i, hi, by rw [← h1 i hi]; exact h2, h3⟩, fun ⟨i, hi, h2, h3⟩ => ⟨i, hi, by rw [h1 i hi]; exact h2, h3⟩⟩
theorem lst_bs' {a b : Nat → Bool} (h : bs a n = bs b n) : lst n a = lst n b := lst_same fun x hx => by rw [bs_inj h x hx]
variable {p a0 : Nat} {s : Nat → Bool} {A : List Nat} {ms : List (List Int)}
/-- FRATTINI'S ARGUMENT. -/
theorem frat_arg (g : IsGrp n zs e) (hs : subT n zs e q = true) (hN : ∀ x a, x < n → a < n → q x = true → q (Fin.cj (tm n zs) (iv n zs e) x a) = true) (hpr : primeB p = true)
    (HA : SylA (lst n q).length (mkT (lst n q).length (parF n zs (lst n q))) (place (lst n q) e) p s A ms) (ha0 : a0 < (lst n q).length) {x : Nat} (hx : x < n) :
    ∃ u v, u < n ∧ v < n ∧ norq n zs e (upt n q (cjq (lst n q).length (mkT (lst n q).length (parF n zs (lst n q))) (place (lst n q) e) s a0)) u = true ∧ q v = true ∧ tm n zs u v = x := by
  have h := part_grp g hs
  obtain ⟨t, ht⟩ : ∃ t, t = upt n q (cjq (lst n q).length (mkT (lst n q).length (parF n zs (lst n q))) (place (lst n q) e) s a0) := ⟨_, rfl⟩
  rw [← ht]
  have tS : subT n zs e t = true := by rw [ht]; exact upt_sub g hs (cj_sg h HA.gr.sub ha0)
  have tq : ∀ y, y < n → t y = true → q y = true := fun y hy h1 => by
    rw [ht] at h1
    unfold upt at h1
    rw [Bool.and_eq_true] at h1
    exact h1.1
  have cS := cj_sg g tS hx
  have cq : ∀ y, y < n → cjq n zs e t x y = true → q y = true := fun y _ h1 => by
    obtain ⟨z, hz, h2, rfl⟩ := cjq_iff.1 h1
    exact hN z x (List.mem_range.1 hz) hx (tq z (List.mem_range.1 hz) h2)
  have dS := down_sub g hs cS
  have dl : (lst (lst n q).length fun i => cjq n zs e t x (thing (lst n q) i)).length = (lst (lst n q).length s).length := by
    rw [← upt_len, lst_bs' (up_down cq), cj_len g hx, ht, upt_len, cj_len h ha0]
  obtain ⟨j, b, _, hb, _, h4⟩ := HA.holds h hpr dS (by rw [dl]; exact HA.gr.pow)
  have hb' := HA.lt b hb
  have h5 := lst_full h4 (by rw [dl, cj_len h hb'])
  have e1 : bs (fun i => cjq n zs e t x (thing (lst n q) i)) (lst n q).length = bs (cjq (lst n q).length (mkT (lst n q).length (parF n zs (lst n q))) (place (lst n q) e) s b) (lst n q).length := bs_ext fun i hi => by
    rw [Bool.eq_iff_iff]
    exact ⟨h4 i hi, h5 i hi⟩
  obtain ⟨i1, i2, i3, _⟩ := iv_spec h ha0
  have hy0 := tm_lt h.tab i1 hb'
  obtain ⟨y0, ey0⟩ : ∃ y0, y0 = tm (lst n q).length (mkT (lst n q).length (parF n zs (lst n q))) (iv (lst n q).length (mkT (lst n q).length (parF n zs (lst n q))) (place (lst n q) e) a0) b := ⟨_, rfl⟩
  rw [← ey0] at hy0
  have e2 : tm (lst n q).length (mkT (lst n q).length (parF n zs (lst n q))) a0 y0 = b := by rw [ey0, ← h.ass _ _ _ ha0 i1 hb', i2, h.left b hb']
  have e3 : bs (cjq n zs e t (thing (lst n q) y0)) n = bs (cjq n zs e t x) n := by
    rw [ht, ← upt_cj g hs hy0, ← ht, ← up_down cq]
    refine upt_bs ?_
    rw [cjq_twice h ha0 hy0, e2, e1]
  have hy := thing_lt hy0
  obtain ⟨k1, k2, k3, _⟩ := iv_spec g hy
  have hu := tm_lt g.tab hx k1
  refine ⟨tm n zs x (iv n zs e (thing (lst n q) y0)), thing (lst n q) y0, hu, hy, ?_, thing_in hy0, ?_⟩
  · unfold norq
    rw [decide_eq_true_eq, ← cjq_twice g hx k1, ← cjq_bs e3, cjq_twice g hy k1, k2, cjq_e g]
  · rw [g.ass _ _ _ hx k1 hy, k3, g.right x hx]
end
end Go.Proofs.YtjiapicknkjhmaaGreatDoor

namespace Go.Proofs.YtjiapicknkjhmaaGreatDoor
open Go Go.RowKit

def inB (s t : Nat) : Bool := decide (s &&& t = s)
theorem inB_iff {n : Nat} {p q : Nat → Bool} : inB (bs p n) (bs q n) = true ↔ ∀ a, a < n → p a = true → q a = true := by
  unfold inB
  rw [decide_eq_true_eq]
  constructor
  · intro h a ha hp
    have := congrArg (fun x => Nat.testBit x a) h
    simp only [Nat.testBit_and, bs_bit] at this
    simp [ha, hp] at this
    exact this
  · intro h
    apply Nat.eq_of_testBit_eq
    intro a
    rw [Nat.testBit_and, bs_bit, bs_bit]
    by_cases ha : a < n
    · cases hp : p a with
      | false => simp
      | true => simp [ha, h a ha hp]
    · simp [ha]
theorem andn_zero {n : Nat} {p q : Nat → Bool} : decide (bs (fun a => p a && !q a) n = 0) = inB (bs p n) (bs q n) := by
  rw [Bool.eq_iff_iff, decide_eq_true_eq, inB_iff]
  constructor
  · intro h a ha hp
    have := congrArg (fun x => Nat.testBit x a) h
    simp only [bs_bit, Nat.zero_testBit] at this
    simp [ha, hp] at this
    exact this
  · intro h
    apply Nat.eq_of_testBit_eq
    intro a
    rw [bs_bit, Nat.zero_testBit]
    by_cases ha : a < n
    · cases hp : p a with
      | false => simp
      | true => simp [h a ha hp]
    · simp [ha]
set_option maxRecDepth 100000 in
theorem in_ok (n : Nat) (p q : Nat → Bool) (w : World) (hn : n ≤ 60) : Calls Tryz.prog 59 #[.int .u64 (bs p n : Nat), .int .u64 (bs q n : Nat)] w fun e w' => e = .returned (.bool (inB (bs p n) (bs q n))) ∧ w' = w := by
  have ha := andn_bs p q hn
  rw [← andn_zero]
  generalize bs (fun a => p a && !q a) n = Z at *
  generalize bs p n = X at *
  generalize bs q n = Y at *
  by_cases hz : Z = 0
  · have hzi : ((Z : Nat) : Int) = 0 := by omega
    have HZ := hide hz
    clear hz
    go_enter Tryz.func59, Tryz.ntmps59
    go_wp2
    go_ret
    exact ⟨by rw [decide_eq_true HZ.out]; rfl, rfl⟩
  · have hzi : ¬ ((Z : Nat) : Int) = 0 := by omega
    have hzb : (((Z : Nat) : Int) == 0) = false := by rw [beq_eq_false_iff_ne]; exact hzi
    have hd : decide (Z = 0) = false := decide_eq_false hz
    have HD := hide hd
    clear hd hz
    go_enter Tryz.func59, Tryz.ntmps59
    go_wp2
    go_ret
    exact ⟨by rw [HD.out]; rfl, rfl⟩
theorem place_no {xs : List Nat} {a j : Nat} (hj : j < place xs a) (hl : j < xs.length) : ¬ a = xs[j] := fun h => by
  have := List.not_of_lt_findIdx hj
  simp at this
  exact this h.symm
set_option maxRecDepth 100000 in
theorem idx_ok (v : Value) (xs : List Nat) (a : Nat) (w : World) (hv : Sl w v (li xs)) (ha : a ∈ xs) (hxl : xs.length ≤ 1000) :
    Calls Tryz.prog 92 #[v, .int .i64 a] w fun x w' => x = .returned (.int .i64 (place xs a)) ∧ w' = w := by
  obtain ⟨va, vc, vb, vo, rfl, hrd, hvp, _, _⟩ := hv
  rw [li_len]
  have HRD := hide hrd
  obtain ⟨hpl, hpe⟩ := place_at ha
  have HPE := hide hpe
  clear hrd hpe
  generalize hP : place xs a = P at *
  have HP := hide hP
  clear hP
  go_enter Tryz.func92, Tryz.ntmps92
  go_wp2_with fail
  go_loopw [8] (fun iv wr => ∃ j : Nat, j ≤ P ∧ iv = .int .i64 j ∧ wr = w) (fun iv _ => xs.length - (intOf iv).toNat)
  case atStart => exact ⟨0, Nat.zero_le _, rfl, rfl⟩
  case round =>
    obtain ⟨j, hj, rfl, rfl⟩ := hrel
    have hlt : j < xs.length := by omega
    have hji : (j : Int) < (xs.length : Int) := by omega
    have hcj := HRD.out.cell j (by rw [li_len]; exact hlt)
    rw [li_get hlt] at hcj
    obtain rfl := HRD.out.at_ (by rw [li_len]; omega)
    by_cases hjp : j = P
    · have hxa : xs[j] = a := by
        have := HPE.out
        simp only [← hjp] at this
        exact this
      rw [hxa] at hcj
      have HJP := hide hjp
      clear hjp hxa
      go_wp2
      go_ret
      exact ⟨by rw [← HJP.out]; rfl, rfl⟩
    · have hne : ¬ (a : Int) = (xs[j] : Int) := by
        have := place_no (xs := xs) (a := a) (j := j) (by rw [HP.out]; omega) hlt
        omega
      generalize xs[j] = y at *
      have hnb : ((a : Int) == (y : Int)) = false := by rw [beq_eq_false_iff_ne]; exact hne
      go_wp2
      go_roundw
      case rel => exact ⟨j + 1, by omega, by go_num, trivial⟩
      case measure => simp [intOf]; omega
def filU (f : Nat → Int) (n k : Nat) : List Int := (List.range n).map fun i => if i < k then f i else 0
theorem filU_len (f : Nat → Int) (n k : Nat) : (filU f n k).length = n := by simp [filU]
theorem filU_zero (f : Nat → Int) (n : Nat) : filU f n 0 = List.replicate n 0 := by
  unfold filU
  apply List.ext_getElem <;> simp
theorem filU_all (f : Nat → Int) (n : Nat) : filU f n n = (List.range n).map f := by
  unfold filU
  exact List.map_congr_left fun a ha => if_pos (List.mem_range.1 ha)
theorem filU_set {f : Nat → Int} {n k : Nat} : filU f n (k + 1) = (filU f n k).set k (f k) := by
  apply List.ext_getElem
  · simp [filU]
  · intro i h1 h2
    rw [List.getElem_set]
    simp only [filU, List.getElem_map, List.getElem_range]
    by_cases e : k = i
    · subst e
      rw [if_pos (by omega), if_pos rfl]
    · rw [if_neg e]
      by_cases h3 : i < k
      · rw [if_pos (by omega), if_pos h3]
      · rw [if_neg (by omega), if_neg h3]
set_option maxRecDepth 100000 in
set_option maxHeartbeats 2000000 in
theorem places_ok (v u : Value) (xs ys : List Nat) (w : World) (hv : Sl w v (li xs)) (hu : Sl w u (li ys)) (hin : ∀ y, y ∈ ys → y ∈ xs) (hxl : xs.length ≤ 60) (hyl : ys.length ≤ 60) :
    Calls Tryz.prog 60 #[v, u] w fun x w' => ∃ r, x = .returned r ∧ SlF w.heap.size w' r (li (ys.map (place xs))) ∧ Below w.heap.size w w' := by
  obtain ⟨i0, hi, hz0, hz1, hz2⟩ := info_parts info3b
  have HIX := hide (fun W (a : Nat) (h : Below w.heap.size w W) (ha : a ∈ xs) => idx_ok v xs a W (hv.below h) ha (by omega))
  obtain ⟨va, vl, vc, rfl⟩ := hv.isSlice
  obtain ⟨ua, uc, ub, uo, rfl, hrd, hup, _, _⟩ := hu
  rw [li_len]
  have HRD := hide hrd
  clear hrd
  obtain ⟨f, hf⟩ : ∃ f : Nat → Int, f = fun i => ((place xs (ys[i]?.getD 0) : Nat) : Int) := ⟨_, rfl⟩
  have HF := hide (fun i => show f i = ((place xs (ys[i]?.getD 0) : Nat) : Int) by rw [hf])
  clear hf
  have hy8 : ¬ ((ys.length : Int) < 0) := by omega
  go_enter Tryz.func60, Tryz.ntmps60
  go_wp2_with (first
    | (at_make; refine wpList_make_full _ rfl _ _ 22 rfl w.heap.size 3 i0 (.int .i64 0) 1 under22b hi hz0 hz1 _ _ _ _ ys.length rfl rfl rfl rfl (by rw [hz2]; omega) (by unfold maxLen; omega) (by simp) ?_))
  intro w5 hown hgr
  have hM5 : Blk w5 w.heap.size 3 ((filU f ys.length 0).map (Value.int .i64)) := by
    have := Blk.of_owns hown
    rw [made_rep] at this
    rw [filU_zero, List.map_replicate]; exact this
  have hb5 : Below w.heap.size w w5 := (Below.refl _ w).grown hgr (Nat.le_refl _) (by simp)
  clear hown hgr
  go_wp2
  go_loopw [13] (fun i wr => ∃ a : Nat, a ≤ ys.length ∧ i = .int .i64 a ∧ Blk wr w.heap.size 3 ((filU f ys.length a).map (Value.int .i64)) ∧ Below w.heap.size w wr) (fun i _ => ys.length - (intOf i).toNat)
  case atStart => exact ⟨0, Nat.zero_le _, rfl, hM5, hb5⟩
  case round =>
    obtain ⟨a, ha, rfl, hMa, hBa⟩ := hrel
    clear hM5 hb5
    by_cases hlt : a < ys.length
    · have hai : (a : Int) < (ys.length : Int) := by omega
      have hcj := (HRD.out.below hBa hup).cell a (by rw [li_len]; exact hlt)
      rw [li_get hlt] at hcj
      obtain rfl := HRD.out.at_ (by rw [li_len]; omega)
      have HX := hide (HIX.out wr ys[a] hBa (hin _ (List.getElem_mem hlt)))
      have HFA := hide (show ((place xs ys[a] : Nat) : Int) = f a by rw [HF.out a]; simp [hlt])
      rw [HFA.out] at HX
      have hMc := hMa.int (y := a) (by rw [filU_len]; exact hlt)
      have hMf := hMa.frozen a
      have hM6 := hMa.setInt a (f a)
      rw [← filU_set] at hM6
      have hB6 := hBa.setCell (p := ⟨w.heap.size, a, none⟩) (Nat.le_refl _) (.int .i64 (f a))
      generalize f a = z9 at *
      generalize ys[a] = y9 at *
      go_wp2_with fail
      refine HX.out.mono ?_
      rintro x w9 ⟨rfl, rfl⟩
      go_wp2
      go_roundw
      case rel => exact ⟨a + 1, by omega, by go_num, hM6, hB6⟩
      case measure => simp [intOf]; omega
    · have hai : ¬ (a : Int) < (ys.length : Int) := by omega
      have han : a = ys.length := by omega
      have HE := hide (show filU f ys.length a = li (ys.map (place xs)) by
        rw [han, filU_all]
        unfold li
        apply List.ext_getElem
        · simp
        · intro i h1 h2
          simp at h1
          simp [HF.out, h1])
      rw [HE.out] at hMa
      clear han
      have hR := slF_blk (B := w.heap.size) (n := ys.length) hMa (by rw [li_len, List.length_map]) (by rw [li_len, List.length_map]; omega) (Nat.le_refl _)
      go_wp2
      go_ret
      exact ⟨_, rfl, hR, hBa⟩
end Go.Proofs.YtjiapicknkjhmaaGreatDoor

namespace Go.Proofs.YtjiapicknkjhmaaGreatDoor
open Go Go.RowKit Go.Maps

set_option maxRecDepth 100000 in
set_option maxHeartbeats 4000000 in
theorem is_bad (N : Int) (v u0 : Value) (zs l0 : List Int) (w : World) (hv : Sl w v zs) (hu : Sl w u0 l0) (hc : (sfault N zs l0).1 ≠ 0) :
    Calls Tryz.prog 57 #[.agg #[.int .i64 N, v], u0] w fun x w' => x = .returned (.tuple #[.bool false, .agg #[.int .i64 (sfault N zs l0).1, .int .i64 (sfault N zs l0).2]]) ∧ Below w.heap.size w w' := by
  obtain ⟨w0, BG⟩ := Beg.new w N v
  have hv0 := hv.below BG.bel
  obtain ⟨c0, c1, _, _⟩ := BG.box.two
  have hck := oset_bad N v u0 zs l0 w0 hv0 (hu.below BG.bel) hc
  obtain ⟨c, i, hci⟩ : ∃ c i, sfault N zs l0 = (c, i) := ⟨_, _, rfl⟩
  rw [hci] at hck hc ⊢
  simp only at hc hck
  have HCK := hide hck
  clear hck hci
  have hcb : (c != 0) = true := by simpa using hc
  rw [BG.eq] at c0 c1
  go_enter Tryz.func57, Tryz.ntmps57
  go_wp2_with fail
  rw [← BG.eq]
  refine HCK.out.mono ?_
  rintro x w1 ⟨rfl, hb1⟩
  clear c0 c1
  obtain ⟨w2, hw2⟩ : ∃ w2, w2 = (w1.alloc (.cells #[.int .i64 0, .slice none 0 0, .int .i64 0, .slice none 0 0] 66)).alloc (.cells #[.int .i64 c, .int .i64 i] 28) := ⟨_, rfl⟩
  have hB1 : Below w0.heap.size w0 w2 := by rw [hw2]; exact bcat2 hb1 ((balloc w1 _).alloc (by simp) _)
  have hF1 : Blk w2 (w1.heap.size + 1) 28 [.int .i64 c, .int .i64 i] := by
    rw [hw2]
    have := blk0 (w := w1.alloc (.cells #[.int .i64 0, .slice none 0 0, .int .i64 0, .slice none 0 0] 66)) (T := 28) (.int .i64 c) (.int .i64 i)
    rwa [World.size_alloc] at this
  have hR1 := blk_below BG.res hB1
  have hBw := bcat BG.bel hB1 BG.bel.size
  obtain ⟨y0, y1, fy0, fy1⟩ := hR1.two
  obtain ⟨t0, t1, _, _⟩ := hF1.two
  rw [hw2] at t0 t1
  go_wp2_with fail
  rw [← hw2]
  rw [← hw2] at t0 t1
  clear hw2
  go_region
  all_goals (
    go_wp2
    obtain ⟨hR6, hB6⟩ := put2 hR1 hBw (by omega) c i
    have hB7 := bdrew hB6
    have hR7 : Blk ((w2.setCell ⟨w.heap.size + 1, 0, none⟩ (.int .i64 c)).setCell ⟨w.heap.size + 1, 1, none⟩ (.int .i64 i)).drew (w.heap.size + 1) 28 [.int .i64 c, .int .i64 i] := hR6
    generalize ((w2.setCell ⟨w.heap.size + 1, 0, none⟩ (.int .i64 c)).setCell ⟨w.heap.size + 1, 1, none⟩ (.int .i64 i)).drew = W at hR7 hB7 ⊢
    obtain ⟨z0, z1, _, _⟩ := hR7.two
    exact bodyPost_ret (v := .tuple #[.bool false, .agg #[.int .i64 c, .int .i64 i]]) (by simp [results, Tryz.results57, go_sem, z0, z1]) rfl ⟨rfl, hB7⟩)
set_option maxRecDepth 100000 in
set_option maxHeartbeats 4000000 in
theorem is_good (n e : Nat) (v u0 : Value) (zs l0 : List Int) (w : World) (hv : Sl w v zs) (hg : IsGrp n zs e) (hu : Sl w u0 l0) (hT : Tab w) (hc : lfault n l0 = (0, 0)) :
    Calls Tryz.prog 57 #[.agg #[.int .i64 n, v], u0] w fun x w' => x = .returned (.tuple #[.bool (subT n zs e (pset l0)), .agg #[.int .i64 0, .int .i64 0]]) ∧ Below w.heap.size w w' := by
  obtain ⟨va, vl, vc, rfl⟩ := hv.isSlice
  obtain ⟨p, hp⟩ := mkd_test n zs e (pset l0)
  have heq := subT_made hp hg.elt (fun a b ha hb => tm_lt hg.tab ha hb)
  obtain ⟨w0, BG⟩ := Beg.new w n (.slice va vl vc)
  have hv0 := hv.below BG.bel
  obtain ⟨c0, c1, _, _⟩ := BG.box.two
  have HCK := hide (oset_good n e (.slice va vl vc) u0 zs l0 w0 hv0 hg (hu.below BG.bel) hc)
  have HZ0 := hide (show w.heap.size + 2 ≤ w0.heap.size by rw [BG.eq]; simp)
  rw [BG.eq] at c0 c1
  go_enter Tryz.func57, Tryz.ntmps57
  go_wp2_with fail
  rw [← BG.eq]
  refine HCK.out.mono ?_
  rintro x w1 ⟨iv9, rfl, hSI, hb1⟩
  obtain ⟨ia, il, ic, rfl⟩ := hSI.sl.isSlice
  clear c0 c1 HCK
  obtain ⟨w2, hw2⟩ : ∃ w2, w2 = (w1.alloc (.cells #[.int .i64 n, (.slice va vl vc), .int .i64 e, (.slice ia il ic)] 66)).alloc (.cells #[.int .i64 0, .int .i64 0] 28) := ⟨_, rfl⟩
  have hb2 : Below w1.heap.size w1 w2 := by rw [hw2]; exact (balloc w1 _).alloc (by simp) _
  have hB1 : Below w0.heap.size w0 w2 := bcat2 hb1 hb2
  have hF1 : Blk w2 (w1.heap.size + 1) 28 [.int .i64 0, .int .i64 0] := by
    rw [hw2]
    have := blk0 (w := w1.alloc (.cells #[.int .i64 n, (.slice va vl vc), .int .i64 e, (.slice ia il ic)] 66)) (T := 28) (.int .i64 0) (.int .i64 0)
    rwa [World.size_alloc] at this
  have hH2 : Blk w2 w1.heap.size 66 [.int .i64 n, (.slice va vl vc), .int .i64 e, (.slice ia il ic)] := by
    rw [hw2]; exact (blk4 _ _ _ _).alloc _
  have hBw2 := bcat BG.bel hB1 BG.bel.size
  have hR2 := blk_below BG.res hB1
  have hT2 := hT.below hBw2
  have hGA2 : GA w2 n (.slice va vl vc) e (.slice ia il ic) zs := ⟨hg, hv.below hBw2, (hSI.below hb2).sl⟩
  obtain ⟨t0, t1, _, _⟩ := hF1.two
  obtain ⟨_, h0, h1, h2, h3, _⟩ := Four.mk' hH2
  have hx2 := blk_below BG.box hB1
  have HZ1 := hide (Nat.le_trans HZ0.out hb1.size)
  have HZ2 := hide hb2.size
  rw [hw2] at t0 t1 h0 h1 h2 h3
  go_wp2_with fail
  rw [← hw2]
  clear hw2 t0 t1 h0 h1 h2 h3
  refine (made_ok n _ _ zs e (pset l0) p w2 hGA2 hT2 hp).mono ?_
  rintro x w3 ⟨rfl, hb3⟩
  have hB5 := bcat hBw2 hb3 hBw2.size
  obtain ⟨_, y0, y1, fy0, fy1, s0, s1⟩ := Two.mk' (blk_below hR2 hb3)
  have HE := hide heq
  clear heq
  by_cases hb : bs p n = bs (pset l0) n
  · rw [hb] at HE ⊢
    go_wp2
    exact bodyPost_ret (v := .tuple #[.bool true, .agg #[.int .i64 0, .int .i64 0]]) (by simp [results, Tryz.results57, go_sem, y0, y1]) rfl ⟨by rw [HE.out]; simp, hB5⟩
  · have hbi : ¬ ((bs p n : Nat) : Int) = ((bs (pset l0) n : Nat) : Int) := by omega
    rw [decide_eq_false hb] at HE
    go_wp2
    exact bodyPost_ret (v := .tuple #[.bool false, .agg #[.int .i64 0, .int .i64 0]]) (by simp [results, Tryz.results57, go_sem, y0, y1, hbi]) rfl ⟨by rw [HE.out], hB5⟩
set_option maxRecDepth 100000 in
set_option maxHeartbeats 1000000 in
theorem cprd_ok (n : Nat) (v : Value) (zs : List Int) (a b : Nat) (w : World) (ht : IsTab n zs) (hv : Sl w v zs) (ha : a < n) (hb : b < n) :
    Calls Tryz.prog 111 #[.agg #[.int .i64 n, v], .int .i64 a, .int .i64 b] w fun e w' => e = .returned (.int .i64 (tm n zs a b)) ∧ Below w.heap.size w w' := by
  have hlt := place_lt ha hb
  have hle := ht.le
  have hlen := ht.len
  have hn2 : n * n ≤ 60 * 60 := Nat.mul_le_mul hle hle
  have hg := tm_get ht ha hb
  have han : a * n ≤ 60 * 60 := Nat.mul_le_mul (by omega) (by omega)
  have hB0 : Below w.heap.size w (w.alloc (.cells #[.int .i64 n, v] 24)) := balloc w _
  have N0 : Blk (w.alloc (.cells #[.int .i64 n, v] 24)) w.heap.size 24 [.int .i64 n, v] := blk0 _ _
  obtain ⟨x, cap, pb, po, rfl, hr, hp, hq3, hq4⟩ := hv.below hB0
  obtain rfl := hr.at_ (by omega)
  have hc := hr.cell (a * n + b) (by omega)
  rw [hg] at hc
  obtain ⟨c0, c1, _, _⟩ := N0.two
  have hi : ((a * n + b : Nat) : Int) < (zs.length : Int) := by omega
  have hm : ((a : Int) * (n : Int)) = ((a * n : Nat) : Int) := by rw [Int.natCast_mul]
  have HLEN := hide hlen
  have HB0 := hide hB0
  generalize hk : a * n = k at *
  generalize tm n zs a b = r at *
  clear hlen hB0 hg hn2 hk
  go_enter Tryz.func111, Tryz.ntmps111
  go_wp2
  go_ret
  exact ⟨rfl, HB0.out⟩
set_option maxRecDepth 100000 in
set_option maxHeartbeats 4000000 in
theorem rgt_ok (n : Nat) (v lv : Value) (zs : List Int) (xs : List Nat) (a : Nat) (w : World) (ht : IsTab n zs) (hv : Sl w v zs) (hs : Sl w lv (li xs)) (hx : ∀ x, x ∈ xs → x < n) (ha : a < n) :
    Calls Tryz.prog 83 #[.agg #[.int .i64 n, v], lv, .int .i64 a] w fun e w' => e = .returned (.int .u64 (bs (rgtq n zs xs a) n)) ∧ Below w.heap.size w w' := by
  have hn := ht.le
  have hB0 : Below w.heap.size w (w.alloc (.cells #[.int .i64 n, v] 24)) := balloc w _
  have hX0 : BoxG (w.alloc (.cells #[.int .i64 n, v] 24)) w.heap.size n v := blk0 _ _
  have hv0 := hv.below hB0
  obtain ⟨ra, rc, pb, po, rfl, hr, hp, hq3, hq4⟩ := hs.below hB0
  have hml : xs.length ≤ 9223372036854775807 := by rw [li_len] at hq3; unfold maxLen at hq4; omega
  rw [li_len] at hq3 ⊢
  have HM := hide hx
  have HR := hide hr
  have HLL := hide (li_len xs)
  clear hr hq4 hx hs
  go_enter Tryz.func83, Tryz.ntmps83
  go_wp2
  generalize w.alloc (.cells #[.int .i64 n, v] 24) = w1 at *
  go_loopw [7, 12] (fun s i wr => ∃ k : Nat, k ≤ xs.length ∧ i = .int .i64 k ∧ s = .int .u64 (bs (rgtq n zs (xs.take k) a) n) ∧ Below w1.heap.size w1 wr) (fun _ i _ => xs.length - (intOf i).toNat)
  case atStart => exact ⟨0, Nat.zero_le _, rfl, by rw [List.take_zero, show bs (rgtq n zs [] a) n = 0 from bs_none n]; rfl, Below.refl _ _⟩
  case round =>
    obtain ⟨k, hk, rfl, rfl, hB⟩ := hrel
    by_cases hlt : k < xs.length
    · have hck := (HR.out.below hB hp).cell k (by rw [HLL.out]; exact hlt)
      rw [li_get hlt] at hck
      obtain rfl := HR.out.at_ (by rw [HLL.out]; omega)
      obtain ⟨x, hxe⟩ : ∃ x, xs[k] = x := ⟨_, rfl⟩
      have hxn : x < n := by rw [← hxe]; exact HM.out _ (List.getElem_mem hlt)
      have hsn : xs.take (k + 1) = xs.take k ++ [x] := by rw [List.take_succ_eq_append_getElem hlt, hxe]
      rw [hxe] at hck
      have hki : (k : Int) < (xs.length : Int) := by omega
      have hct : tm n zs x a < n := tm_lt ht hxn ha
      have hor := bs_put (n := n) (t := tm n zs x a) (p := rgtq n zs (xs.take k) a) (q := rgtq n zs (xs.take (k + 1)) a) hn (fun z => by
        unfold rgtq
        rw [hsn, List.any_append]
        simp only [List.any_cons, List.any_nil, Bool.or_false]
        congr 1
        rw [Bool.eq_iff_iff, decide_eq_true_eq, decide_eq_true_eq]
        exact eq_comm)
      have HCM := hide (cprd_ok n v zs x a wr ht (hv0.below hB) hxn ha)
      have HOF := hide (fun W b (h : W.cell? ⟨b, 0, none⟩ = some (.int .i64 (tm n zs x a))) => of_one n b (tm n zs x a) W hn hct h)
      obtain ⟨g0, g1, _, _⟩ := (blk_below hX0 hB).two
      generalize tm n zs x a = t at *
      generalize bs (fun z => decide (z = t)) n = T9 at *
      clear hsn hxe
      go_wp2_with fail
      refine HCM.out.mono ?_
      rintro x9 w7 ⟨rfl, hb7⟩
      have hB8 := bcat2 hB (bcat2 hb7 (balloc w7 (.cells #[.int .i64 t] 3)))
      clear g0 g1
      go_wp2_with fail
      refine (HOF.out _ _ (cell1 _ _ _)).mono ?_
      rintro x9 w8 ⟨rfl, rfl⟩
      go_wp2
      go_roundw
      case rel => exact ⟨k + 1, by omega, by go_num, rfl, hB8⟩
      case measure => simp [intOf]; omega
    · have hkn : k = xs.length := by omega
      subst hkn
      rw [List.take_length]
      go_wp2
      go_ret
      exact ⟨rfl, bcat2 hB0 hB⟩
theorem call109 (a : Int) (x y : Value) (W : World) : Sem.run Tryz.prog (callFunc 82 (#[.int .i64 a] ++ #[x, y])) W = .ok (.enter 82 (#[.int .i64 a] ++ #[x, y])) W := by kernel_rfl
set_option maxRecDepth 100000 in
set_option maxHeartbeats 4000000 in
theorem rgt1_ok (n : Nat) (v lv : Value) (zs : List Int) (xs : List Nat) (a gb lb : Nat) (w : World) (ht : IsTab n zs) (hv : Sl w v zs) (hs : Sl w lv (li xs)) (hx : ∀ x, x ∈ xs → x < n) (ha : a < n) (hX : BoxG w gb n v) (hL : Boxed w lb 22 lv) :
    Calls Tryz.prog 82 (#[.int .i64 a] ++ #[.pointer (some ⟨gb, 0, none⟩), .pointer (some ⟨lb, 0, none⟩)]) w fun e w' => e = .returned (.int .u64 (bs (rgtq n zs xs a) n)) ∧ Below w.heap.size w w' := by
  show Calls Tryz.prog 82 #[.int .i64 a, .pointer (some ⟨gb, 0, none⟩), .pointer (some ⟨lb, 0, none⟩)] w _
  obtain ⟨c0, c1, _, _⟩ := hX.two
  have c2 := hL.cell
  go_enter Tryz.func82, Tryz.ntmps82
  go_wp2_with fail
  refine (rgt_ok n v lv zs xs a w ht hv hs hx ha).mono ?_
  rintro x w1 ⟨rfl, hb1⟩
  go_wp2
  go_ret
  exact ⟨rfl, hb1⟩
theorem und95 : Tryz.prog.underlying 101 = some (.map 68 3) := by kernel_rfl
set_option maxRecDepth 100000 in
set_option maxHeartbeats 8000000 in
theorem parts_ok (n k : Nat) (caps : Array Value) (f : Nat → Nat → Bool) (w : World) (hn : n ≤ 60) (hT : Tab w)
    (hcall : ∀ a W, Sem.run Tryz.prog (callFunc k (#[.int .i64 a] ++ caps)) W = .ok (.enter k (#[.int .i64 a] ++ caps)) W)
    (hp : ∀ (W : World) (a : Nat), Below w.heap.size w W → a < n → Calls Tryz.prog k (#[.int .i64 a] ++ caps) W fun e w' => e = .returned (.int .u64 (bs (f a) n)) ∧ Below W.heap.size W w') :
    Calls Tryz.prog 81 #[.int .i64 n, .func (.func k) #[] caps] w fun x w' => ∃ r vs D, x = .returned (.tuple #[r, .map (some w.heap.size)]) ∧ w'.ownsRow (w.heap.size + 1) 22 1 r vs.length vs ∧ Lsts w' (w.heap.size + 1) r vs (csl n f n) ∧ w'.ownsMap Tryz.prog 68 (plainElem Tryz.prog 3) w.heap.size n D ∧ MInv n f n D ∧ Below w.heap.size w w' := by
  obtain ⟨i0, hi, hz0, hz1, hz2⟩ := info_parts info22b
  have hmm := @run_makeMap Tryz.prog
  have HP := hide hp
  clear hp
  go_enter Tryz.func81, Tryz.ntmps81
  go_wp2
  clear hmm
  go_loopw [6, 14] (fun r i wr => ∃ (j : Nat) (vs : List Value) (D : DataW Unit), j ≤ n ∧ i = .int .i64 j ∧ wr.ownsRow (w.heap.size + 1) 22 1 r vs.length vs ∧ Lsts wr (w.heap.size + 1) r vs (csl n f j) ∧ wr.ownsMap Tryz.prog 68 (plainElem Tryz.prog 3) w.heap.size j D ∧ MInv n f j D ∧ Below w.heap.size w wr) (fun _ i _ => n - (intOf i).toNat)
  case atStart => exact ⟨0, [], .map [], Nat.zero_le _, rfl, World.ownsRow_nil _ _ _ _, ⟨rfl, fun t x l h => by simp at h⟩, World.ownsMap_made _ _ _ _, fun s => ⟨fun h => by simp [Maps.has] at h, fun ⟨a, h, _⟩ => by omega⟩, balloc w _⟩
  case round =>
    obtain ⟨j, vs, D, hj, rfl, hrow, hls, hmap, hM, hB⟩ := hrel
    obtain ⟨ra, rcap, rfl⟩ := own_slice' hrow
    by_cases hlt : j < n
    · have hji : (j : Int) < (n : Int) := by omega
      go_wp2_with fail
      refine (HP.out wr j hB hlt).mono ?_
      rintro e1 w1 ⟨rfl, hb1⟩
      have hB1 := bcat2 hB hb1
      have hmap1 := hmap.kept (below_grown hb1 none) (by simp)
      have hrow1 := hrow.kept (below_grown hb1 none) (by cases ra <;> simp [Value.ownBlock])
      have hls1 : Lsts w1 (w.heap.size + 1) (.slice ra vs.length rcap) vs (csl n f j) := hls.keep hb1.size (fun g _ h2 _ => hb1.block g h2) (.inl rfl)
      have hkw : (Lit.int .u64 (bs (f j) n : Nat)).wf = true := WalkArith.wf_u64 (by have := bs_64 (p := f j) hn; omega)
      have hkey := keyOf_int_mk und77 hkw
      have hvl : vs.length ≤ j := by rw [hls.1]; unfold csl; rw [List.length_map]; exact fsts_len n f j
      have hs1 : w.heap.size < w1.heap.size := Nat.lt_of_lt_of_le hmap.lt hb1.size
      clear hrow hls hmap hB hb1
      cases hh : Maps.has D (.int .u64 (bs (f j) n : Nat)) with
      | false =>
        have HST := hide (show csl n f (j + 1) = csl n f j ++ [li (lst n (f j))] by
          unfold csl
          rw [fsts_succ, if_pos ((minv_new hM).1 hh), List.map_append]; rfl)
        have HMV := hide (fun d => minv_step (d := d) hM (map_is hmap1))
        go_wp2_with (first
          | (at_lookup; refine wpList_lookup_own_ok_int _ rfl _ _ 101 rfl 68 3 .i64 law77 und95 und3' (zero3 _) w.heap.size _ D rfl hmap1 _ _ rfl hkey ?_; intro c hat hwc; rw [hh])
          | (at_mapUpdate; refine wpList_mapUpdate_own _ rfl _ _ _ 101 rfl 68 3 law77 und95 _ w.heap.size _ D rfl hmap1 (by unfold maxLen; omega) _ _ _ rfl rfl hkey _ [] (plainElem_int und3' (WalkArith.wf_i64 (by omega))) ?_; intro w2 hmap2 hgrow2))
        have hB2 := hB1.grown hgrow2 hB1.size (fun k hk => by cases hk; exact Nat.le_refl _)
        have hrow2 := hrow1.kept hgrow2 (by
          by_cases h9 : (Value.slice ra vs.length rcap).ownBlock = some w.heap.size
          · have := owns_ge hrow1 _ h9; omega
          · exact .inr h9)
        have hls2 : Lsts w2 (w.heap.size + 1) (.slice ra vs.length rcap) vs (csl n f j) := hls1.keep hgrow2.size (fun g h1 h2 _ => hgrow2.block g h2 (by simp; omega)) (.inl rfl)
        have hs2 : w.heap.size < w2.heap.size := Nat.lt_of_lt_of_le hs1 hgrow2.size
        clear hrow1 hls1 hmap1 hB1 hgrow2
        refine (list_ok n (f j) w2 hn (hT.below hB2)).mono ?_
        rintro e3 w3 ⟨r9, rfl, hr9, hb3⟩
        have hB3 := bcat2 hB2 hb3
        have hrow3 := hrow2.kept (below_grown hb3 none) (by cases ra <;> simp [Value.ownBlock])
        have hls3 : Lsts w3 (w.heap.size + 1) (.slice ra vs.length rcap) vs (csl n f j) := hls2.keep hb3.size (fun g _ h2 _ => hb3.block g h2) (.inl rfl)
        have hmap3 := hmap2.kept (below_grown hb3 none) (by simp)
        have hown2 : ∀ g, (Value.slice ra vs.length rcap).ownBlock = some g → g < w2.heap.size := fun g hg => by
          rcases hrow2.2 with ⟨h1, _⟩ | ⟨g', cap, cur, h1, _, hh9, _⟩
          · rw [h1] at hg; simp [Value.ownBlock] at hg
          · rw [h1] at hg
            simp [Value.ownBlock] at hg
            subst hg
            exact (Array.getElem?_eq_some_iff.1 hh9).1
        obtain ⟨qa, qcap, qb, qo, rfl, hq, hq1, hq2, hq3, hq4⟩ := hr9
        have hs3 := hb3.size
        have HQ := hide hq
        clear hrow2 hls2 hmap2 hB2 hb3 hq
        generalize li (lst n (f j)) = lj at *
        go_wp2_with (first
          | (at_builtin; refine wpList_append_own_at _ rfl _ _ 25 rfl (w.heap.size + 1) 22 i0 (.slice none 0 0) 1 24 under25b hi hz0 hz1 hz2 rfl (by decide) _ _ _ rfl (World.ownsRow.alloc hrow3 _) ⟨w3.heap.size, 0, none⟩ 1 1 [.slice qa lj.length qcap] rfl rfl ?c1 ?c2 ?c3 ?c4 ?c5 ?_))
        case c1 => exact cell_one_new _ _ _
        case c2 => simp [Value.oneCell']
        case c3 => unfold maxLen; omega
        case c4 => omega
        case c5 => simp; omega
        intro v' w4 hown' hgrow hnil hloc
        obtain ⟨ra', rcap', rfl⟩ := own_slice' hown'
        have hB4 : Below w.heap.size w w4 := (hB3.alloc hB3.size _).grown hgrow (by simp; omega) (fun t e => by have := owns_ge hrow3 t e; omega)
        have hmap4 := (hmap3.kept (World.grownBy_alloc w3 _ none) (by simp)).kept hgrow (fun e => by have := owns_ge hrow3 _ e.symm; omega)
        have hbl : ∀ g, g < w3.heap.size → (Value.slice ra vs.length rcap).ownBlock ≠ some g → w4.heap[g]? = w3.heap[g]? := fun g h1 h2 => (hgrow.block g (by simp; omega) (fun e => h2 e.symm)).trans (Below.block (balloc w3 _) g h1)
        have hs4 : w3.heap.size < w4.heap.size := by have := hgrow.size; simp at this; omega
        have hlo : (Value.slice ra' (vs.length + 1) rcap').ownBlock = (Value.slice ra vs.length rcap).ownBlock ∨ ∀ g, (Value.slice ra' (vs.length + 1) rcap').ownBlock = some g → w3.heap.size ≤ g := by
          rcases hloc with h | h
          · exact .inl h
          · right; intro g hg; rw [h] at hg; simp at hg; omega
        have hls4 := (hls3.keep (r' := .slice ra' (vs.length + 1) rcap') (by omega) (fun g _ h2 h3 => hbl g h2 h3) hlo).snoc (x := .slice qa lj.length qcap) (l := lj) ⟨qa, qcap, qb, qo, rfl, HQ.out.of_eq (hbl qb hq1 (fun e => by have := hown2 _ e; omega)), by omega, hq2, hq3, by omega, fun g hg e => by
          subst e
          rcases hlo with h | h
          · have := hown2 _ (h ▸ hg); omega
          · have := h _ hg; omega⟩
        have hrow4 : w4.ownsRow (w.heap.size + 1) 22 1 (.slice ra' (vs.length + 1) rcap') (vs ++ [Value.slice qa lj.length qcap]).length (vs ++ [Value.slice qa lj.length qcap]) := by simpa using hown'
        clear hown' hgrow hloc hlo hbl hrow3 hls3 hmap3 hB3
        go_wp2
        go_roundw
        case rel => exact ⟨j + 1, _, _, by omega, by go_num, hrow4, by rw [HST.out]; exact hls4, hmap4, HMV.out _, hB4⟩
        case measure => simp [intOf]; omega
      | true =>
        have HST := hide (show csl n f (j + 1) = csl n f j by
          unfold csl
          rw [fsts_succ, if_neg (by rw [← minv_new hM, hh]; simp)])
        have HMV := hide (minv_same hM hh)
        go_wp2_with (first
          | (at_lookup; refine wpList_lookup_own_ok_int _ rfl _ _ 101 rfl 68 3 .i64 law77 und95 und3' (zero3 _) w.heap.size _ D rfl hmap1 _ _ rfl hkey ?_; intro c hat hwc; rw [hh]))
        go_roundw
        case rel => exact ⟨j + 1, vs, D, by omega, by go_num, hrow1, by rw [HST.out]; exact hls1, map_more hmap1, HMV.out, hB1⟩
        case measure => simp [intOf]; omega
    · have hjn : j = n := by omega
      subst hjn
      go_wp2
      exact bodyPost_ret (v := .tuple #[.slice ra vs.length rcap, .map (some w.heap.size)]) (by simp [results, Tryz.results81, go_sem]) rfl ⟨_, vs, D, rfl, hrow, hls, hmap, hM, hB⟩
theorem is_any (N : Int) (v u : Value) (zs l : List Int) (w : World) (hv : Sl w v zs) (hu : Sl w u l) (hT : Tab w) : ∃ b c i, Calls Tryz.prog 57 #[.agg #[.int .i64 N, v], u] w (fun x w' => x = .returned (.tuple #[.bool b, .agg #[.int .i64 c, .int .i64 i]]) ∧ Below w.heap.size w w') ∧ ((c ≠ 0 ∧ ufault N zs l = (c, i)) ∨ (c = 0 ∧ i = 0 ∧ b = false ∧ ufault N zs l = (7, 0)) ∨ (c = 0 ∧ i = 0 ∧ b = true ∧ ufault N zs l = (0, 0))) := by
  by_cases hs : (sfault N zs l).1 = 0
  · obtain ⟨n, e, rfl, hg, hl, _⟩ := sfault_zero hs
    have h := is_good n e v u zs l w hv hg hu hT hl
    have hf := ufault_u hg hl
    cases hb : subT n zs e (pset l)
    · rw [hb] at h hf; exact ⟨false, 0, 0, h, .inr (.inl ⟨rfl, rfl, rfl, hf⟩)⟩
    · rw [hb] at h hf; exact ⟨true, 0, 0, h, .inr (.inr ⟨rfl, rfl, rfl, hf⟩)⟩
  · exact ⟨false, _, _, is_bad N v u zs l w hv hu hs, .inl ⟨hs, ufault_s hs⟩⟩
set_option maxRecDepth 100000 in
set_option maxHeartbeats 8000000 in
theorem wrong_ok (N : Int) (v : Value) (zs : List Int) (b cap : Nat) (ls : List (List Int)) (w : World) (hv : Sl w v zs) (hT : Tab w) (hlen : ls.length ≤ 2)
    (hc : ∀ t, t < ls.length → ∃ x, w.cell? ⟨b, t, none⟩ = some x ∧ Sl w x (ls[t]?.getD [])) :
    Calls Tryz.prog 80 #[.agg #[.int .i64 N, v], .slice (some ⟨b, 0, none⟩) ls.length cap] w fun x w' => x = .returned (.agg #[.int .i64 (wfault N zs ls).1, .int .i64 (wfault N zs ls).2]) ∧ Below w.heap.size w w' := by
  obtain ⟨w0, BG⟩ := Beg.new w N v
  have HC := hide hc
  clear hc
  go_enter Tryz.func80, Tryz.ntmps80
  go_wp2
  rw [← BG.eq]
  go_loopw [11] (fun i wr => ∃ k : Nat, k ≤ ls.length ∧ i = .int .i64 k ∧ (∀ t, t < k → (ufault N zs (ls[t]?.getD [])).1 = 0) ∧ Below w0.heap.size w0 wr) (fun i _ => ls.length - (intOf i).toNat)
  case atStart => exact ⟨0, Nat.zero_le _, rfl, fun t ht => by omega, Below.refl _ _⟩
  case round =>
    obtain ⟨k, hk, rfl, hno, hB⟩ := hrel
    have HNO := hide hno
    clear hno
    have hBw := bcat BG.bel hB BG.bel.size
    have hX := blk_below BG.box hB
    have hR := blk_below BG.res hB
    have HS1 := hide hR.lt
    by_cases hlt : k < ls.length
    · obtain ⟨x, hcx, hsx⟩ := HC.out k hlt
      obtain ⟨x1, x2, x3, rfl⟩ := hsx.isSlice
      obtain ⟨bq, c, i, HI, hor⟩ := is_any N v (.slice x1 x2 x3) zs (ls[k]?.getD []) wr (hv.below hBw) (hsx.below hBw) (hT.below hBw)
      have HI := hide HI
      have hcx := below_cell hBw hcx
      have hki : (k : Int) < (ls.length : Int) := by omega
      obtain ⟨c0, c1, _, _⟩ := hX.two
      go_wp2_with fail
      refine HI.out.mono ?_
      rintro e1 w1 ⟨rfl, hb1⟩
      clear c0 c1 hcx hsx
      have hb2 := bcat2 hb1 (balloc w1 (.cells #[.int .i64 c, .int .i64 i] 28))
      have hF2 := blk0 (w := w1) (T := 28) (.int .i64 c) (.int .i64 i)
      have hB2 := bcat2 hB hb2
      have hBw2 := bcat BG.bel hB2 BG.bel.size
      have hR2 := blk_below hR hb2
      obtain ⟨f0, f1, _, _⟩ := hF2.two
      obtain ⟨y0, y1, fy0, fy1⟩ := hR2.two
      rcases hor with ⟨hc0, hu⟩ | ⟨rfl, rfl, rfl, hu⟩ | ⟨rfl, rfl, rfl, hu⟩
      · have HD := hide (show wfault N zs ls = (c, i) by rw [← hu]; exact wfault_at HNO.out hlt (by rw [hu]; exact hc0))
        have hcb : (c != 0) = true := by simpa using hc0
        obtain ⟨hR6, hB6⟩ := put2 hR2 hBw2 (by omega) c i
        go_wp2
        generalize ((w1.alloc (.cells #[.int .i64 c, .int .i64 i] 28)).setCell ⟨w.heap.size + 1, 0, none⟩ (.int .i64 c)).setCell ⟨w.heap.size + 1, 1, none⟩ (.int .i64 i) = W at hR6 hB6 ⊢
        obtain ⟨z0, z1, _, _⟩ := hR6.two
        rw [HD.out]
        exact bodyPost_ret (v := .agg #[.int .i64 c, .int .i64 i]) (by simp [results, Tryz.results80, go_sem, z0, z1]) rfl ⟨rfl, hB6⟩
      · have HD := hide (show wfault N zs ls = (7, 0) by rw [← hu]; exact wfault_at HNO.out hlt (by rw [hu]; decide))
        obtain ⟨hR6, hB6⟩ := put2 hR2 hBw2 (by omega) 7 0
        go_wp2
        generalize ((w1.alloc (.cells #[.int .i64 0, .int .i64 0] 28)).setCell ⟨w.heap.size + 1, 0, none⟩ (.int .i64 7)).setCell ⟨w.heap.size + 1, 1, none⟩ (.int .i64 0) = W at hR6 hB6 ⊢
        obtain ⟨z0, z1, _, _⟩ := hR6.two
        rw [HD.out]
        exact bodyPost_ret (v := .agg #[.int .i64 7, .int .i64 0]) (by simp [results, Tryz.results80, go_sem, z0, z1]) rfl ⟨rfl, hB6⟩
      · go_wp2
        go_roundw
        case rel => exact ⟨k + 1, by omega, by go_num, fun t ht => by
          by_cases e9 : t = k
          · subst e9; rw [hu]
          · exact HNO.out t (by omega), hB2⟩
        case measure => simp [intOf]; omega
    · have HD := hide (show wfault N zs ls = (0, 0) from wfault_ok fun t ht => HNO.out t (by omega))
      obtain ⟨y0, y1, fy0, fy1⟩ := hR.two
      obtain ⟨hR6, hB6⟩ := put2 hR hBw (by omega) 0 0
      go_wp2
      generalize (wr.setCell ⟨w.heap.size + 1, 0, none⟩ (.int .i64 0)).setCell ⟨w.heap.size + 1, 1, none⟩ (.int .i64 0) = W at hR6 hB6 ⊢
      obtain ⟨z0, z1, _, _⟩ := hR6.two
      rw [HD.out]
      exact bodyPost_ret (v := .agg #[.int .i64 0, .int .i64 0]) (by simp [results, Tryz.results80, go_sem, z0, z1]) rfl ⟨rfl, hB6⟩
set_option maxRecDepth 100000 in
set_option maxHeartbeats 1000000 in
theorem rgt_bad (N : Int) (v u : Value) (zs l : List Int) (w : World) (hv : Sl w v zs) (hu : Sl w u l) (hT : Tab w) (hc : (ufault N zs l).1 ≠ 0) :
    Calls Tryz.prog 48 #[.agg #[.int .i64 N, v], u] w fun x w' => x = .returned (.tuple #[.slice none 0 0, .agg #[.int .i64 (ufault N zs l).1, .int .i64 (ufault N zs l).2]]) ∧ Below w.heap.size w w' := by
  obtain ⟨u1, u2, u3, rfl⟩ := hu.isSlice
  obtain ⟨w0, BG⟩ := Beg3.new w N v (.slice u1 u2 u3)
  have hu0 := (hu.below BG.bel).alloc (.cells #[.slice u1 u2 u3] 22)
  have hv0 := (hv.below BG.bel).alloc (.cells #[.slice u1 u2 u3] 22)
  have hT0 := (hT.below BG.bel).below (balloc w0 (.cells #[.slice u1 u2 u3] 22))
  have HW := hide (wrong_ok N v zs w0.heap.size 1 [l] (w0.alloc (.cells #[.slice u1 u2 u3] 22)) hv0 hT0 (by simp) (fun t ht => by
    have : t = 0 := by simp at ht; omega
    subst this
    exact ⟨_, cell1 _ _ _, hu0⟩))
  have hs0 : w0.heap.size = w.heap.size + 1 + 1 + 1 := by rw [BG.eq]; simp
  rw [hs0, show [l].length = 1 from rfl, wfault_one] at HW
  obtain ⟨c0, c1, _, _⟩ := BG.box.two
  have c2 := BG.lis.cell
  rw [BG.eq] at c0 c1 c2
  obtain ⟨c, i, hci⟩ : ∃ c i, ufault N zs l = (c, i) := ⟨_, _, rfl⟩
  rw [hci] at HW hc ⊢
  simp only at HW hc ⊢
  clear hci
  have hcb : (c != 0) = true := by simpa using hc
  go_enter Tryz.func48, Tryz.ntmps48
  go_wp2_with fail
  rw [← BG.eq]
  clear c0 c1 c2
  refine HW.out.mono ?_
  rintro x w1 ⟨rfl, hb1⟩
  have hb1 := bcat2 (balloc w0 (.cells #[.slice u1 u2 u3] 22)) hb1
  have hb2 := bcat2 hb1 (balloc w1 (.cells #[.int .i64 c, .int .i64 i] 28))
  have hF2 := blk0 (w := w1) (T := 28) (.int .i64 c) (.int .i64 i)
  have hBw := bcat BG.bel hb2 BG.bel.size
  have hR2 := blk_below BG.res hb2
  obtain ⟨t0, t1, _, _⟩ := hF2.two
  obtain ⟨y0, y1, fy0, fy1⟩ := hR2.two
  obtain ⟨hR6, hB6⟩ := put2 hR2 hBw (by omega) c i
  go_wp2_with fail
  go_region
  all_goals (
    go_wp2
    obtain ⟨z0, z1, _, _⟩ := hR6.two
    exact bodyPost_ret (v := .tuple #[.slice none 0 0, .agg #[.int .i64 c, .int .i64 i]]) (by simp [results, Tryz.results48, go_sem, z0, z1]) rfl ⟨rfl, bdrew hB6⟩)
set_option maxRecDepth 100000 in
set_option maxHeartbeats 1000000 in
theorem rgt_good (n e : Nat) (v u : Value) (zs l : List Int) (w : World) (hv : Sl w v zs) (hg : IsGrp n zs e) (hu : Sl w u l) (hT : Tab w) (hl : lfault n l = (0, 0)) (hsb : subT n zs e (pset l) = true) :
    Calls Tryz.prog 48 #[.agg #[.int .i64 n, v], u] w fun x w' => ∃ r vs, x = .returned (.tuple #[r, .agg #[.int .i64 0, .int .i64 0]]) ∧ w'.ownsRow w.heap.size 22 1 r vs.length vs ∧ Lsts w' w.heap.size r vs (csl n (rgtq n zs (lst n (pset l))) n) ∧ Below w.heap.size w w' := by
  obtain ⟨u1, u2, u3, rfl⟩ := hu.isSlice
  obtain ⟨w0, BG⟩ := Beg3.new w n v (.slice u1 u2 u3)
  have hu0 := (hu.below BG.bel).alloc (.cells #[.slice u1 u2 u3] 22)
  have hv0 := (hv.below BG.bel).alloc (.cells #[.slice u1 u2 u3] 22)
  have hT0 := (hT.below BG.bel).below (balloc w0 (.cells #[.slice u1 u2 u3] 22))
  have HW := hide (wrong_ok n v zs w0.heap.size 1 [l] (w0.alloc (.cells #[.slice u1 u2 u3] 22)) hv0 hT0 (by simp) (fun t ht => by
    have : t = 0 := by simp at ht; omega
    subst this
    exact ⟨_, cell1 _ _ _, hu0⟩))
  have hs0 : w0.heap.size = w.heap.size + 1 + 1 + 1 := by rw [BG.eq]; simp
  rw [hs0, show [l].length = 1 from rfl, wfault_one] at HW
  obtain ⟨c0, c1, _, _⟩ := BG.box.two
  have c2 := BG.lis.cell
  rw [BG.eq] at c0 c1 c2
  rw [show ufault n zs l = (0, 0) by rw [ufault_u hg hl, if_pos hsb]] at HW
  simp only at HW
  have hli := set_lst (show (lfault n l).1 = 0 by rw [hl])
  have hu9 : Sl w (.slice u1 u2 u3) (li (lst n (pset l))) := by rw [← hli]; exact hu
  have hxm : ∀ x, x ∈ lst n (pset l) → x < n := fun x hx => (mem_lst.1 hx).1
  go_enter Tryz.func48, Tryz.ntmps48
  go_wp2_with fail
  rw [← BG.eq]
  clear c0 c1 c2
  refine HW.out.mono ?_
  rintro x w1 ⟨rfl, hb1⟩
  have hb1 := bcat2 (balloc w0 (.cells #[.slice u1 u2 u3] 22)) hb1
  have hb2 := bcat2 hb1 (balloc w1 (.cells #[.int .i64 0, .int .i64 0] 28))
  have hF2 := blk0 (w := w1) (T := 28) (.int .i64 0) (.int .i64 0)
  have hBw := bcat BG.bel hb2 BG.bel.size
  have hX2 := blk_below BG.box hb2
  have hL2 := Boxed.below BG.lis hb2
  have hR2 := blk_below BG.res hb2
  obtain ⟨t0, t1, _, _⟩ := hF2.two
  obtain ⟨c0, c1, _, _⟩ := hX2.two
  go_wp2_with fail
  generalize w1.alloc (.cells #[.int .i64 0, .int .i64 0] 28) = w2 at *
  clear t0 t1 c0 c1
  refine (parts_ok n 82 #[.pointer (some ⟨w.heap.size, 0, none⟩), .pointer (some ⟨w.heap.size + 1, 0, none⟩)] (rgtq n zs (lst n (pset l))) w2 hg.tab.le (hT.below hBw) (fun a W => call109 a _ _ W) (fun W a hW ha => rgt1_ok n v (.slice u1 u2 u3) zs (lst n (pset l)) a w.heap.size (w.heap.size + 1) W hg.tab ((hv.below hBw).below hW) ((hu9.below hBw).below hW) hxm ha (blk_below hX2 hW) (Boxed.below hL2 hW))).mono ?_
  rintro x w3 ⟨r, vs, D, rfl, hrow, hls, _, _, hb3⟩
  obtain ⟨ra, rcap, rfl⟩ := own_slice' hrow
  have hlt2 := hR2.lt
  have hB3 := bcat2 hBw hb3
  have hR3 := blk_below hR2 hb3
  obtain ⟨y0, y1, fy0, fy1⟩ := hR3.two
  obtain ⟨hR6, hB6⟩ := put2 hR3 hB3 (by omega) 0 0
  have hk6 : ∀ g, w2.heap.size + 1 ≤ g → g < w3.heap.size → ((w3.setCell ⟨w.heap.size + 1 + 1, 0, none⟩ (.int .i64 0)).setCell ⟨w.heap.size + 1 + 1, 1, none⟩ (.int .i64 0)).heap[g]? = w3.heap[g]? := fun g h1 _ => (Below.heap_setCell _ _ _ g (by simp; omega)).trans (Below.heap_setCell _ _ _ g (by simp; omega))
  have hrow6 := own_keep' hrow hk6
  have hls6 := hls.keep (by rw [size_set, size_set]; exact Nat.le_refl _) (fun g h1 h2 _ => hk6 g h1 h2) (.inl rfl)
  have hsz : w.heap.size ≤ w2.heap.size + 1 := by have := hBw.size; omega
  have hrow7 := owns_mono hrow6 hsz
  have hls7 := hls6.mono hsz
  clear hrow hls hrow6 hls6 hk6
  go_wp2
  generalize (w3.setCell ⟨w.heap.size + 1 + 1, 0, none⟩ (.int .i64 0)).setCell ⟨w.heap.size + 1 + 1, 1, none⟩ (.int .i64 0) = W at hR6 hB6 hrow7 hls7 ⊢
  obtain ⟨z0, z1, _, _⟩ := hR6.two
  exact bodyPost_ret (v := .tuple #[.slice ra vs.length rcap, .agg #[.int .i64 0, .int .i64 0]]) (by simp [results, Tryz.results48, go_sem, z0, z1]) rfl ⟨_, vs, rfl, hrow7, hls7, hB6⟩
set_option maxRecDepth 100000 in
set_option maxHeartbeats 8000000 in
theorem parts2_ok (n k : Nat) (caps : Array Value) (f : Nat → Nat → Bool) (w : World) (hn : n ≤ 60) (hT : Tab w)
    (hcall : ∀ a W, Sem.run Tryz.prog (callFunc k (#[.int .i64 a] ++ caps)) W = .ok (.enter k (#[.int .i64 a] ++ caps)) W)
    (hp : ∀ (W : World) (a : Nat), Below w.heap.size w W → a < n → Calls Tryz.prog k (#[.int .i64 a] ++ caps) W fun e w' => e = .returned (.int .u64 (bs (f a) n)) ∧ Below W.heap.size W w') :
    Calls Tryz.prog 81 #[.int .i64 n, .func (.func k) #[] caps] w fun x w' => ∃ r vs D, x = .returned (.tuple #[r, .map (some w.heap.size)]) ∧ w'.ownsRow (w.heap.size + 1) 22 1 r vs.length vs ∧ Lsts w' (w.heap.size + 1) r vs (csl n f n) ∧ w'.ownsMap Tryz.prog 68 (plainElem Tryz.prog 3) w.heap.size n D ∧ MInv n f n D ∧ MNum n f n D ∧ Below w.heap.size w w' := by
  obtain ⟨i0, hi, hz0, hz1, hz2⟩ := info_parts info22b
  have hmm := @run_makeMap Tryz.prog
  have HP := hide hp
  clear hp
  go_enter Tryz.func81, Tryz.ntmps81
  go_wp2
  clear hmm
  go_loopw [6, 14] (fun r i wr => ∃ (j : Nat) (vs : List Value) (D : DataW Unit), j ≤ n ∧ i = .int .i64 j ∧ wr.ownsRow (w.heap.size + 1) 22 1 r vs.length vs ∧ Lsts wr (w.heap.size + 1) r vs (csl n f j) ∧ wr.ownsMap Tryz.prog 68 (plainElem Tryz.prog 3) w.heap.size j D ∧ MInv n f j D ∧ MNum n f j D ∧ Below w.heap.size w wr) (fun _ i _ => n - (intOf i).toNat)
  case atStart => exact ⟨0, [], .map [], Nat.zero_le _, rfl, World.ownsRow_nil _ _ _ _, ⟨rfl, fun t x l h => by simp at h⟩, World.ownsMap_made _ _ _ _, fun s => ⟨fun h => by simp [Maps.has] at h, fun ⟨a, h, _⟩ => by omega⟩, fun a h => by omega, balloc w _⟩
  case round =>
    obtain ⟨j, vs, D, hj, rfl, hrow, hls, hmap, hM, hMN, hB⟩ := hrel
    obtain ⟨ra, rcap, rfl⟩ := own_slice' hrow
    by_cases hlt : j < n
    · have hji : (j : Int) < (n : Int) := by omega
      go_wp2_with fail
      refine (HP.out wr j hB hlt).mono ?_
      rintro e1 w1 ⟨rfl, hb1⟩
      have hB1 := bcat2 hB hb1
      have hmap1 := hmap.kept (below_grown hb1 none) (by simp)
      have hrow1 := hrow.kept (below_grown hb1 none) (by cases ra <;> simp [Value.ownBlock])
      have hls1 : Lsts w1 (w.heap.size + 1) (.slice ra vs.length rcap) vs (csl n f j) := hls.keep hb1.size (fun g _ h2 _ => hb1.block g h2) (.inl rfl)
      have hkw : (Lit.int .u64 (bs (f j) n : Nat)).wf = true := WalkArith.wf_u64 (by have := bs_64 (p := f j) hn; omega)
      have hkey := keyOf_int_mk und77 hkw
      have hvl : vs.length ≤ j := by rw [hls.1]; unfold csl; rw [List.length_map]; exact fsts_len n f j
      have hs1 : w.heap.size < w1.heap.size := Nat.lt_of_lt_of_le hmap.lt hb1.size
      clear hrow hls hmap hB hb1
      cases hh : Maps.has D (.int .u64 (bs (f j) n : Nat)) with
      | false =>
        have HST := hide (show csl n f (j + 1) = csl n f j ++ [li (lst n (f j))] by
          unfold csl
          rw [fsts_succ, if_pos ((minv_new hM).1 hh), List.map_append]; rfl)
        have HMV := hide (fun d => minv_step (d := d) hM (map_is hmap1))
        have HNV := hide (mnum_step hMN (map_is hmap1) hlt ((minv_new hM).1 hh))
        have HVL2 := hide (show vs.length = (fsts n f j).length by rw [hls1.1, csl_len])
        go_wp2_with (first
          | (at_lookup; refine wpList_lookup_own_ok_int _ rfl _ _ 101 rfl 68 3 .i64 law77 und95 und3' (zero3 _) w.heap.size _ D rfl hmap1 _ _ rfl hkey ?_; intro c hat hwc; rw [hh])
          | (at_mapUpdate; refine wpList_mapUpdate_own _ rfl _ _ _ 101 rfl 68 3 law77 und95 _ w.heap.size _ D rfl hmap1 (by unfold maxLen; omega) _ _ _ rfl rfl hkey _ [] (plainElem_int und3' (WalkArith.wf_i64 (by omega))) ?_; intro w2 hmap2 hgrow2))
        have hB2 := hB1.grown hgrow2 hB1.size (fun k hk => by cases hk; exact Nat.le_refl _)
        have hrow2 := hrow1.kept hgrow2 (by
          by_cases h9 : (Value.slice ra vs.length rcap).ownBlock = some w.heap.size
          · have := owns_ge hrow1 _ h9; omega
          · exact .inr h9)
        have hls2 : Lsts w2 (w.heap.size + 1) (.slice ra vs.length rcap) vs (csl n f j) := hls1.keep hgrow2.size (fun g h1 h2 _ => hgrow2.block g h2 (by simp; omega)) (.inl rfl)
        have hs2 : w.heap.size < w2.heap.size := Nat.lt_of_lt_of_le hs1 hgrow2.size
        clear hrow1 hls1 hmap1 hB1 hgrow2
        refine (list_ok n (f j) w2 hn (hT.below hB2)).mono ?_
        rintro e3 w3 ⟨r9, rfl, hr9, hb3⟩
        have hB3 := bcat2 hB2 hb3
        have hrow3 := hrow2.kept (below_grown hb3 none) (by cases ra <;> simp [Value.ownBlock])
        have hls3 : Lsts w3 (w.heap.size + 1) (.slice ra vs.length rcap) vs (csl n f j) := hls2.keep hb3.size (fun g _ h2 _ => hb3.block g h2) (.inl rfl)
        have hmap3 := hmap2.kept (below_grown hb3 none) (by simp)
        have hown2 : ∀ g, (Value.slice ra vs.length rcap).ownBlock = some g → g < w2.heap.size := fun g hg => by
          rcases hrow2.2 with ⟨h1, _⟩ | ⟨g', cap, cur, h1, _, hh9, _⟩
          · rw [h1] at hg; simp [Value.ownBlock] at hg
          · rw [h1] at hg
            simp [Value.ownBlock] at hg
            subst hg
            exact (Array.getElem?_eq_some_iff.1 hh9).1
        obtain ⟨qa, qcap, qb, qo, rfl, hq, hq1, hq2, hq3, hq4⟩ := hr9
        have hs3 := hb3.size
        have HQ := hide hq
        clear hrow2 hls2 hmap2 hB2 hb3 hq
        generalize li (lst n (f j)) = lj at *
        go_wp2_with (first
          | (at_builtin; refine wpList_append_own_at _ rfl _ _ 25 rfl (w.heap.size + 1) 22 i0 (.slice none 0 0) 1 24 under25b hi hz0 hz1 hz2 rfl (by decide) _ _ _ rfl (World.ownsRow.alloc hrow3 _) ⟨w3.heap.size, 0, none⟩ 1 1 [.slice qa lj.length qcap] rfl rfl ?c1 ?c2 ?c3 ?c4 ?c5 ?_))
        case c1 => exact cell_one_new _ _ _
        case c2 => simp [Value.oneCell']
        case c3 => unfold maxLen; omega
        case c4 => omega
        case c5 => simp; omega
        intro v' w4 hown' hgrow hnil hloc
        obtain ⟨ra', rcap', rfl⟩ := own_slice' hown'
        have hB4 : Below w.heap.size w w4 := (hB3.alloc hB3.size _).grown hgrow (by simp; omega) (fun t e => by have := owns_ge hrow3 t e; omega)
        have hmap4 := (hmap3.kept (World.grownBy_alloc w3 _ none) (by simp)).kept hgrow (fun e => by have := owns_ge hrow3 _ e.symm; omega)
        have hbl : ∀ g, g < w3.heap.size → (Value.slice ra vs.length rcap).ownBlock ≠ some g → w4.heap[g]? = w3.heap[g]? := fun g h1 h2 => (hgrow.block g (by simp; omega) (fun e => h2 e.symm)).trans (Below.block (balloc w3 _) g h1)
        have hs4 : w3.heap.size < w4.heap.size := by have := hgrow.size; simp at this; omega
        have hlo : (Value.slice ra' (vs.length + 1) rcap').ownBlock = (Value.slice ra vs.length rcap).ownBlock ∨ ∀ g, (Value.slice ra' (vs.length + 1) rcap').ownBlock = some g → w3.heap.size ≤ g := by
          rcases hloc with h | h
          · exact .inl h
          · right; intro g hg; rw [h] at hg; simp at hg; omega
        have hls4 := (hls3.keep (r' := .slice ra' (vs.length + 1) rcap') (by omega) (fun g _ h2 h3 => hbl g h2 h3) hlo).snoc (x := .slice qa lj.length qcap) (l := lj) ⟨qa, qcap, qb, qo, rfl, HQ.out.of_eq (hbl qb hq1 (fun e => by have := hown2 _ e; omega)), by omega, hq2, hq3, by omega, fun g hg e => by
          subst e
          rcases hlo with h | h
          · have := hown2 _ (h ▸ hg); omega
          · have := h _ hg; omega⟩
        have hrow4 : w4.ownsRow (w.heap.size + 1) 22 1 (.slice ra' (vs.length + 1) rcap') (vs ++ [Value.slice qa lj.length qcap]).length (vs ++ [Value.slice qa lj.length qcap]) := by simpa using hown'
        clear hown' hgrow hloc hlo hbl hrow3 hls3 hmap3 hB3
        go_wp2
        go_roundw
        case rel => exact ⟨j + 1, _, _, by omega, by go_num, hrow4, by rw [HST.out]; exact hls4, hmap4, HMV.out _, by have := HNV.out; rw [← HVL2.out] at this; exact this, hB4⟩
        case measure => simp [intOf]; omega
      | true =>
        have HST := hide (show csl n f (j + 1) = csl n f j by
          unfold csl
          rw [fsts_succ, if_neg (by rw [← minv_new hM, hh]; simp)])
        have HMV := hide (minv_same hM hh)
        have HNV := hide (mnum_same hMN ((hM _).1 hh))
        go_wp2_with (first
          | (at_lookup; refine wpList_lookup_own_ok_int _ rfl _ _ 101 rfl 68 3 .i64 law77 und95 und3' (zero3 _) w.heap.size _ D rfl hmap1 _ _ rfl hkey ?_; intro c hat hwc; rw [hh]))
        go_roundw
        case rel => exact ⟨j + 1, vs, D, by omega, by go_num, hrow1, by rw [HST.out]; exact hls1, map_more hmap1, HMV.out, HNV.out, hB1⟩
        case measure => simp [intOf]; omega
    · have hjn : j = n := by omega
      subst hjn
      go_wp2
      exact bodyPost_ret (v := .tuple #[.slice ra vs.length rcap, .map (some w.heap.size)]) (by simp [results, Tryz.results81, go_sem]) rfl ⟨_, vs, D, rfl, hrow, hls, hmap, hM, hMN, hB⟩
end Go.Proofs.YtjiapicknkjhmaaGreatDoor

namespace Go.Proofs.YtjiapicknkjhmaaGreatDoor
open Go Go.RowKit Go.Maps

set_option maxRecDepth 100000 in
set_option maxHeartbeats 4000000 in
theorem quo_bad (N : Int) (v u : Value) (zs l : List Int) (w : World) (hv : Sl w v zs) (hu : Sl w u l) (hT : Tab w) (hc : (ufault N zs l).1 ≠ 0) :
    Calls Tryz.prog 18 #[.agg #[.int .i64 N, v], u] w fun x w' => x = .returned (.tuple #[.agg #[.int .i64 0, .slice none 0 0], .slice none 0 0, .agg #[.int .i64 (ufault N zs l).1, .int .i64 (ufault N zs l).2]]) ∧ Below w.heap.size w w' := by
  obtain ⟨w0, BG⟩ := BegQ.new w N v
  have HN := hide (nrm_bad N v u zs l w0 (hv.below BG.bel) (hu.below BG.bel) (hT.below BG.bel) hc)
  obtain ⟨c0, c1, _, _⟩ := BG.box.two
  obtain ⟨c, i, hci⟩ : ∃ c i, ufault N zs l = (c, i) := ⟨_, _, rfl⟩
  rw [hci] at HN hc ⊢
  simp only at HN hc ⊢
  clear hci
  have hcb : (c != 0) = true := by simpa using hc
  rw [BG.eq] at c0 c1
  go_enter Tryz.func18, Tryz.ntmps18
  go_wp2_with fail
  rw [← BG.eq]
  clear c0 c1
  refine HN.out.mono ?_
  rintro x w1 ⟨rfl, hb1⟩
  have hb2 := bcat2 hb1 (balloc w1 (.cells #[.int .i64 c, .int .i64 i] 28))
  have hF2 := blk0 (w := w1) (T := 28) (.int .i64 c) (.int .i64 i)
  have hBw := bcat BG.bel hb2 BG.bel.size
  have hG2 := blk_below BG.grp hb2
  have hR2 := blk_below BG.res hb2
  obtain ⟨t0, t1, _, _⟩ := hF2.two
  obtain ⟨y0, y1, fy0, fy1⟩ := hR2.two
  obtain ⟨g0, g1, fg0, fg1⟩ := hG2.two
  obtain ⟨s0, s1⟩ := hG2.self
  obtain ⟨hR6, hB6⟩ := put2 hR2 hBw (by omega) c i
  have hG6 := (hG2.other (p := ⟨w.heap.size + 1 + 1, 0, none⟩) (by simp) (.int .i64 c)).other (p := ⟨w.heap.size + 1 + 1, 1, none⟩) (by simp) (.int .i64 i)
  obtain ⟨g2, g3, fg2, fg3⟩ := hG6.two
  obtain ⟨s2, s3⟩ := hG6.self
  go_wp2_with fail
  go_region
  all_goals (
    go_wp2
    obtain ⟨z0, z1, _, _⟩ := hR6.two
    exact bodyPost_ret (v := .tuple #[.agg #[.int .i64 0, .slice none 0 0], .slice none 0 0, .agg #[.int .i64 c, .int .i64 i]]) (by simp [results, Tryz.results18, go_sem, z0, z1, g2, g3]) rfl ⟨rfl, bdrew hB6⟩)
set_option maxRecDepth 100000 in
set_option maxHeartbeats 4000000 in
theorem quo_odd (n e : Nat) (v u : Value) (zs l : List Int) (w : World) (hv : Sl w v zs) (hg : IsGrp n zs e) (hu : Sl w u l) (hT : Tab w) (hl : lfault n l = (0, 0)) (hsb : subT n zs e (pset l) = true) (hN : nrmq n zs e (pset l) = false) :
    Calls Tryz.prog 18 #[.agg #[.int .i64 n, v], u] w fun x w' => x = .returned (.tuple #[.agg #[.int .i64 0, .slice none 0 0], .slice none 0 0, .agg #[.int .i64 4, .int .i64 0]]) ∧ Below w.heap.size w w' := by
  obtain ⟨w0, BG⟩ := BegQ.new w n v
  have HN := hide (nrm_good n e v u zs l w0 (hv.below BG.bel) hg (hu.below BG.bel) (hT.below BG.bel) hl hsb)
  rw [hN] at HN
  obtain ⟨c0, c1, _, _⟩ := BG.box.two
  rw [BG.eq] at c0 c1
  go_enter Tryz.func18, Tryz.ntmps18
  go_wp2_with fail
  rw [← BG.eq]
  clear c0 c1
  refine HN.out.mono ?_
  rintro x w1 ⟨rfl, hb1⟩
  have hb2 := bcat2 hb1 (balloc w1 (.cells #[.int .i64 0, .int .i64 0] 28))
  have hF2 := blk0 (w := w1) (T := 28) (.int .i64 0) (.int .i64 0)
  have hBw := bcat BG.bel hb2 BG.bel.size
  have hG2 := blk_below BG.grp hb2
  have hR2 := blk_below BG.res hb2
  obtain ⟨t0, t1, _, _⟩ := hF2.two
  obtain ⟨y0, y1, fy0, fy1⟩ := hR2.two
  obtain ⟨g0, g1, fg0, fg1⟩ := hG2.two
  obtain ⟨s0, s1⟩ := hG2.self
  obtain ⟨hR6, hB6⟩ := put2 hR2 hBw (by omega) 4 0
  have hG6 := (hG2.other (p := ⟨w.heap.size + 1 + 1, 0, none⟩) (by simp) (.int .i64 4)).other (p := ⟨w.heap.size + 1 + 1, 1, none⟩) (by simp) (.int .i64 0)
  obtain ⟨g2, g3, fg2, fg3⟩ := hG6.two
  go_wp2
  obtain ⟨z0, z1, _, _⟩ := hR6.two
  exact bodyPost_ret (v := .tuple #[.agg #[.int .i64 0, .slice none 0 0], .slice none 0 0, .agg #[.int .i64 4, .int .i64 0]]) (by simp [results, Tryz.results18, go_sem, z0, z1, g2, g3]) rfl ⟨rfl, hB6⟩
set_option maxRecDepth 100000 in
set_option maxHeartbeats 8000000 in
theorem quo_good (n e : Nat) (v u : Value) (zs l : List Int) (w : World) (hv : Sl w v zs) (hg : IsGrp n zs e) (hu : Sl w u l) (hT : Tab w) (hl : lfault n l = (0, 0)) (hsb : subT n zs e (pset l) = true) (hN : nrmq n zs e (pset l) = true) :
    Calls Tryz.prog 18 #[.agg #[.int .i64 n, v], u] w fun x w' => ∃ r1 r2 r3 s1 s2 s3, x = .returned (.tuple #[.agg #[.int .i64 (fsts n (rgtq n zs (lst n (pset l))) n).length, .slice r1 r2 r3], .slice s1 s2 s3, .agg #[.int .i64 0, .int .i64 0]]) ∧ Sl w' (.slice r1 r2 r3) (mkT (fsts n (rgtq n zs (lst n (pset l))) n).length (quoF n zs (rgtq n zs (lst n (pset l))))) ∧ Sl w' (.slice s1 s2 s3) (ontoL n (rgtq n zs (lst n (pset l)))) ∧ Below w.heap.size w w' := by
  obtain ⟨i0, hi, hz0, hz1, hz2⟩ := info_parts info3b
  have hn := hg.tab.le
  have PP := rgt_parts hg hsb
  obtain ⟨w0, BG⟩ := BegQ.new w n v
  have HN := hide (nrm_good n e v u zs l w0 (hv.below BG.bel) hg (hu.below BG.bel) (hT.below BG.bel) hl hsb)
  rw [hN] at HN
  have HRG := hide (fun W (h : Below w.heap.size w W) => lists_sl (Nat.lt_of_lt_of_le hT.lt h.size) (rgt_good n e v u zs l W (hv.below h) hg (hu.below h) (hT.below h) hl hsb))
  obtain ⟨f, hf⟩ : ∃ f, f = rgtq n zs (lst n (pset l)) := ⟨_, rfl⟩
  rw [← hf] at HRG PP ⊢
  clear hf
  obtain ⟨K, hK⟩ : ∃ K, K = (fsts n f n).length := ⟨_, rfl⟩
  have hK6 : K ≤ 60 := by rw [hK]; exact Nat.le_trans (fsts_len n f n) hn
  have HCL := hide (show (csl n f n).length = K by rw [csl_len, hK])
  have HNUM := hide (fun W v9 (h : SlL W v9 (csl n f n)) => numbers_ok v9 (csl n f n) W h (by rw [HCL.out]; exact hK6) (fun t _ => Nat.le_trans (csl_len_le t) hn) (fun t a ha => by
    obtain ⟨b, hb, rfl, _⟩ := (csl_at PP t a).1 ha
    omega) (fun s t a h1 h2 => by
    obtain ⟨b, hb, rfl, h3⟩ := (csl_at PP s a).1 h1
    obtain ⟨b', hb', he, h4⟩ := (csl_at PP t _).1 h2
    have : b = b' := by omega
    subst this
    omega))
  have HNL := hide (fun a (ha : a < n) => (prts_num_lt PP ha).1)
  rw [← hK] at HNL
  have HAT := hide (fun (D : DataW Unit) (h : MLs (csl n f n) (csl n f n).length 0 D) a (ha : a < n) => h.old (num n f a) (by rw [csl_len]; exact (prts_num_lt PP ha).1) a ((csl_at PP _ _).2 ⟨a, ha, rfl, rfl⟩))
  have HGR := hide (fun W lv mb c (D : DataW Unit) (h : Below w.heap.size w W) (hL : SlL W lv (csl n f n)) (hm : W.ownsMap Tryz.prog 3 (plainElem Tryz.prog 3) mb c D) (hM : MLs (csl n f n) (csl n f n).length 0 D) =>
    group_ok n K v lv zs (csl n f n) (fun i => (fsts n f n)[i]?.getD 0) (quoF n zs f) mb c D W hg.tab (hv.below h) hL HCL.out hK6 (fun i hi => by
      rw [hK] at hi
      obtain ⟨s, hs⟩ := csl_head PP hi
      exact ⟨s, hs, by rw [List.getElem?_eq_getElem hi]; exact fst_lt hi⟩) hm (fun i j hi hj => by
      rw [hK] at hi hj
      have h1 := fst_lt hi
      have h2 := fst_lt hj
      unfold quoF
      simp only [List.getElem?_eq_getElem hi, List.getElem?_eq_getElem hj, Option.getD_some]
      exact HAT.out D hM _ (tm_lt hg.tab h1 h2)) (fun i j hi hj => by
      rw [hK] at hi hj
      unfold quoF
      simp only [List.getElem?_eq_getElem hi, List.getElem?_eq_getElem hj, Option.getD_some]
      have := HNL.out _ (tm_lt hg.tab (fst_lt hi) (fst_lt hj))
      omega))
  rw [← hK]
  have HK := hide hK
  clear hK PP hN
  obtain ⟨c0, c1, _, _⟩ := BG.box.two
  rw [BG.eq] at c0 c1
  go_enter Tryz.func18, Tryz.ntmps18
  go_wp2_with fail
  rw [← BG.eq]
  clear c0 c1
  refine HN.out.mono ?_
  rintro x w1 ⟨rfl, hb1⟩
  have hb2 := bcat2 hb1 (balloc w1 (.cells #[.int .i64 0, .int .i64 0] 28))
  have hF2 := blk0 (w := w1) (T := 28) (.int .i64 0) (.int .i64 0)
  have hBw := bcat BG.bel hb2 BG.bel.size
  have hX2 := blk_below BG.box hb2
  have hG2 := blk_below BG.grp hb2
  have hR2 := blk_below BG.res hb2
  obtain ⟨t0, t1, _, _⟩ := hF2.two
  obtain ⟨c0, c1, _, _⟩ := hX2.two
  go_wp2_with fail
  generalize w1.alloc (.cells #[.int .i64 0, .int .i64 0] 28) = w2 at *
  clear t0 t1 c0 c1 hb1 hb2
  refine (HRG.out _ hBw).mono ?_
  rintro x w3 ⟨r1, r2, r3, rfl, hr, hb3⟩
  have hF3 := blk_below hF2 hb3
  have hX3 := blk_below hX2 hb3
  have hG3 := blk_below hG2 hb3
  have hR3 := blk_below hR2 hb3
  have hBw3 := bcat2 hBw hb3
  obtain ⟨t0, t1, ft0, ft1⟩ := hF3.two
  obtain ⟨s0, s1⟩ := hF3.self
  go_wp2_with fail
  clear t0 t1 ft0 ft1 s0 s1
  refine (HNUM.out _ _ hr).mono ?_
  rintro x w4 ⟨D, rfl, hmap, hML, hb4⟩
  have hX4 := blk_below hX3 hb4
  have hG4 := blk_below hG3 hb4
  have hR4 := blk_below hR3 hb4
  have hr4 := hr.below hb4
  have hBw4 := bcat2 hBw3 hb4
  obtain ⟨k0, k1, _, _⟩ := hX4.two
  clear hX2 hX3 hG2 hG3 hR2 hR3 hF2 hF3 hr hBw hBw3 HNUM HRG HN
  go_wp2_with (first
    | (at_make; refine wpList_make_full _ rfl _ _ 22 rfl w4.heap.size 3 i0 (.int .i64 0) 1 under22b hi hz0 hz1 _ _ _ _ n rfl rfl rfl rfl (by rw [hz2]; omega) (by unfold maxLen; omega) (by simp) ?_))
  intro w5 hown hgr
  have hM5 : Blk w5 w4.heap.size 3 ((ontoU n f 0).map (Value.int .i64)) := by
    have := Blk.of_owns hown
    rw [made_rep] at this
    rw [ontoU_zero, List.map_replicate]; exact this
  have hb5 : Below w4.heap.size w4 w5 := (Below.refl _ w4).grown hgr (Nat.le_refl _) (by simp)
  clear hown hgr k0 k1
  have hw34 := hb4.size
  have HMP := hide hmap
  clear hmap
  go_wp2
  go_loopw [46] (fun i wr => ∃ a : Nat, a ≤ n ∧ i = .int .i64 a ∧ Blk wr w4.heap.size 3 ((ontoU n f a).map (Value.int .i64)) ∧ Below w4.heap.size w4 wr) (fun i _ => n - (intOf i).toNat)
  case atStart => exact ⟨0, Nat.zero_le _, rfl, hM5, hb5⟩
  case round =>
    obtain ⟨a, ha, rfl, hMa, hBa⟩ := hrel
    clear hM5 hb5
    by_cases hlt : a < n
    · have hai : (a : Int) < (n : Int) := by omega
      have hlk := look_int (HMP.out.kept (below_grown hBa none) (by simp)) (show a < 60 by omega) (HAT.out D hML a hlt)
      have hMc := hMa.int (y := a) (by rw [ontoU_len]; exact hlt)
      have hMf := hMa.frozen a
      have hM6 := hMa.setInt a (num n f a : Int)
      rw [← ontoU_set] at hM6
      have hB6 := hBa.setCell (p := ⟨w4.heap.size, a, none⟩) (Nat.le_refl _) (.int .i64 (num n f a : Int))
      go_wp2
      go_roundw
      case rel => exact ⟨a + 1, by omega, by go_num, hM6, hB6⟩
      case measure => simp [intOf]; omega
    · have hai : ¬ (a : Int) < (n : Int) := by omega
      have han : a = n := by omega
      rw [han, ontoU_all] at hMa
      clear han
      have hXr := blk_below hX4 hBa
      have hGr := blk_below hG4 hBa
      have hRr := blk_below hR4 hBa
      have hBr := bcat2 hBw4 hBa
      obtain ⟨k0, k1, _, _⟩ := hXr.two
      go_wp2_with fail
      clear k0 k1
      refine (HGR.out wr _ _ _ D hBr (hr4.below hBa) (HMP.out.kept (below_grown hBa none) (by simp)) hML).mono ?_
      rintro x w6 ⟨r, rfl, hrow, hb6⟩
      obtain ⟨T, hTe⟩ : ∃ T, T = mkT K (quoF n zs f) := ⟨_, rfl⟩
      rw [← hTe] at hrow
      have HTE := hide hTe
      clear hTe
      obtain ⟨rx, rcap, rfl⟩ := own_slice hrow
      have hMl := hMa.lt
      have hRl := hRr.lt
      have hGl := hGr.lt
      have hG6 := blk_below hGr hb6
      have hR6 := blk_below hRr hb6
      have hM6 := blk_below hMa hb6
      have hB6 := bcat2 hBr hb6
      obtain ⟨g0, g1, fg0, fg1⟩ := hG6.two
      have hG7 := (hG6.set 0 (.int .i64 K)).set 1 (.slice rx T.length rcap)
      have hR7 := (hR6.other (p := ⟨w.heap.size + 1, 0, none⟩) (by simp) (.int .i64 K)).other (p := ⟨w.heap.size + 1, 1, none⟩) (by simp) (.slice rx T.length rcap)
      have hMne : w4.heap.size ≠ w.heap.size + 1 := by have := hG4.lt; omega
      have hM7 := (hM6.other (p := ⟨w.heap.size + 1, 0, none⟩) (by simpa using hMne) (.int .i64 K)).other (p := ⟨w.heap.size + 1, 1, none⟩) (by simpa using hMne) (.slice rx T.length rcap)
      have hB7 := (hB6.setCell (p := ⟨w.heap.size + 1, 0, none⟩) (by simp) (.int .i64 K)).setCell (p := ⟨w.heap.size + 1, 1, none⟩) (by simp) (.slice rx T.length rcap)
      have hrow7 := row_keep (W' := (w6.setCell ⟨w.heap.size + 1, 0, none⟩ (.int .i64 K)).setCell ⟨w.heap.size + 1, 1, none⟩ (.slice rx T.length rcap)) hrow (fun g h1 _ => (Below.heap_setCell _ _ _ g (by simp; omega)).trans (Below.heap_setCell _ _ _ g (by simp; omega)))
      obtain ⟨y0, y1, fy0, fy1⟩ := hR7.two
      obtain ⟨s0, s1⟩ := hR7.self
      obtain ⟨v0, v1, fv0, fv1⟩ := hR6.two
      obtain ⟨z0, z1, _, _⟩ := hG7.two
      have hse := Sl.of_blk hM7 (ontoL_len n f).symm (by rw [ontoL_len]; omega)
      go_wp2
      exact bodyPost_ret (v := .tuple #[.agg #[.int .i64 K, .slice rx T.length rcap], .slice (some ⟨w4.heap.size, 0, none⟩) n n, .agg #[.int .i64 0, .int .i64 0]]) (by simp [results, Tryz.results18, go_sem, z0, z1, y0, y1]) rfl ⟨_, _, _, _, _, _, rfl, by rw [← HTE.out]; exact row_sl hrow7 (by rw [size_set, size_set]; have := hb6.size; omega), hse, hB7⟩
theorem quot_sl {f : Nat} {args : Array Value} {w : World} {c i : Int} (h0 : 0 < w.heap.size) (h : Calls Tryz.prog f args w fun x w' => x = .returned (.tuple #[.agg #[.int .i64 0, .slice none 0 0], .slice none 0 0, .agg #[.int .i64 c, .int .i64 i]]) ∧ Below w.heap.size w w') :
    Calls Tryz.prog f args w fun x W' => ∃ r1 r2 r3 s1 s2 s3, x = .returned (.tuple #[.agg #[.int .i64 0, .slice r1 r2 r3], .slice s1 s2 s3, .agg #[.int .i64 c, .int .i64 i]]) ∧ Sl W' (.slice r1 r2 r3) [] ∧ Sl W' (.slice s1 s2 s3) [] ∧ Below w.heap.size w W' := by
  refine h.mono ?_
  rintro x w' ⟨rfl, hb⟩
  have := Nat.lt_of_lt_of_le h0 hb.size
  exact ⟨none, 0, 0, none, 0, 0, rfl, Sl.nil this, Sl.nil this, hb⟩
end Go.Proofs.YtjiapicknkjhmaaGreatDoor

namespace Go.Proofs.YtjiapicknkjhmaaGreatDoor
open Go Go.RowKit Go.Maps

set_option maxRecDepth 100000 in
set_option maxHeartbeats 4000000 in
theorem simple_bad (N : Int) (v : Value) (zs : List Int) (w : World) (hv : Sl w v zs) (hc : (gfault N zs).1 ≠ 0) :
    Calls Tryz.prog 61 #[.agg #[.int .i64 N, v]] w fun x w' => x = .returned (.tuple #[.bool false, .agg #[.int .i64 (gfault N zs).1, .int .i64 (gfault N zs).2]]) ∧ Below w.heap.size w w' := by
  obtain ⟨w0, BG⟩ := Beg.new w N v
  have HCK := hide (opened_bad N v zs w0 (hv.below BG.bel) hc)
  obtain ⟨c0, c1, _, _⟩ := BG.box.two
  obtain ⟨c, i, hci⟩ : ∃ c i, gfault N zs = (c, i) := ⟨_, _, rfl⟩
  rw [hci] at HCK hc ⊢
  simp only at HCK hc ⊢
  clear hci
  have hcb : (c != 0) = true := by simpa using hc
  rw [BG.eq] at c0 c1
  go_enter Tryz.func61, Tryz.ntmps61
  go_wp2_with fail
  rw [← BG.eq]
  clear c0 c1
  refine HCK.out.mono ?_
  rintro x w1 ⟨rfl, hb1⟩
  obtain ⟨w2, hw2⟩ : ∃ w2, w2 = (w1.alloc (.cells #[.int .i64 0, .slice none 0 0, .int .i64 0, .slice none 0 0] 66)).alloc (.cells #[.int .i64 c, .int .i64 i] 28) := ⟨_, rfl⟩
  have hB1 : Below w0.heap.size w0 w2 := by rw [hw2]; exact bcat2 hb1 ((balloc w1 _).alloc (by simp) _)
  have hF1 : Blk w2 (w1.heap.size + 1) 28 [.int .i64 c, .int .i64 i] := by
    rw [hw2]
    have := blk0 (w := w1.alloc (.cells #[.int .i64 0, .slice none 0 0, .int .i64 0, .slice none 0 0] 66)) (T := 28) (.int .i64 c) (.int .i64 i)
    rwa [World.size_alloc] at this
  have hR1 := blk_below BG.res hB1
  have hBw := bcat BG.bel hB1 BG.bel.size
  obtain ⟨y0, y1, fy0, fy1⟩ := hR1.two
  obtain ⟨t0, t1, _, _⟩ := hF1.two
  obtain ⟨hR6, hB6⟩ := put2 hR1 hBw (by omega) c i
  have hB7 := bdrew hB6
  rw [hw2] at y0 y1 fy0 fy1 t0 t1
  go_wp2_with fail
  rw [← hw2] at y0 y1 fy0 fy1 t0 t1 ⊢
  clear hw2
  go_region
  all_goals (
    go_wp2
    obtain ⟨z0, z1, _, _⟩ := hR6.two
    exact bodyPost_ret (v := .tuple #[.bool false, .agg #[.int .i64 c, .int .i64 i]]) (by simp [results, Tryz.results61, go_sem, z0, z1]) rfl ⟨rfl, hB7⟩)
set_option maxRecDepth 100000 in
set_option maxHeartbeats 8000000 in
theorem simple_good (n e : Nat) (v : Value) (zs : List Int) (P : Nat → Nat → Bool) (w : World) (hv : Sl w v zs) (hg : IsGrp n zs e) (hT : Tab w) (hp : ∀ a, a < n → ∀ y, y < n → (P a y = true ↔ Mkd n zs e (cloq n zs e (pset [(a : Int)]) n) y)) :
    Calls Tryz.prog 61 #[.agg #[.int .i64 n, v]] w fun x w' => x = .returned (.tuple #[.bool (smq n e fun a => (lst n (P a)).length), .agg #[.int .i64 0, .int .i64 0]]) ∧ Below w.heap.size w w' := by
  obtain ⟨va, vl, vc, rfl⟩ := hv.isSlice
  have hn := hg.tab.le
  obtain ⟨w0, BG⟩ := Beg.new w n (.slice va vl vc)
  have HCK := hide (opened_good n e (.slice va vl vc) zs w0 (hv.below BG.bel) hg)
  have HCL := hide (fun W u a (h : Below w.heap.size w W) (ha : a < n) (hu : Sl W u [(a : Int)]) => clo_good n e (.slice va vl vc) u zs [(a : Int)] (P a) W (hv.below h) hg hu (hT.below h) (one_fault ha) (hp a ha))
  obtain ⟨L, hL⟩ : ∃ L : Nat → Nat, L = fun a => (lst n (P a)).length := ⟨_, rfl⟩
  have HL := hide (fun a => show (lst n (P a)).length = L a by rw [hL])
  rw [← hL]
  obtain ⟨b, hb⟩ : ∃ b, b = smq n e L := ⟨_, rfl⟩
  rw [← hb]
  have HNO := hide (fun a (ha : a < n) (h1 : ¬ a = e) (h2 : L a < n) => show b = false by
    rw [hb]
    unfold smq
    rw [Bool.and_eq_false_iff]
    right
    rw [List.all_eq_false]
    exact ⟨a, List.mem_range.2 ha, by simp [h1, h2]⟩)
  have HYES := hide (fun (h : ∀ a, a < n → a = e ∨ ¬ L a < n) => show b = decide (1 < n) by
    rw [hb]
    unfold smq
    have : ((List.range n).all fun a => decide (a = e) || !decide (L a < n)) = true := List.all_eq_true.2 fun a ha => by
      rcases h a (List.mem_range.1 ha) with h | h <;> simp [h]
    rw [this, Bool.and_true])
  clear hb hL hp
  have hen := hg.elt
  obtain ⟨c0, c1, _, _⟩ := BG.box.two
  rw [BG.eq] at c0 c1
  go_enter Tryz.func61, Tryz.ntmps61
  go_wp2_with fail
  rw [← BG.eq]
  clear c0 c1
  refine HCK.out.mono ?_
  rintro x w1 ⟨iv9, rfl, hSI, hb1⟩
  obtain ⟨ia, il, ic, rfl⟩ := hSI.sl.isSlice
  obtain ⟨w2, hw2⟩ : ∃ w2, w2 = (w1.alloc (.cells #[.int .i64 n, (.slice va vl vc), .int .i64 e, (.slice ia il ic)] 66)).alloc (.cells #[.int .i64 0, .int .i64 0] 28) := ⟨_, rfl⟩
  have hb2 : Below w1.heap.size w1 w2 := by rw [hw2]; exact (balloc w1 _).alloc (by simp) _
  have hB1 : Below w0.heap.size w0 w2 := bcat2 hb1 hb2
  have hF1 : Blk w2 (w1.heap.size + 1) 28 [.int .i64 0, .int .i64 0] := by
    rw [hw2]
    have := blk0 (w := w1.alloc (.cells #[.int .i64 n, (.slice va vl vc), .int .i64 e, (.slice ia il ic)] 66)) (T := 28) (.int .i64 0) (.int .i64 0)
    rwa [World.size_alloc] at this
  have hH2 : Blk w2 w1.heap.size 66 [.int .i64 n, (.slice va vl vc), .int .i64 e, (.slice ia il ic)] := by
    rw [hw2]; exact (blk4 _ _ _ _).alloc _
  have hBw2 := bcat BG.bel hB1 BG.bel.size
  have hR2 := blk_below BG.res hB1
  have hX2 := blk_below BG.box hB1
  obtain ⟨t0, t1, _, _⟩ := hF1.two
  obtain ⟨g0, g1, _, _⟩ := hX2.two
  rw [hw2] at t0 t1 g0 g1
  go_wp2
  rw [← hw2]
  clear hw2 t0 t1 g0 g1
  have hRl := hR2.lt
  have HH := hide (fun W (h : Below w2.heap.size w2 W) => show W.cell? ⟨w1.heap.size, 2, none⟩ = some (.int .i64 e) from by
    obtain ⟨_, _, _, h2, _, _⟩ := Four.mk' hH2
    exact below_cell h h2)
  go_loopw [20] (fun i wr => ∃ a : Nat, a ≤ n ∧ i = .int .i64 a ∧ (∀ t, t < a → t = e ∨ ¬ L t < n) ∧ Below w2.heap.size w2 wr) (fun i _ => n - (intOf i).toNat)
  case atStart => exact ⟨0, Nat.zero_le _, rfl, fun t ht => by omega, Below.refl _ _⟩
  case round =>
    obtain ⟨a, ha, rfl, hall, hB⟩ := hrel
    have HALL := hide hall
    clear hall
    have hXr := blk_below hX2 hB
    have hRr := blk_below hR2 hB
    have hBr := bcat2 hBw2 hB
    by_cases hlt : a < n
    · have hai : (a : Int) < (n : Int) := by omega
      have hbn := balloc wr (.cells #[.int .i64 a] 3)
      have hun : Sl (wr.alloc (.cells #[.int .i64 a] 3)) (.slice (some ⟨wr.heap.size, 0, none⟩) 1 1) [(a : Int)] := Sl.of_blk (g := wr.heap.size) (zs := [(a : Int)]) (World.alloc_heap_new wr _) rfl (by simp)
      obtain ⟨g0, g1, _, _⟩ := hXr.two
      go_wp2_with fail
      clear g0 g1
      refine (HCL.out _ _ a (bcat2 hBr hbn) hlt hun).mono ?_
      rintro x w4 ⟨r, rfl, hr, hb4⟩
      have hrs := hr.sl
      obtain ⟨ra, rc, _, _, rfl, _, _, _, _⟩ := hrs
      rw [li_len, HL.out]
      have hb5 := bcat2 (bcat2 hbn hb4) (balloc w4 (.cells #[.int .i64 0, .int .i64 0] 28))
      have hF5 := blk0 (w := w4) (T := 28) (.int .i64 0) (.int .i64 0)
      have hX5 := blk_below hXr hb5
      have hR5 := blk_below hRr hb5
      have hB5 := bcat2 hB hb5
      have hBw5 := bcat2 hBr hb5
      have ch := HH.out _ hB5
      obtain ⟨g0, g1, _, _⟩ := hX5.two
      obtain ⟨t0, t1, _, _⟩ := hF5.two
      obtain ⟨y0, y1, fy0, fy1⟩ := hR5.two
      obtain ⟨s0, s1⟩ := hR5.self
      by_cases hae : a = e
      · have hi1 : ((a : Int) != (e : Int)) = false := by simp [hae]
        have hi2 : (a : Int) = (e : Int) := by omega
        have HN := hide (fun t (ht : t < a + 1) => show t = e ∨ ¬ L t < n by
          by_cases e9 : t = a
          · left; omega
          · exact HALL.out t (by omega))
        clear hae
        go_wp2
        go_roundw
        case rel => exact ⟨a + 1, by omega, by go_num, HN.out, hB5⟩
        case measure => simp [intOf]; omega
      · have hi1 : ((a : Int) != (e : Int)) = true := by simp; omega
        have hi2 : ¬ (a : Int) = (e : Int) := by omega
        by_cases hLt : L a < n
        · obtain rfl := HNO.out a hlt hae hLt
          have hli : (L a : Int) < (n : Int) := by omega
          clear hae
          go_wp2
          exact bodyPost_ret (v := .tuple #[.bool false, .agg #[.int .i64 0, .int .i64 0]]) (by simp [results, Tryz.results61, go_sem, y0, y1]) rfl ⟨rfl, hBw5⟩
        · have hli : ¬ (L a : Int) < (n : Int) := by omega
          have HN := hide (fun t (ht : t < a + 1) => show t = e ∨ ¬ L t < n by
            by_cases e9 : t = a
            · right; rw [e9]; exact hLt
            · exact HALL.out t (by omega))
          clear hae hLt
          go_wp2
          go_roundw
          case rel => exact ⟨a + 1, by omega, by go_num, HN.out, hB5⟩
          case measure => simp [intOf]; omega
    · have hai : ¬ (a : Int) < (n : Int) := by omega
      have HBE := hide (HYES.out (fun t ht => HALL.out t (by omega)))
      obtain ⟨g0, g1, _, _⟩ := hXr.two
      obtain ⟨y0, y1, fy0, fy1⟩ := hRr.two
      obtain ⟨s0, s1⟩ := hRr.self
      by_cases h1 : 1 < n
      · have h1i : (1 : Int) < (n : Int) := by omega
        go_wp2
        exact bodyPost_ret (v := .tuple #[.bool true, .agg #[.int .i64 0, .int .i64 0]]) (by simp [results, Tryz.results61, go_sem, y0, y1]) rfl ⟨by rw [HBE.out, decide_eq_true h1], hBr⟩
      · have h1i : ¬ (1 : Int) < (n : Int) := by omega
        go_wp2
        exact bodyPost_ret (v := .tuple #[.bool false, .agg #[.int .i64 0, .int .i64 0]]) (by simp [results, Tryz.results61, go_sem, y0, y1]) rfl ⟨by rw [HBE.out, decide_eq_false h1], hBr⟩
end Go.Proofs.YtjiapicknkjhmaaGreatDoor

namespace Go.Proofs.YtjiapicknkjhmaaGreatDoor
open Go Go.RowKit

/-- A map of things that keeps products. -/
structure IsHom (n : Nat) (zs : List Int) (m : Nat) (ys : List Int) (φ : Nat → Nat) : Prop where
  lt : ∀ a, a < n → φ a < m
  mul : ∀ a b, a < n → b < n → φ (tm n zs a b) = tm m ys (φ a) (φ b)
theorem IsHom.one {n e m d : Nat} {zs ys : List Int} {φ : Nat → Nat} (g : IsGrp n zs e) (h : IsGrp m ys d) (H : IsHom n zs m ys φ) : φ e = d := by
  have h1 := H.mul e e g.elt g.elt
  rw [g.left e g.elt] at h1
  have hl := H.lt e g.elt
  exact grp_cancel h hl hl h.elt (by rw [← h1, h.right _ hl])
section
variable {n e m d k c : Nat} {zs ys xs : List Int} {π ψ : Nat → Nat}
/-- Where two things go to the same, their quotient goes to the one. -/
theorem hom_same_iff (g : IsGrp n zs e) (h : IsGrp m ys d) (H : IsHom n zs m ys π) {a b : Nat} (ha : a < n) (hb : b < n) : π a = π b ↔ π (tm n zs a (iv n zs e b)) = d := by
  obtain ⟨i1, i2, i3, _⟩ := iv_spec g hb
  have h1 := H.mul a (iv n zs e b) ha i1
  have h2 := H.mul b (iv n zs e b) hb i1
  rw [i2, IsHom.one g h H] at h2
  constructor
  · intro hab
    rw [h1, hab, ← h2]
  · intro hd
    have h3 := H.mul _ b (tm_lt g.tab ha i1) hb
    rw [hd, h.left _ (H.lt b hb), g.ass a _ b ha i1 hb, i3, g.right a ha] at h3
    exact h3
/-- A homomorphism onto. -/
structure IsOnto (n : Nat) (zs : List Int) (m : Nat) (ys : List Int) (π : Nat → Nat) : Prop where
  hom : IsHom n zs m ys π
  hits : ∀ y, y < m → ∃ a, a < n ∧ π a = y
end
section
variable {n e : Nat} {zs : List Int} {q : Nat → Bool}
/-- A quotient is an image. -/
theorem quo_onto (g : IsGrp n zs e) (hs : subT n zs e q = true) (hN : nrmq n zs e q = true) :
    IsOnto n zs (fsts n (rgtq n zs (lst n q)) n).length (mkT (fsts n (rgtq n zs (lst n q)) n).length (quoF n zs (rgtq n zs (lst n q)))) (num n (rgtq n zs (lst n q))) := by
  have P := rgt_parts g hs
  refine ⟨⟨fun a ha => (prts_num_lt P ha).1, fun a b ha hb => ?_⟩, fun i hi => ⟨_, fst_lt hi, prts_num_at P hi⟩⟩
  rw [tm_mk (prts_num_lt P ha).1 (prts_num_lt P hb).1]
  exact (quo_hom g hs hN ha hb).symm
/-- Its kernel is the subgroup. -/
theorem quo_ker (g : IsGrp n zs e) (hs : subT n zs e q = true) {a : Nat} (ha : a < n) : num n (rgtq n zs (lst n q)) a = num n (rgtq n zs (lst n q)) e ↔ q a = true := by
  have P := rgt_parts g hs
  rw [eq_comm, prts_num_eq P g.elt ha, rgt_iff g g.elt ha, decide_eq_true_eq, mem_lst, iv_one g, g.right a ha]
  exact ⟨fun h => h.2, fun h => ⟨ha, h⟩⟩
end
/-- A greatest normal subgroup of a table's subgroup. -/
abbrev Mxg (n : Nat) (zs : List Int) (e : Nat) (A B : Nat → Bool) : Prop := Fin.Mxn (List.range n) (tm n zs) e (iv n zs e) A B
section
variable {n e : Nat} {zs : List Int} {q p r : Nat → Bool}
theorem part_up (g : IsGrp n zs e) (hs : subT n zs e q = true) (h : Mxg (lst n q).length (mkT (lst n q).length (parF n zs (lst n q))) (place (lst n q) e) p r) : Mxg n zs e (upt n q p) (upt n q r) where
  sg := subT_iff.1 (upt_sub g hs (subT_iff.2 h.sg))
  sub := fun x hx h1 => by
    obtain ⟨i, hi, h2, rfl⟩ := (upt_iff (List.mem_range.1 hx)).1 h1
    rw [upt_at hi]
    exact h.sub i (List.mem_range.2 hi) h2
  nm := fun x a hx ha h1 h2 => by
    obtain ⟨i, hi, h3, rfl⟩ := (upt_iff (List.mem_range.1 hx)).1 h1
    obtain ⟨j, hj, h4, rfl⟩ := (upt_iff (List.mem_range.1 ha)).1 h2
    have G := part_grp g hs
    rw [← part_cj g hs hi hj, upt_at (List.mem_range.1 (Fin.cj_mem (grp_fg G) (grp_iv G) (List.mem_range.2 hi) (List.mem_range.2 hj)))]
    exact h.nm i j (List.mem_range.2 hi) (List.mem_range.2 hj) h3 h4
  less := by
    obtain ⟨i, hi, h1, h2⟩ := h.less
    have hi := List.mem_range.1 hi
    exact ⟨_, List.mem_range.2 (thing_lt hi), by rw [upt_at hi]; exact h1, by rw [upt_at hi]; exact h2⟩
  top := fun C hC h1 h2 h3 => by
    have G := part_grp g hs
    rcases h.top (fun i => C (thing (lst n q) i)) (subT_iff.1 (down_sub g hs (subT_iff.2 hC))) (fun i hi h4 => by
        have hi := List.mem_range.1 hi
        exact h1 _ (List.mem_range.2 (thing_lt hi)) (by rw [upt_at hi]; exact h4)) (fun i hi h4 => by
        have hi := List.mem_range.1 hi
        have h5 := h2 _ (List.mem_range.2 (thing_lt hi)) h4
        rwa [upt_at hi] at h5) (fun i j hi hj h4 h5 => by
        have hi := List.mem_range.1 hi
        have hj := List.mem_range.1 hj
        show C (thing _ _) = true
        rw [part_cj g hs hi hj]
        exact h3 _ _ (List.mem_range.2 (thing_lt hi)) (List.mem_range.2 (thing_lt hj)) h4 (by rw [upt_at hj]; exact h5)) with h4 | h4
    · refine .inl fun x hx h5 => ?_
      obtain ⟨i, hi, h6, rfl⟩ := (upt_iff (List.mem_range.1 hx)).1 (h2 x hx h5)
      rw [upt_at hi]
      exact h4 i (List.mem_range.2 hi) h5
    · refine .inr fun x hx h5 => ?_
      obtain ⟨i, hi, h6, rfl⟩ := (upt_iff (List.mem_range.1 hx)).1 h5
      exact h4 i (List.mem_range.2 hi) h6
theorem part_down (g : IsGrp n zs e) (hs : subT n zs e q = true) (h : Mxg n zs e (upt n q p) (upt n q r)) : Mxg (lst n q).length (mkT (lst n q).length (parF n zs (lst n q))) (place (lst n q) e) p r where
  sg := by
    have h1 := subT_iff.1 (down_sub g hs (subT_iff.2 h.sg))
    obtain ⟨p1, _⟩ := part_e g hs
    refine ⟨by have := h1.one; rwa [upt_at p1] at this, fun i j hi hj h2 h3 => ?_⟩
    have G := part_grp g hs
    have h4 := h1.mul i j hi hj (by rw [upt_at (List.mem_range.1 hi)]; exact h2) (by rw [upt_at (List.mem_range.1 hj)]; exact h3)
    rwa [upt_at (tm_lt G.tab (List.mem_range.1 hi) (List.mem_range.1 hj))] at h4
  sub := fun i hi h1 => by
    have hi := List.mem_range.1 hi
    have h2 := h.sub _ (List.mem_range.2 (thing_lt hi)) (by rw [upt_at hi]; exact h1)
    rwa [upt_at hi] at h2
  nm := fun i j hi hj h1 h2 => by
    have G := part_grp g hs
    have hm := List.mem_range.1 (Fin.cj_mem (grp_fg G) (grp_iv G) hi hj)
    have hi := List.mem_range.1 hi
    have hj := List.mem_range.1 hj
    have h3 := h.nm _ _ (List.mem_range.2 (thing_lt hi)) (List.mem_range.2 (thing_lt hj)) (by rw [upt_at hi]; exact h1) (by rw [upt_at hj]; exact h2)
    rwa [← part_cj g hs hi hj, upt_at hm] at h3
  less := by
    obtain ⟨x, hx, h1, h2⟩ := h.less
    obtain ⟨i, hi, h3, rfl⟩ := (upt_iff (List.mem_range.1 hx)).1 h1
    rw [upt_at hi] at h2
    exact ⟨i, List.mem_range.2 hi, h3, h2⟩
  top := fun C hC h1 h2 h3 => by
    have G := part_grp g hs
    rcases h.top (upt n q C) (subT_iff.1 (upt_sub g hs (subT_iff.2 hC))) (fun x hx h4 => by
        obtain ⟨i, hi, h5, rfl⟩ := (upt_iff (List.mem_range.1 hx)).1 h4
        rw [upt_at hi]
        exact h1 i (List.mem_range.2 hi) h5) (fun x hx h4 => by
        obtain ⟨i, hi, h5, rfl⟩ := (upt_iff (List.mem_range.1 hx)).1 h4
        rw [upt_at hi]
        exact h2 i (List.mem_range.2 hi) h5) (fun x a hx ha h4 h5 => by
        obtain ⟨i, hi, h6, rfl⟩ := (upt_iff (List.mem_range.1 hx)).1 h4
        obtain ⟨j, hj, h7, rfl⟩ := (upt_iff (List.mem_range.1 ha)).1 h5
        rw [← part_cj g hs hi hj, upt_at (List.mem_range.1 (Fin.cj_mem (grp_fg G) (grp_iv G) (List.mem_range.2 hi) (List.mem_range.2 hj)))]
        exact h3 i j (List.mem_range.2 hi) (List.mem_range.2 hj) h6 h7) with h4 | h4
    · refine .inl fun i hi h5 => ?_
      have hi := List.mem_range.1 hi
      have h6 := h4 _ (List.mem_range.2 (thing_lt hi)) (by rw [upt_at hi]; exact h5)
      rwa [upt_at hi] at h6
    · refine .inr fun i hi h5 => ?_
      have hi := List.mem_range.1 hi
      have h6 := h4 _ (List.mem_range.2 (thing_lt hi)) (by rw [upt_at hi]; exact h5)
      rwa [upt_at hi] at h6
end
section
variable {n e m d : Nat} {zs ys : List Int} {φ : Nat → Nat} {p r : Nat → Bool}
theorem onto_cj (g : IsGrp n zs e) (h : IsGrp m ys d) (H : IsHom n zs m ys φ) {x a : Nat} (hx : x < n) (ha : a < n) : φ (Fin.cj (tm n zs) (iv n zs e) x a) = Fin.cj (tm m ys) (iv m ys d) (φ x) (φ a) := by
  have hc := List.mem_range.1 (Fin.cj_mem (grp_fg g) (grp_iv g) (List.mem_range.2 hx) (List.mem_range.2 ha))
  refine (Fin.cj_unique (grp_fg h) (grp_iv h) (List.mem_range.2 (H.lt x hx)) (List.mem_range.2 (H.lt _ hc)) (List.mem_range.2 (H.lt a ha)) ?_).symm
  rw [← H.mul a _ ha hc, Fin.cj_eq (grp_fg g) (grp_iv g) (List.mem_range.2 hx) (List.mem_range.2 ha), H.mul x a hx ha]
theorem onto_up (g : IsGrp n zs e) (h : IsGrp m ys d) (O : IsOnto n zs m ys φ) (M : Mxg m ys d p r) : Mxg n zs e (fun x => p (φ x)) (fun x => r (φ x)) where
  sg := ⟨by show r (φ e) = true; rw [IsHom.one g h O.hom]; exact M.sg.one, fun a b ha hb h1 h2 => by
    have ha := List.mem_range.1 ha
    have hb := List.mem_range.1 hb
    show r (φ _) = true
    rw [O.hom.mul a b ha hb]
    exact M.sg.mul _ _ (List.mem_range.2 (O.hom.lt a ha)) (List.mem_range.2 (O.hom.lt b hb)) h1 h2⟩
  sub := fun x hx h1 => M.sub _ (List.mem_range.2 (O.hom.lt x (List.mem_range.1 hx))) h1
  nm := fun x a hx ha h1 h2 => by
    have ha := List.mem_range.1 ha
    have hx := List.mem_range.1 hx
    show r (φ _) = true
    rw [onto_cj g h O.hom hx ha]
    exact M.nm _ _ (List.mem_range.2 (O.hom.lt x hx)) (List.mem_range.2 (O.hom.lt a ha)) h1 h2
  less := by
    obtain ⟨y, hy, h1, h2⟩ := M.less
    obtain ⟨x, hx, rfl⟩ := O.hits y (List.mem_range.1 hy)
    exact ⟨x, List.mem_range.2 hx, h1, h2⟩
  top := fun C hC h1 h2 h3 => by
    obtain ⟨D, hD⟩ := Fin.test_of (fun y => ∃ x, x < n ∧ C x = true ∧ φ x = y)
    rcases M.top D ⟨(hD d).2 ⟨e, g.elt, hC.one, IsHom.one g h O.hom⟩, fun a b _ _ h4 h5 => by
        obtain ⟨x, hx, h6, rfl⟩ := (hD a).1 h4
        obtain ⟨y, hy, h7, rfl⟩ := (hD b).1 h5
        exact (hD _).2 ⟨_, tm_lt g.tab hx hy, hC.mul x y (List.mem_range.2 hx) (List.mem_range.2 hy) h6 h7, O.hom.mul x y hx hy⟩⟩ (fun y hy h4 => by
        obtain ⟨x, hx, rfl⟩ := O.hits y (List.mem_range.1 hy)
        exact (hD _).2 ⟨x, hx, h1 x (List.mem_range.2 hx) h4, rfl⟩) (fun y _ h4 => by
        obtain ⟨x, hx, h6, rfl⟩ := (hD y).1 h4
        exact h2 x (List.mem_range.2 hx) h6) (fun y a _ ha h4 h5 => by
        obtain ⟨x, hx, h6, rfl⟩ := (hD y).1 h4
        obtain ⟨b, hb, rfl⟩ := O.hits a (List.mem_range.1 ha)
        have hc := List.mem_range.1 (Fin.cj_mem (grp_fg g) (grp_iv g) (List.mem_range.2 hx) (List.mem_range.2 hb))
        exact (hD _).2 ⟨_, hc, h3 x b (List.mem_range.2 hx) (List.mem_range.2 hb) h6 h5, onto_cj g h O.hom hx hb⟩) with h4 | h4
    · exact .inl fun x hx h5 => h4 _ (List.mem_range.2 (O.hom.lt x (List.mem_range.1 hx))) ((hD _).2 ⟨x, List.mem_range.1 hx, h5, rfl⟩)
    · refine .inr fun x hx h5 => ?_
      have hx' := List.mem_range.1 hx
      obtain ⟨c, hc, h6, h7⟩ := (hD _).1 (h4 _ (List.mem_range.2 (O.hom.lt x hx')) h5)
      obtain ⟨i1, i2, i3, _⟩ := iv_spec g hc
      have hk := tm_lt g.tab hx' i1
      have h8 := (hom_same_iff g h O.hom hx' hc).1 h7.symm
      have h9 := h1 _ (List.mem_range.2 hk) (by show r (φ _) = true; rw [h8]; exact M.sg.one)
      have h10 := hC.mul _ c (List.mem_range.2 hk) (List.mem_range.2 hc) h9 h6
      have h11 : tm n zs (tm n zs x (iv n zs e c)) c = x := by rw [g.ass _ _ _ hx' i1 hc, i3, g.right x hx']
      rw [h11] at h10
      exact h10
theorem onto_down (g : IsGrp n zs e) (h : IsGrp m ys d) (O : IsOnto n zs m ys φ) (M : Mxg n zs e (fun x => p (φ x)) (fun x => r (φ x))) : Mxg m ys d p r where
  sg := ⟨by have h1 := M.sg.one; simp only [IsHom.one g h O.hom] at h1; exact h1, fun a b ha hb h1 h2 => by
    obtain ⟨x, hx, rfl⟩ := O.hits a (List.mem_range.1 ha)
    obtain ⟨y, hy, rfl⟩ := O.hits b (List.mem_range.1 hb)
    show r _ = true
    rw [← O.hom.mul x y hx hy]
    exact M.sg.mul x y (List.mem_range.2 hx) (List.mem_range.2 hy) h1 h2⟩
  sub := fun y hy h1 => by
    obtain ⟨x, hx, rfl⟩ := O.hits y (List.mem_range.1 hy)
    exact M.sub x (List.mem_range.2 hx) h1
  nm := fun y a hy ha h1 h2 => by
    obtain ⟨x, hx, rfl⟩ := O.hits y (List.mem_range.1 hy)
    obtain ⟨b, hb, rfl⟩ := O.hits a (List.mem_range.1 ha)
    rw [← onto_cj g h O.hom hx hb]
    exact M.nm x b (List.mem_range.2 hx) (List.mem_range.2 hb) h1 h2
  less := by
    obtain ⟨x, hx, h1, h2⟩ := M.less
    exact ⟨φ x, List.mem_range.2 (O.hom.lt x (List.mem_range.1 hx)), h1, h2⟩
  top := fun C hC h1 h2 h3 => by
    rcases M.top (fun x => C (φ x)) ⟨by show C (φ e) = true; rw [IsHom.one g h O.hom]; exact hC.one, fun a b ha hb h4 h5 => by
        have ha := List.mem_range.1 ha
        have hb := List.mem_range.1 hb
        show C (φ _) = true
        rw [O.hom.mul a b ha hb]
        exact hC.mul _ _ (List.mem_range.2 (O.hom.lt a ha)) (List.mem_range.2 (O.hom.lt b hb)) h4 h5⟩
      (fun x hx h4 => h1 _ (List.mem_range.2 (O.hom.lt x (List.mem_range.1 hx))) h4) (fun x hx h4 => h2 _ (List.mem_range.2 (O.hom.lt x (List.mem_range.1 hx))) h4) (fun x a hx ha h4 h5 => by
        have ha := List.mem_range.1 ha
        have hx := List.mem_range.1 hx
        show C (φ _) = true
        rw [onto_cj g h O.hom hx ha]
        exact h3 _ _ (List.mem_range.2 (O.hom.lt x hx)) (List.mem_range.2 (O.hom.lt a ha)) h4 h5) with h4 | h4
    · refine .inl fun y hy h5 => ?_
      obtain ⟨x, hx, rfl⟩ := O.hits y (List.mem_range.1 hy)
      exact h4 x (List.mem_range.2 hx) h5
    · refine .inr fun y hy h5 => ?_
      obtain ⟨x, hx, rfl⟩ := O.hits y (List.mem_range.1 hy)
      exact h4 x (List.mem_range.2 hx) h5
/-- Simple: each thing but the one makes, with what it is conjugated to, all. -/
theorem simple_iff (h : IsGrp m ys d) {P : Nat → Nat → Bool} (hP : ∀ a, a < m → ∀ y, y < m → (P a y = true ↔ Mkd m ys d (cloq m ys d (pset [(a : Int)]) m) y)) :
    smq m d (fun a => (lst m (P a)).length) = true ↔ Mxg m ys d (fun _ => true) (fun a => decide (a = d)) := by
  have F := grp_fg h
  have V := grp_iv h
  have hc : ∀ a, a < m → ∀ y, cloq m ys d (pset [(a : Int)]) m y = true ↔ ∃ b, b < m ∧ Fin.cj (tm m ys) (iv m ys d) a b = y := fun a ha y => by
    unfold cloq
    simp only [List.any_eq_true, List.mem_range, cjq_iff]
    constructor
    · rintro ⟨b, hb, x, hx, h1, rfl⟩
      have h1 : x = a := by
        unfold pset at h1
        rw [decide_eq_true_eq, List.mem_singleton] at h1
        omega
      rw [h1]
      exact ⟨b, hb, rfl⟩
    · rintro ⟨b, hb, rfl⟩
      exact ⟨b, hb, a, ha, by unfold pset; simp, rfl⟩
  unfold smq
  rw [Bool.and_eq_true, decide_eq_true_eq, List.all_eq_true]
  constructor
  · rintro ⟨h1, h2⟩
    refine ⟨Fin.one_sgb F, fun _ _ _ => rfl, fun x a _ ha h3 _ => ?_, ?_, fun C hC _ _ h3 => ?_⟩
    · rw [decide_eq_true_eq] at h3
      rw [h3, Fin.cj_one F V ha]
      simp
    · rcases Nat.lt_or_ge 0 d with h3 | h3
      · exact ⟨0, List.mem_range.2 (by omega), rfl, by simp; omega⟩
      · exact ⟨1, List.mem_range.2 h1, rfl, by simp; omega⟩
    · rcases Classical.em (Fin.In (List.range m) C (fun a => decide (a = d))) with h4 | h4
      · exact .inl h4
      · refine .inr ?_
        obtain ⟨a, ha, ha1, ha2⟩ : ∃ a, a ∈ List.range m ∧ C a = true ∧ ¬ a = d := Classical.byContradiction fun h5 => h4 fun y hy hC => by
          rw [decide_eq_true_eq]
          exact Classical.byContradiction fun h6 => h5 ⟨y, hy, hC, h6⟩
        have h5 := h2 a ha
        have ha' := List.mem_range.1 ha
        have h6 : (lst m (P a)).length = m := by
          have := lst_len m (P a)
          simp [ha2] at h5
          omega
        intro y hy _
        have hy' := List.mem_range.1 hy
        have h7 : P a y = true := by
          have h8 : y ∈ lst m (P a) := by
            have h9 : lst m (P a) = List.range m := List.Sublist.eq_of_length List.filter_sublist (by rw [List.length_range]; exact h6)
            rw [h9]; exact hy
          exact (mem_lst.1 h8).2
        refine Fin.Gen.least hC (fun z _ h8 => ?_) ((hP a ha' y hy').1 h7)
        obtain ⟨b, hb, rfl⟩ := (hc a ha' z).1 h8
        exact h3 a b ha (List.mem_range.2 hb) ha1 rfl
  · intro M
    obtain ⟨x, hx, _, hx2⟩ := M.less
    have hx := List.mem_range.1 hx
    have hx2 : ¬ x = d := by simpa using hx2
    refine ⟨by have := h.elt; omega, fun a ha => ?_⟩
    rw [Bool.or_eq_true]
    by_cases had : a = d
    · exact .inl (decide_eq_true had)
    · refine .inr ?_
      have ha' := List.mem_range.1 ha
      have hbase : P a a = true := (hP a ha' a ha').2 (Fin.Gen.base ha ((hc a ha' a).2 ⟨d, h.elt, Fin.cj_id F V ha⟩))
      have hPn : Fin.Nb (List.range m) (tm m ys) (iv m ys d) (P a) (fun _ => true) := fun z b hz hb h3 _ => by
        have hm := Fin.cj_mem F V hz hb
        refine (hP a ha' _ (List.mem_range.1 hm)).2 ?_
        refine Fin.gen_nm F V (X := fun y => cloq m ys d (pset [(a : Int)]) m y = true) (fun y c hy hc' h4 => ?_) z b hz hb ((hP a ha' z (List.mem_range.1 hz)).1 h3)
        obtain ⟨b2, hb2, rfl⟩ := (hc a ha' y).1 h4
        exact (hc a ha' _).2 ⟨_, tm_lt h.tab hb2 (List.mem_range.1 hc'), by rw [Fin.cj_cj F V ha (List.mem_range.2 hb2) hc']⟩
      rcases M.top (P a) (made_sg h (hP a ha')) (fun z _ h3 => by
          rw [decide_eq_true_eq] at h3
          rw [h3]
          exact (made_sg h (hP a ha')).one) (fun _ _ _ => rfl) hPn with h3 | h3
      · have := h3 a ha hbase
        rw [decide_eq_true_eq] at this
        exact absurd this had
      · have h4 : (lst m (P a)).length = m := by
          have : lst m (P a) = List.range m := List.filter_eq_self.2 fun y hy => h3 y hy rfl
          rw [this, List.length_range]
        simp [h4]
end
end Go.Proofs.YtjiapicknkjhmaaGreatDoor

namespace Go.Proofs.YtjiapicknkjhmaaGreatDoor
variable {n e : Nat} {zs : List Int} {s : Nat → Bool}

theorem last_of {P : Nat → Prop} (h0 : P 0) : ∀ K, ¬ P K → ∃ i, i < K ∧ P i ∧ ¬ P (i + 1)
  | 0, h => absurd h0 h
  | K + 1, h => by
    by_cases hK : P K
    · exact ⟨K, by omega, hK, h⟩
    · obtain ⟨i, h1, h2, h3⟩ := last_of h0 K hK
      exact ⟨i, by omega, h2, h3⟩
theorem one_only (g : IsGrp n zs e) {q : Nat → Bool} (he : q e = true) (h1 : (lst n q).length = 1) {x : Nat} (hx : x < n) (hq : q x = true) : x = e := by
  obtain ⟨d, hd⟩ := List.length_eq_one_iff.1 h1
  have m1 : e ∈ lst n q := mem_lst.2 ⟨g.elt, he⟩
  have m2 : x ∈ lst n q := mem_lst.2 ⟨hx, hq⟩
  rw [hd, List.mem_singleton] at m1 m2
  rw [m1, m2]
theorem two_of (g : IsGrp n zs e) {q : Nat → Bool} (he : q e = true) (h1 : (lst n q).length ≠ 1) : ∃ x, x < n ∧ x ≠ e ∧ q x = true := by
  refine Classical.byContradiction fun h => h1 ?_
  have h2 : lst n q = lst n (fun a => decide (a = e)) := lst_congr fun x hx => by
    rw [Bool.eq_iff_iff, decide_eq_true_eq]
    exact ⟨fun h3 => Classical.byContradiction fun h4 => h ⟨x, hx, h4, h3⟩, fun h3 => by rw [h3]; exact he⟩
  rw [h2, one_lst g.elt]
  rfl
theorem more_of (g : IsGrp n zs e) {q : Nat → Bool} (he : q e = true) {x : Nat} (hx : x < n) (hne : x ≠ e) (hq : q x = true) : 1 < (lst n q).length := by
  have h1 := List.length_pos_of_mem (mem_lst.2 ⟨g.elt, he⟩)
  refine Classical.byContradiction fun h => hne (one_only g he (by omega) hx hq)
theorem cm_flip (g : IsGrp n zs e) {a b : Nat} (ha : a < n) (hb : b < n) : tm n zs (Fin.cm (tm n zs) (iv n zs e) a b) (Fin.cm (tm n zs) (iv n zs e) b a) = e := by
  have F := grp_fg g
  have V := grp_iv g
  have ha' := List.mem_range.2 ha
  have hb' := List.mem_range.2 hb
  have c1 := Fin.cm_mem F V ha' hb'
  have c2 := Fin.cm_mem F V hb' ha'
  have hba := F.cl _ _ hb' ha'
  refine F.can hba (F.cl _ _ c1 c2) F.one ?_
  rw [← F.ass _ _ _ hba c1 c2, Fin.cm_eq F V ha' hb', Fin.cm_eq F V hb' ha', F.right _ hba]
theorem cj_cm (g : IsGrp n zs e) {a b : Nat} (ha : a < n) (hb : b < n) : Fin.cj (tm n zs) (iv n zs e) a b = tm n zs a (Fin.cm (tm n zs) (iv n zs e) a b) := by
  have F := grp_fg g
  have V := grp_iv g
  have ha' := List.mem_range.2 ha
  have hcj := Fin.cj_mem F V ha' (List.mem_range.2 hb)
  rw [cm_as g ha hb, ← F.ass _ _ _ ha' (V a ha').1 hcj, (V a ha').2.1, F.left _ hcj]
/-- The lower series. -/
noncomputable abbrev lo (n : Nat) (zs : List Int) (e i : Nat) : Nat → Bool := itr (fun q => cmb n zs e q fun _ => true) (fun _ => true) i
theorem lo_up (g : IsGrp n zs e) {i a b : Nat} (ha : a < n) (hb : b < n) (h : lo n zs e i a = true) : lo n zs e (i + 1) (Fin.cm (tm n zs) (iv n zs e) a b) = true := cmb_base g ha hb h rfl
theorem nil_grows (g : IsGrp n zs e) {K : Nat} (hin : ∀ i, i ≤ K → Nsg n zs e (lo n zs e i)) (hK : (lst n (lo n zs e K)).length = 1) (hs : subT n zs e s = true) (hno : (lst n s).length ≠ n) : (lst n s).length < (lst n (norq n zs e s)).length := by
  have F := grp_fg g
  have V := grp_iv g
  have S := subT_iff.1 hs
  have h0 : ∃ x, x < n ∧ lo n zs e 0 x = true ∧ ¬ s x = true := Classical.byContradiction fun h => hno (by
    have h1 : lst n s = lst n (fun _ => true) := lst_congr fun x hx => by
      rw [Bool.eq_iff_iff]
      exact ⟨fun _ => rfl, fun _ => Classical.byContradiction fun h2 => h ⟨x, hx, rfl, h2⟩⟩
    rw [h1]
    unfold lst
    rw [List.filter_eq_self.2 (fun _ _ => rfl), List.length_range])
  obtain ⟨i, hi, ⟨x, hx, h1, h2⟩, h3⟩ := last_of (P := fun i => ∃ x, x < n ∧ lo n zs e i x = true ∧ ¬ s x = true) h0 K (by
    rintro ⟨x, hx, h1, h2⟩
    rw [one_only g (hin K (Nat.le_refl _)).sg.one hK hx h1] at h2
    exact h2 S.one)
  have hin1 : ∀ y, y < n → lo n zs e (i + 1) y = true → s y = true := fun y hy h4 => Classical.byContradiction fun h5 => h3 ⟨y, hy, h4, h5⟩
  have key : ∀ z, z < n → lo n zs e i z = true → ∀ y, y ∈ List.range n → s y = true → s (Fin.cj (tm n zs) (iv n zs e) y z) = true := fun z hz hl y hy hsy => by
    have hyl := List.mem_range.1 hy
    have c1 := cm_lt g hz hyl
    have c2 := cm_lt g hyl hz
    have h5 := hin1 _ c1 (lo_up g hz hyl hl)
    have h6 : s (Fin.cm (tm n zs) (iv n zs e) y z) = true := S.inv F (List.mem_range.2 c1) (List.mem_range.2 c2) (cm_flip g hz hyl) h5
    rw [cj_cm g hyl hz]
    exact S.mul _ _ hy (List.mem_range.2 c2) hsy h6
  have hx' := List.mem_range.2 hx
  have hL := (hin i (by omega)).sg
  have hxi := hL.inv F hx' (V x hx').1 (V x hx').2.1 h1
  refine (lst_less (fun y hy h4 => (nor_iff y).2 (Fin.nor_sub F V S (List.mem_range.2 hy) h4))).2 ⟨x, hx, (nor_iff x).2 (Fin.nor_of F V hx' (key x hx h1) (key _ (List.mem_range.1 (V x hx').1) hxi)), h2⟩
theorem nil_meets (g : IsGrp n zs e) {K : Nat} {c : Nat → Bool} (hin : ∀ i, i ≤ K → Nsg n zs e (lo n zs e i)) (hK : (lst n (lo n zs e K)).length = 1) (hc : Nsg n zs e c) (hno : (lst n c).length ≠ 1) : 1 < (lst n (fun a => c a && cenq n zs (fun _ => true) a)).length := by
  have F := grp_fg g
  have V := grp_iv g
  obtain ⟨x0, hx0, hne0, hc0⟩ := two_of g hc.sg.one hno
  obtain ⟨i, hi, ⟨x, hx, hne, h1, h2⟩, h3⟩ := last_of (P := fun i => ∃ x, x < n ∧ x ≠ e ∧ c x = true ∧ lo n zs e i x = true) ⟨x0, hx0, hne0, hc0, rfl⟩ K (by
    rintro ⟨x, hx, h1, h2, h3⟩
    exact h1 (one_only g (hin K (Nat.le_refl _)).sg.one hK hx h3))
  have hcen : ∀ x, x < n → (∀ y, y < n → tm n zs x y = tm n zs y x) → cenq n zs (fun _ => true) x = true := fun x _ h => by
    unfold cenq
    rw [List.all_eq_true]
    exact fun y hy => decide_eq_true (h y (mem_lst.1 hy).1)
  refine more_of g ?_ hx hne ?_
  · rw [Bool.and_eq_true]
    exact ⟨hc.sg.one, hcen e g.elt fun y hy => by rw [F.left y (List.mem_range.2 hy), F.right y (List.mem_range.2 hy)]⟩
  · rw [Bool.and_eq_true]
    refine ⟨h1, hcen x hx fun y hy => (Fin.cm_one F V (List.mem_range.2 hx) (List.mem_range.2 hy)).1 ?_⟩
    exact Classical.byContradiction fun h4 => h3 ⟨_, cm_lt g hx hy, h4, hc.cm_in g hx hy h1, lo_up g hx hy h2⟩
theorem clo_nsg (g : IsGrp n zs e) {q p : Nat → Bool} (hp : ∀ a, a < n → (p a = true ↔ Mkd n zs e (cloq n zs e q n) a)) : Nsg n zs e p := by
  have F := grp_fg g
  have V := grp_iv g
  refine ⟨made_sg g hp, fun x a hx ha h => ?_⟩
  have hm := Fin.cj_mem F V hx ha
  exact (hp _ (List.mem_range.1 hm)).2 ((mkd_clo _).2 (Fin.clos_nm F V x a hx ha ((mkd_clo _).1 ((hp x (List.mem_range.1 hx)).1 h))))
end Go.Proofs.YtjiapicknkjhmaaGreatDoor
