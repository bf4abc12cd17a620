/- Nilpotent just where each of Sylow's subgroups is normal: what the law SeriesNilpotent asks. No condition. The law SeriesNilpotent: at every table it returns true. Condition: the library's table of places lies as its text lays it. -/
import Derived.Test.YtolbpjjjoafkkaaDoorZ9
namespace Go.Proofs.YtolbpjjjoafkkaaDoor
variable {n e p : Nat} {zs : List Int} {s : Nat → Bool}

theorem syl_apart (g : IsGrp n zs e) {q k l : Nat} (hp : 2 ≤ p ∧ ∀ d, d ∣ p → d = 1 ∨ d = p) (hq : 2 ≤ q ∧ ∀ d, d ∣ q → d = 1 ∨ d = q) (hpq : p ≠ q) {t : Nat → Bool} (S : Fin.Sg (List.range n) (tm n zs) e (fun a => s a = true)) (T : Fin.Sg (List.range n) (tm n zs) e (fun a => t a = true)) (hs : (lst n s).length = p ^ k) (ht : (lst n t).length = q ^ l) {y : Nat} (hy : y < n) (h1 : s y = true) (h2 : t y = true) : y = e := by
  have F := grp_fg g
  have o1 := (ord_iff g hy _).1 (Fin.po_len (Fin.sg_fg F S) (List.mem_filter.2 ⟨List.mem_range.2 hy, h1⟩))
  have o2 := (ord_iff g hy _).1 (Fin.po_len (Fin.sg_fg F T) (List.mem_filter.2 ⟨List.mem_range.2 hy, h2⟩))
  have o1 : ordN n zs e y ∣ p ^ k := by rw [← hs]; exact o1
  have o2 : ordN n zs e y ∣ q ^ l := by rw [← ht]; exact o2
  have hco : Nat.Coprime p q := by
    rcases hq.2 _ (Nat.gcd_dvd_right p q) with h | h
    · exact h
    · have h3 : q ∣ p := h ▸ Nat.gcd_dvd_left p q
      rcases hp.2 q h3 with h4 | h4 <;> omega
  have h5 : ordN n zs e y ∣ 1 := by
    have := Nat.dvd_gcd o1 o2
    rwa [Nat.Coprime.pow k l hco] at this
  have h6 := (ord_iff g hy 1).2 h5
  have h7 : Fin.po (tm n zs) e y 1 = y := g.left y hy
  rw [h7] at h6
  exact h6
theorem one_nil (g : IsGrp n zs e) {KU : Nat} (eu : bs (up n zs e (KU + 1)) n = bs (up n zs e KU) n) (h : ∀ q : Nat, primeB q = true → q ∣ n → One n zs e q) : (lst n (up n zs e KU)).length = n := by
  have F := grp_fg g
  have V := grp_iv g
  have hU := up_nsg g KU
  refine all_len.2 ?_
  by_cases hall : ∀ q : Nat, primeB q = true → q ∣ n → ∃ s, Grown n zs e q s ∧ (∀ a, a < n → bs (cjq n zs e s a) n = bs s n) ∧ ∀ x, x < n → s x = true → up n zs e KU x = true
  · exact all_of_syl g (subT_iff.2 hU.sg) hall
  · exfalso
    obtain ⟨p, hpr, hpn, hno⟩ : ∃ p : Nat, primeB p = true ∧ p ∣ n ∧ ¬ ∃ s, Grown n zs e p s ∧ (∀ a, a < n → bs (cjq n zs e s a) n = bs s n) ∧ ∀ x, x < n → s x = true → up n zs e KU x = true := by
      refine Classical.byContradiction fun h1 => hall fun q h2 h3 => Classical.byContradiction fun h4 => h1 ⟨q, h2, h3, h4⟩
    obtain ⟨s, hG, hn⟩ := h p hpr hpn
    have hs := nsg_of g hG.sub hn
    have hx0 : ∃ x, x < n ∧ s x = true ∧ ¬ up n zs e KU x = true := Classical.byContradiction fun h1 => hno ⟨s, hG, hn, fun x hx h2 => Classical.byContradiction fun h3 => h1 ⟨x, hx, h2, h3⟩⟩
    obtain ⟨x, hx, hsx, hux, hcx⟩ := coset_fix g hpr hG hs hU hx0
    have hD : subT n zs e (fun b => up n zs e KU (Fin.cm (tm n zs) (iv n zs e) x b)) = true := subT_iff.2 (cmd_sg g hU hx)
    have hall2 := all_of_syl g hD (fun q hq hqn => by
      by_cases hqp : q = p
      · subst hqp
        exact ⟨s, hG, hn, fun b hb h1 => hcx b hb h1⟩
      · obtain ⟨t, hGt, hnt⟩ := h q hq hqn
        have ht := nsg_of g hGt.sub hnt
        refine ⟨t, hGt, hnt, fun b hb h1 => ?_⟩
        obtain ⟨k, hk⟩ := hG.pow
        obtain ⟨l, hl⟩ := hGt.pow
        have c1 := cm_lt g hx hb
        have c2 := cm_lt g hb hx
        have i1 : s (Fin.cm (tm n zs) (iv n zs e) x b) = true := hs.cm_in g hx hb hsx
        have i2 : t (Fin.cm (tm n zs) (iv n zs e) x b) = true := ht.sg.inv F (List.mem_range.2 c2) (List.mem_range.2 c1) (cm_flip g hb hx) (ht.cm_in g hb hx h1)
        show up n zs e KU (Fin.cm (tm n zs) (iv n zs e) x b) = true
        rw [syl_apart g (prime_of hpr) (prime_of hq) (fun h9 => hqp h9.symm) hs.sg ht.sg hk hl c1 i1 i2]
        exact hU.sg.one)
    have h5 : up n zs e (KU + 1) x = true := upq_iff.2 fun b hb => hall2 b hb
    rw [bs_inj eu x hx] at h5
    exact hux h5
theorem SylA.alone {A : List Nat} {ms : List (List Int)} (HA : SylA n zs e p s A ms) (g : IsGrp n zs e) (hpr : primeB p = true) : ms.length = 1 ↔ One n zs e p := by
  have F := grp_fg g
  have key : ms.length = 1 ↔ ∀ a, a < n → bs (cjq n zs e s a) n = bs s n := by
    obtain ⟨c, hc, hce⟩ := List.mem_map.1 (HA.all e g.elt)
    rw [HA.len]
    have h1 := alone_iff (f := fun a => bs (cjq n zs e s a) n) HA.lt HA.nd HA.all hc
    rw [← h1]
    have hce : bs (cjq n zs e s c) n = bs (cjq n zs e s e) n := hce
    show (∀ a, a < n → bs (cjq n zs e s a) n = bs (cjq n zs e s c) n) ↔ _
    rw [hce, cjq_e g]
  constructor
  · exact fun h => ⟨s, HA.gr, key.1 h⟩
  · rintro ⟨t, hGt, hnt⟩
    refine key.2 ?_
    obtain ⟨c, a, hc, ha, hac, hin⟩ := syl_in g hpr hGt (X := [bs t n]) (by simp) (one_hX g hnt) HA.gr.sub HA.gr.pow
    have hin2 : ∀ x, x < n → s x = true → t x = true := fun x hx h1 => by
      rw [← bs_inj (hnt a ha) x hx]
      exact hin x hx h1
    obtain ⟨v, h1, h2⟩ := one_part g hpr hGt hnt
    obtain ⟨u, h3, h4⟩ := syl_len g hpr HA.gr HA.nd HA.hX
    obtain ⟨k, hk⟩ := HA.gr.pow
    obtain ⟨l, hl⟩ := hGt.pow
    rw [hl] at h1
    rw [hk] at h3
    have h5 := pp_only (prime_of hpr) h2 h4 (h3.symm.trans h1)
    have h6 : bs s n = bs t n := bs_ext fun x hx => by
      rw [Bool.eq_iff_iff]
      refine ⟨hin2 x hx, fun h7 => Classical.byContradiction fun h8 => ?_⟩
      have h9 := (lst_less hin2).2 ⟨x, hx, h7, h8⟩
      rw [hk, hl, h5] at h9
      omega
    have h7 : lst n s = lst n t := lst_congr (bs_inj h6)
    intro b hb
    have h8 := hnt b hb
    rw [h6]
    unfold cjq at h8 ⊢
    rw [h7]
    exact h8
theorem SylA.single {A : List Nat} {ms : List (List Int)} (HA : SylA n zs e p s A ms) (g : IsGrp n zs e) (hpr : primeB p = true) (h : ∀ q : Nat, primeB q = true → q ∣ n → q = p) : One n zs e p := by
  have hp := prime_of hpr
  have hn := g.tab.le
  have hpos := Fin.Fg.pos (grp_fg g)
  rw [List.length_range] at hpos
  refine (HA.alone g hpr).1 ?_
  obtain ⟨u, b, h1, h2⟩ := strip hp.1 n hpos
  have hu : u = 1 := by
    match u, h1, h2 with
    | 0, h1, _ => simp at h1; omega
    | 1, _, _ => rfl
    | u + 2, h1, h2 =>
      exfalso
      obtain ⟨q, hq, hqu⟩ := Fin.pr_exists (n := u + 2) (by omega)
      have hqn : q ∣ n := Nat.dvd_trans hqu ⟨_, h1⟩
      have hq60 := Nat.le_of_dvd hpos hqn
      have := h q (primeB_of hq (by omega)) hqn
      rw [this] at hqu
      exact h2 hqu
  rw [hu, Nat.one_mul] at h1
  obtain ⟨v, h3, _⟩ := syl_len g hpr HA.gr HA.nd HA.hX
  have hmod := syl_mod g hpr HA.gr HA.nd HA.hX
  rw [List.length_map] at h3 hmod
  rw [HA.len]
  obtain ⟨j, hj⟩ := dvd_pw hp b A.length ⟨v * (lst n s).length, by rw [← h1, ← Nat.mul_assoc]; exact h3⟩
  match j, hj with
  | 0, hj => simpa using hj
  | j + 1, hj =>
    rw [hj, Nat.pow_succ, Nat.mul_mod_left] at hmod
    omega
/-- The primes below P that divide n. -/
def pds (n P : Nat) : List Nat := (List.range P).filter fun q => primeB q && decide (n % q = 0)
theorem pds_up (n P : Nat) : (pds n (P + 1)).length = (pds n P).length + (if primeB P = true ∧ n % P = 0 then 1 else 0) := by
  unfold pds
  rw [List.range_succ, List.filter_append, List.length_append]
  by_cases h : primeB P = true ∧ n % P = 0
  · simp [h.1, h.2]
  · rw [if_neg h, Nat.add_zero]
    have : List.filter (fun q : Nat => primeB q && decide (n % q = 0)) [P] = [] := by
      rw [List.filter_cons, if_neg]
      · rfl
      · simpa using h
    rw [this]
    rfl
theorem pds_le (n P : Nat) : (pds n P).length ≤ P := Nat.le_trans (List.length_filter_le _ _) (by simp)
theorem nil_all (g : IsGrp n zs e) {KL KU KS : Nat} {I1 I2 : (Nat → Bool) → Prop} {M1 M2 : (Nat → Bool) → Nat} (hl : Stp n (fun q => cmb n zs e q fun _ => true) I1 M1 (fun _ => true) KL) (el : bs (lo n zs e (KL + 1)) n = bs (lo n zs e KL) n)
    (hu : Stp n (upq n zs e) I2 M2 (fun a => decide (a = e)) KU) (eu : bs (up n zs e (KU + 1)) n = bs (up n zs e KU) n) (es : bs (dr n zs e (KS + 1)) n = bs (dr n zs e KS) n)
    {bN bS al : Bool} (hbN : bN = true ↔ (lst n (lo n zs e KL)).length = 1) (hbS : bS = true ↔ (lst n (dr n zs e KS)).length = 1)
    (hal : al = true ↔ ∀ q : Nat, q < 61 → primeB q = true → q ∣ n → One n zs e q) (hs : ∀ q : Nat, q < 61 → primeB q = true → q ∣ n → ∃ s A ms, SylA n zs e q s A ms) :
    bN = al ∧ (bN = true → KL = KU ∧ bS = true) ∧ (1 < (pds n 61).length ∨ bN = true) ∧ bN = (((lst n (up n zs e KU)).length : Int) == (n : Int)) := by
  have hn := g.tab.le
  have hpos := Fin.Fg.pos (grp_fg g)
  rw [List.length_range] at hpos
  have hq61 : ∀ q : Nat, q ∣ n → q < 61 := fun q h => by have := Nat.le_of_dvd hpos h; omega
  have hb := nil_both g hl el hu eu
  have e1 : bN = al := by
    rw [Bool.eq_iff_iff, hbN, hal]
    constructor
    · intro h q hq hpq hqn
      obtain ⟨s, A, ms, HA⟩ := hs q hq hpq hqn
      exact ⟨s, HA.gr, nil_syl g hpq HA.gr h⟩
    · exact fun h => hb.1.2 (one_nil g eu fun q hpq hqn => h q (hq61 q hqn) hpq hqn)
  refine ⟨e1, fun h => ⟨hb.2 (hbN.1 h), hbS.2 (nil_sol g (hbN.1 h) el es)⟩, ?_, ?_⟩
  · by_cases h : 1 < (pds n 61).length
    · exact .inl h
    · right
      rw [e1, hal]
      intro q hq hpq hqn
      obtain ⟨s, A, ms, HA⟩ := hs q hq hpq hqn
      refine HA.single g hpq fun r hpr hrn => ?_
      have m1 : q ∈ pds n 61 := List.mem_filter.2 ⟨List.mem_range.2 hq, by rw [hpq, Bool.true_and]; exact decide_eq_true (Nat.mod_eq_zero_of_dvd hqn)⟩
      have m2 : r ∈ pds n 61 := List.mem_filter.2 ⟨List.mem_range.2 (hq61 r hrn), by rw [hpr, Bool.true_and]; exact decide_eq_true (Nat.mod_eq_zero_of_dvd hrn)⟩
      have h1 : (pds n 61).length = 1 := by have := List.length_pos_of_mem m1; omega
      obtain ⟨d, hd⟩ := List.length_eq_one_iff.1 h1
      rw [hd, List.mem_singleton] at m1 m2
      rw [m1, m2]
  · rw [Bool.eq_iff_iff, hbN, hb.1, beq_iff_eq]
    omega
end Go.Proofs.YtolbpjjjoafkkaaDoor

namespace Go.Proofs.YtolbpjjjoafkkaaDoor
open Go Go.RowKit

set_option maxRecDepth 100000 in
set_option maxHeartbeats 8000000 in
theorem snil_bad (N : Int) (v1 : Option Addr) (v2 v3 : Nat) (zs : List Int) (w : World) (hv : Sl w (.slice v1 v2 v3) zs) (hT : Tab w) (hc : (gfault N zs).1 ≠ 0) :
    Calls Tryd.prog 10 #[.agg #[.int .i64 N, .slice v1 v2 v3]] w fun e w' => e = .returned (.bool true) ∧ Below w.heap.size w w' := by
  have HL := hide (fun W (h : Below w.heap.size w W) => slow_bad N (.slice v1 v2 v3) zs W (hv.below h) hc)
  have HU := hide (fun W (h : Below w.heap.size w W) => sup_bad N (.slice v1 v2 v3) zs W (hv.below h) hc)
  have HSO := hide (fun W (h : Below w.heap.size w W) => sol_bad N (.slice v1 v2 v3) zs W (hv.below h) hc)
  have HNI := hide (fun W (h : Below w.heap.size w W) => nil_bad N (.slice v1 v2 v3) zs W (hv.below h) hc)
  have HGF := hide (fun W (h : Below w.heap.size w W) => groupFault_any N (.slice v1 v2 v3) zs W (hv.below h))
  generalize gfault N zs = pf at *
  obtain ⟨c, i⟩ := pf
  simp only at hc HL HU HSO HNI HGF
  have hcb : (c != 0) = true := by simpa using hc
  have hB0 : Below w.heap.size w (w.alloc (.cells #[.int .i64 N, .slice v1 v2 v3] 24)) := balloc w _
  have hX0 : BoxG (w.alloc (.cells #[.int .i64 N, .slice v1 v2 v3] 24)) w.heap.size N (.slice v1 v2 v3) := blk0 (w := w) (T := 24) _ _
  go_enter Tryd.func10, Tryd.ntmps10
  go_wp2_with fail
  generalize w.alloc (.cells #[.int .i64 N, .slice v1 v2 v3] 24) = w0 at *
  refine (seriesBegun_any _ (hT.below hB0)).mono ?_
  rintro x w1 ⟨rfl, hb1⟩
  have hB1 := bcat2 hB0 hb1
  have hX1 := blk_below hX0 hb1
  obtain ⟨x0, x1, _, _⟩ := hX1.two
  go_wp2_with fail
  clear x0 x1
  refine (HNI.out _ hB1).mono ?_
  rintro x w2 ⟨rfl, hb2⟩
  obtain ⟨w3, hw3⟩ : ∃ W, W = w2.alloc (.cells #[.int .i64 c, .int .i64 i] 27) := ⟨_, rfl⟩
  have hb3 : Below w2.heap.size w2 w3 := by rw [hw3]; exact balloc w2 _
  have hF3 : Blk w3 w2.heap.size 27 [.int .i64 c, .int .i64 i] := by rw [hw3]; exact blk0 _ _
  have hB3 := bcat2 hB1 (bcat2 hb2 hb3)
  have hX3 := blk_below hX1 (bcat2 hb2 hb3)
  obtain ⟨x0, x1, _, _⟩ := hX3.two
  rw [hw3] at x0 x1
  go_wp2_with fail
  rw [← hw3]
  clear hw3 x0 x1
  refine (HL.out _ hB3).mono ?_
  rintro x w4 ⟨rfl, hb4⟩
  obtain ⟨w5, hw5⟩ : ∃ W, W = w4.alloc (.cells #[.int .i64 c, .int .i64 i] 27) := ⟨_, rfl⟩
  have hb5 : Below w4.heap.size w4 w5 := by rw [hw5]; exact balloc w4 _
  have hF5 : Blk w5 w4.heap.size 27 [.int .i64 c, .int .i64 i] := by rw [hw5]; exact blk0 _ _
  have hB5 := bcat2 hB3 (bcat2 hb4 hb5)
  have hX5 := blk_below hX3 (bcat2 hb4 hb5)
  have hF3_5 := blk_below hF3 (bcat2 hb4 hb5)
  obtain ⟨x0, x1, _, _⟩ := hX5.two
  rw [hw5] at x0 x1
  go_wp2_with fail
  rw [← hw5]
  clear hw5 x0 x1
  refine (HU.out _ hB5).mono ?_
  rintro x w6 ⟨rfl, hb6⟩
  obtain ⟨w7, hw7⟩ : ∃ W, W = w6.alloc (.cells #[.int .i64 c, .int .i64 i] 27) := ⟨_, rfl⟩
  have hb7 : Below w6.heap.size w6 w7 := by rw [hw7]; exact balloc w6 _
  have hF7 : Blk w7 w6.heap.size 27 [.int .i64 c, .int .i64 i] := by rw [hw7]; exact blk0 _ _
  have hB7 := bcat2 hB5 (bcat2 hb6 hb7)
  have hX7 := blk_below hX5 (bcat2 hb6 hb7)
  have hF3_7 := blk_below hF3_5 (bcat2 hb6 hb7)
  have hF5_7 := blk_below hF5 (bcat2 hb6 hb7)
  obtain ⟨x0, x1, _, _⟩ := hX7.two
  rw [hw7] at x0 x1
  go_wp2_with fail
  rw [← hw7]
  clear hw7 x0 x1
  refine (HSO.out _ hB7).mono ?_
  rintro x w8 ⟨rfl, hb8⟩
  obtain ⟨w9, hw9⟩ : ∃ W, W = w8.alloc (.cells #[.int .i64 c, .int .i64 i] 27) := ⟨_, rfl⟩
  have hb9 : Below w8.heap.size w8 w9 := by rw [hw9]; exact balloc w8 _
  have hF9 : Blk w9 w8.heap.size 27 [.int .i64 c, .int .i64 i] := by rw [hw9]; exact blk0 _ _
  have hB9 := bcat2 hB7 (bcat2 hb8 hb9)
  have hX9 := blk_below hX7 (bcat2 hb8 hb9)
  have hF3_9 := blk_below hF3_7 (bcat2 hb8 hb9)
  have hF5_9 := blk_below hF5_7 (bcat2 hb8 hb9)
  have hF7_9 := blk_below hF7 (bcat2 hb8 hb9)
  obtain ⟨x0, x1, _, _⟩ := hX9.two
  obtain ⟨z3a, z3b, _, _⟩ := hF3_9.two
  obtain ⟨z5a, z5b, _, _⟩ := hF5_9.two
  obtain ⟨z7a, z7b, _, _⟩ := hF7_9.two
  obtain ⟨z9a, z9b, _, _⟩ := hF9.two
  rw [hw9] at x0 x1 z3a z3b z5a z5b z7a z7b z9a z9b
  go_wp2_with fail
  rw [← hw9]
  clear hw9 x0 x1 z3a z3b z5a z5b z7a z7b z9a z9b
  refine (HGF.out _ hB9).mono ?_
  rintro x w10 ⟨rfl, hb10⟩
  have hfld : ∀ W, Sem.run Tryd.prog (Instr.field 27 (.agg #[.int .i64 c, .int .i64 i]) 0) W = .ok (.int .i64 c) W := fun W => by kernel_rfl
  go_wp2
  go_ret
  exact ⟨by simp, bcat2 hB9 hb10⟩
set_option maxRecDepth 100000 in
set_option maxHeartbeats 8000000 in
theorem snil_good (n e : Nat) (v1 : Option Addr) (v2 v3 : Nat) (zs : List Int) (w : World) (hv : Sl w (.slice v1 v2 v3) zs) (hg : IsGrp n zs e) (hT : Tab w) :
    Calls Tryd.prog 10 #[.agg #[.int .i64 n, .slice v1 v2 v3]] w fun e w' => e = .returned (.bool true) ∧ Below w.heap.size w w' := by
  have hn := hg.tab.le
  have HL := hide (fun W (h : Below w.heap.size w W) => slow_good n e (.slice v1 v2 v3) zs W (hv.below h) hg (hT.below h))
  have HU := hide (fun W (h : Below w.heap.size w W) => sup_good n e (.slice v1 v2 v3) zs W (hv.below h) hg (hT.below h))
  have HSO := hide (fun W (h : Below w.heap.size w W) => sol_good n e (.slice v1 v2 v3) zs W (hv.below h) hg (hT.below h))
  have HNI := hide (fun W (h : Below w.heap.size w W) => nil_good n e (.slice v1 v2 v3) zs W (hv.below h) hg (hT.below h))
  have HAL := hide (fun W (p : Nat) (hpr : primeB p = true) (h : Below w.heap.size w W) => sall_nice n e p (.slice v1 v2 v3) zs W (hv.below h) hg (hT.below h) hpr)
  have hB0 : Below w.heap.size w (w.alloc (.cells #[.int .i64 n, .slice v1 v2 v3] 24)) := balloc w _
  have hX0 : BoxG (w.alloc (.cells #[.int .i64 n, .slice v1 v2 v3] 24)) w.heap.size n (.slice v1 v2 v3) := blk0 (w := w) (T := 24) _ _
  go_enter Tryd.func10, Tryd.ntmps10
  go_wp2_with fail
  generalize w.alloc (.cells #[.int .i64 n, .slice v1 v2 v3] 24) = w0 at *
  refine (seriesBegun_any _ (hT.below hB0)).mono ?_
  rintro x w1 ⟨rfl, hb1⟩
  have hB1 := bcat2 hB0 hb1
  have hX1 := blk_below hX0 hb1
  obtain ⟨x0, x1, _, _⟩ := hX1.two
  go_wp2_with fail
  clear x0 x1
  refine (HNI.out _ hB1).mono ?_
  rintro x w2 ⟨bN, rfl, ⟨KN, hstn, hendn, hbN⟩, hb2⟩
  obtain ⟨w3, hw3⟩ : ∃ W, W = w2.alloc (.cells #[.int .i64 0, .int .i64 0] 27) := ⟨_, rfl⟩
  have hb3 : Below w2.heap.size w2 w3 := by rw [hw3]; exact balloc w2 _
  have hF3 : Blk w3 w2.heap.size 27 [.int .i64 0, .int .i64 0] := by rw [hw3]; exact blk0 _ _
  have hB3 := bcat2 hB1 (bcat2 hb2 hb3)
  have hX3 := blk_below hX1 (bcat2 hb2 hb3)
  obtain ⟨x0, x1, _, _⟩ := hX3.two
  rw [hw3] at x0 x1
  go_wp2_with fail
  rw [← hw3]
  clear hw3 x0 x1
  refine (HL.out _ hB3).mono ?_
  rintro x w4 ⟨y, rfl, ⟨KL, gl, cl, rfl, hstl, hendl, _, _⟩, hb4⟩
  obtain ⟨w5, hw5⟩ : ∃ W, W = w4.alloc (.cells #[.int .i64 0, .int .i64 0] 27) := ⟨_, rfl⟩
  have hb5 : Below w4.heap.size w4 w5 := by rw [hw5]; exact balloc w4 _
  have hF5 : Blk w5 w4.heap.size 27 [.int .i64 0, .int .i64 0] := by rw [hw5]; exact blk0 _ _
  have hB5 := bcat2 hB3 (bcat2 hb4 hb5)
  have hX5 := blk_below hX3 (bcat2 hb4 hb5)
  have hF3_5 := blk_below hF3 (bcat2 hb4 hb5)
  obtain ⟨x0, x1, _, _⟩ := hX5.two
  rw [hw5] at x0 x1
  go_wp2_with fail
  rw [← hw5]
  clear hw5 x0 x1
  refine (HU.out _ hB5).mono ?_
  rintro x w6 ⟨y, rfl, ⟨KU, gu, cu, rfl, hstu, hendu, hRu, _⟩, hb6⟩
  obtain ⟨w7, hw7⟩ : ∃ W, W = w6.alloc (.cells #[.int .i64 0, .int .i64 0] 27) := ⟨_, rfl⟩
  have hb7 : Below w6.heap.size w6 w7 := by rw [hw7]; exact balloc w6 _
  have hF7 : Blk w7 w6.heap.size 27 [.int .i64 0, .int .i64 0] := by rw [hw7]; exact blk0 _ _
  have hB7 := bcat2 hB5 (bcat2 hb6 hb7)
  have hX7 := blk_below hX5 (bcat2 hb6 hb7)
  have hF3_7 := blk_below hF3_5 (bcat2 hb6 hb7)
  have hF5_7 := blk_below hF5 (bcat2 hb6 hb7)
  have hRu_7 := hRu.below hb7
  obtain ⟨x0, x1, _, _⟩ := hX7.two
  rw [hw7] at x0 x1
  go_wp2_with fail
  rw [← hw7]
  clear hw7 x0 x1
  refine (HSO.out _ hB7).mono ?_
  rintro x w8 ⟨bS, rfl, ⟨KS, hsts, hends, hbS⟩, hb8⟩
  obtain ⟨w9, hw9⟩ : ∃ W, W = w8.alloc (.cells #[.int .i64 0, .int .i64 0] 27) := ⟨_, rfl⟩
  have hb9 : Below w8.heap.size w8 w9 := by rw [hw9]; exact balloc w8 _
  have hF9 : Blk w9 w8.heap.size 27 [.int .i64 0, .int .i64 0] := by rw [hw9]; exact blk0 _ _
  have hB9 := bcat2 hB7 (bcat2 hb8 hb9)
  have hX9 := blk_below hX7 (bcat2 hb8 hb9)
  have hF3_9 := blk_below hF3_7 (bcat2 hb8 hb9)
  have hF5_9 := blk_below hF5_7 (bcat2 hb8 hb9)
  have hF7_9 := blk_below hF7 (bcat2 hb8 hb9)
  have hRu_9 := hRu_7.below (bcat2 hb8 hb9)
  obtain ⟨x0, x1, _, _⟩ := hX9.two
  obtain ⟨z3a, z3b, _, _⟩ := hF3_9.two
  obtain ⟨z5a, z5b, _, _⟩ := hF5_9.two
  obtain ⟨z7a, z7b, _, _⟩ := hF7_9.two
  obtain ⟨z9a, z9b, _, _⟩ := hF9.two
  rw [hw9] at x0 x1 z3a z3b z5a z5b z7a z7b z9a z9b
  have h1 := stp_only hstn hendn hstl hendl
  subst h1
  have HND := hide (fun al (h1 : al = true ↔ ∀ q : Nat, q < 61 → primeB q = true → q ∣ n → One n zs e q) (h2 : ∀ q : Nat, q < 61 → primeB q = true → q ∣ n → ∃ s A ms, SylA n zs e q s A ms) => nil_all hg hstl hendl hstu hendu hends hbN hbS h1 h2)
  have hmn := hstl.meas
  have hmu : KU ≤ 60 := by
    have h9 : KU ≤ (fun q : Nat → Bool => n - (lst n q).length) (itr (upq n zs e) (fun a => decide (a = e)) KU) + KU := Nat.le_add_left _ _
    have := hstu.meas
    omega
  have hmn : KN ≤ 60 := by omega
  clear hstn hendn hstl hendl hstu hendu hsts hends hbN hbS HL HU HSO HNI
  go_wp2_with fail
  rw [← hw9]
  clear hw9 x0 x1 z3a z3b z5a z5b z7a z7b z9a z9b
  go_loopw [11, 12, 13] (fun bv cv pv wr => ∃ (b : Bool) (P : Nat), 2 ≤ P ∧ P ≤ 61 ∧ pv = .int .i64 P ∧ bv = .bool b ∧ cv = .int .i64 ((pds n P).length : Nat) ∧ Hid (b = true ↔ ∀ q : Nat, q < P → primeB q = true → q ∣ n → One n zs e q) ∧ Hid (∀ q : Nat, q < P → primeB q = true → q ∣ n → ∃ s A ms, SylA n zs e q s A ms) ∧ Below w9.heap.size w9 wr) (fun _ _ pv _ => 61 - (intOf pv).toNat)
  case atStart =>
    have hsm : ∀ q : Nat, q < 2 → ¬ primeB q = true := fun q hq h => by
      have := of_decide_eq_true h
      omega
    exact ⟨true, 2, Nat.le_refl _, by omega, rfl, rfl, by
      have : pds n 2 = [] := by
        unfold pds
        rw [List.filter_eq_nil_iff]
        intro q hq h
        rw [Bool.and_eq_true] at h
        exact hsm q (List.mem_range.1 hq) h.1
      rw [this]
      rfl, hide ⟨fun _ q hq h => absurd h (hsm q hq), fun _ => rfl⟩, hide fun q hq h => absurd h (hsm q hq), Below.refl _ _⟩
  case round =>
    obtain ⟨b, P, hP2, hP61, rfl, rfl, rfl, HB, HSA, hbr⟩ := hrel
    have hXr := blk_below hX9 hbr
    obtain ⟨x0, x1, _, _⟩ := hXr.two
    have hpl := pds_le n P
    have hup := pds_up n P
    by_cases hP : P ≤ 60
    · have hPi : (P : Int) ≤ 60 := by omega
      have HLP := hide (lprime_ok (P : Int) wr)
      have HBnew := hide (show ∀ b' : Bool, ((b' = true ↔ b = true ∧ (primeB P = true → P ∣ n → One n zs e P)) → (b' = true ↔ ∀ q : Nat, q < P + 1 → primeB q = true → q ∣ n → One n zs e q)) from fun b' h => by
        rw [h, HB.out]
        constructor
        · rintro ⟨h1, h2⟩ q hq h3 h4
          by_cases h5 : q = P
          · subst h5; exact h2 h3 h4
          · exact h1 q (by omega) h3 h4
        · exact fun h1 => ⟨fun q hq => h1 q (by omega), h1 P (by omega)⟩)
      have HSnew := hide (show ((primeB P = true → P ∣ n → ∃ s A ms, SylA n zs e P s A ms) → ∀ q : Nat, q < P + 1 → primeB q = true → q ∣ n → ∃ s A ms, SylA n zs e q s A ms) from fun h q hq h3 h4 => by
        by_cases h5 : q = P
        · subst h5; exact h h3 h4
        · exact HSA.out q (by omega) h3 h4)
      cases hpr : primeB (P : Int) with
      | false =>
        rw [hpr] at HLP
        rw [if_neg (by rw [hpr]; simp)] at hup
        have hup : (pds n (P + 1)).length = (pds n P).length := hup
        have HB2 := hide (HBnew.out b ⟨fun h => ⟨h, fun h1 => by rw [hpr] at h1; cases h1⟩, fun h => h.1⟩)
        have HS2 := hide (HSnew.out fun h1 => by rw [hpr] at h1; cases h1)
        have HUP := hide hup
        clear HBnew HSnew hup hpl hpr
        go_wp2_with fail
        refine HLP.out.mono ?_
        rintro x wa ⟨rfl, hba⟩
        go_wp2
        go_roundw
        case rel => exact ⟨b, P + 1, by omega, by omega, by go_num, rfl, by rw [HUP.out], HB2, HS2, bcat2 hbr hba⟩
        case measure => simp [intOf]; omega
      | true =>
        rw [hpr] at HLP
        have htm : (n : Int).tmod (P : Int) = ((n % P : Nat) : Int) := by
          rw [Int.tmod_eq_emod_of_nonneg (by omega)]
          omega
        have hP0 : ¬ ((P : Int) = 0) := by omega
        by_cases hd : n % P = 0
        · rw [if_pos ⟨hpr, hd⟩] at hup
          rw [hd] at htm
          have HPR := hide hpr
          have HDV := hide (Nat.dvd_of_mod_eq_zero hd)
          have hup9 := hup
          clear hup hd hpr
          generalize hC9 : (pds n P).length = C9 at *
          have HUP := hide hup9
          clear hup9 hC9
          go_wp2_with fail
          clear x0 x1
          refine HLP.out.mono ?_
          rintro x wa ⟨rfl, hba⟩
          have hbra := bcat2 hbr hba
          have hXa := blk_below hX9 hbra
          obtain ⟨x0, x1, _, _⟩ := hXa.two
          go_wp2_with fail
          clear x0 x1
          refine (HAL.out _ P HPR.out (bcat2 hB9 hbra)).mono ?_
          rintro x wb ⟨lg, lc, s, A, ms, rfl, HA, _, hbb⟩
          obtain ⟨wc, hwc⟩ : ∃ W, W = wb.alloc (.cells #[.int .i64 0, .int .i64 0] 27) := ⟨_, rfl⟩
          have hbc : Below wb.heap.size wb wc := by rw [hwc]; exact balloc wb _
          have hFc : Blk wc wb.heap.size 27 [.int .i64 0, .int .i64 0] := by rw [hwc]; exact blk0 _ _
          obtain ⟨f0, f1, _, _⟩ := hFc.two
          have hbrc := bcat2 hbra (bcat2 hbb hbc)
          have HB2 := hide (HBnew.out (b && ((ms.length : Int) == 1)) (by
            rw [Bool.and_eq_true, beq_iff_eq]
            have h9 := HA.alone hg HPR.out
            constructor
            · rintro ⟨h1, h2⟩
              exact ⟨h1, fun _ _ => h9.1 (by omega)⟩
            · rintro ⟨h1, h2⟩
              have := h9.2 (h2 HPR.out HDV.out)
              exact ⟨h1, by omega⟩))
          have HS2 := hide (HSnew.out fun _ _ => ⟨s, A, ms, HA⟩)
          have hfit := HA.fits
          clear HBnew HSnew HA
          rw [hwc] at f0 f1
          cases b with
          | true =>
            go_wp2
            rw [← hwc]
            go_roundw
            case rel => exact ⟨_, P + 1, by omega, by omega, by go_num, rfl, by rw [HUP.out]; go_num, by simpa using HB2, HS2, hbrc⟩
            case measure => simp [intOf]; omega
          | false =>
            go_wp2
            rw [← hwc]
            go_roundw
            case rel => exact ⟨_, P + 1, by omega, by omega, by go_num, rfl, by rw [HUP.out]; go_num, by simpa using HB2, HS2, hbrc⟩
            case measure => simp [intOf]; omega
        · rw [if_neg (fun h => hd h.2)] at hup
          have hup : (pds n (P + 1)).length = (pds n P).length := hup
          have hdi : ¬ (((n % P : Nat) : Int) = 0) := by omega
          have hnd : ¬ P ∣ n := fun h => hd (Nat.mod_eq_zero_of_dvd h)
          have HB2 := hide (HBnew.out b ⟨fun h => ⟨h, fun _ h1 => absurd h1 hnd⟩, fun h => h.1⟩)
          have HS2 := hide (HSnew.out fun _ h1 => absurd h1 hnd)
          have HUP := hide hup
          clear HBnew HSnew hup hpl hpr hd hnd
          generalize n % P = r9 at *
          go_wp2_with fail
          clear x0 x1
          refine HLP.out.mono ?_
          rintro x wa ⟨rfl, hba⟩
          have hbra := bcat2 hbr hba
          have hXa := blk_below hX9 hbra
          obtain ⟨x0, x1, _, _⟩ := hXa.two
          go_wp2
          go_roundw
          case rel => exact ⟨b, P + 1, by omega, by omega, by go_num, rfl, by rw [HUP.out], HB2, HS2, hbra⟩
          case measure => simp [intOf]; omega
    · have hPi : ¬ (P : Int) ≤ 60 := by omega
      have hPe : P = 61 := by omega
      subst hPe
      obtain ⟨e1, e2, e3, e4⟩ := HND.out b HB.out HSA.out
      obtain ⟨ua, uc, huc, _⟩ := (hRu_9.below hbr) KU (by rw [sls_len]; omega)
      rw [sls_at (by omega), li_len] at huc
      have huL := lst_len n (up n zs e KU)
      generalize (lst n (up n zs e KU)).length = LU at *
      generalize (pds n 61).length = C9 at *
      have hk1 : (((KU + 1 : Nat) : Int) - 1) = (KU : Int) := by omega
      have hk2 : (0 : Int) ≤ (KU : Int) := by omega
      have hk3 : (KU : Int) < (KU : Int) + 1 := by omega
      have hk4 : IntKind.i64.wrap ((KU : Int) + 1 - 1) = (KU : Int) := by rw [IntKind.wrap_i64]; omega
      have hk5 : IntKind.i64.wrap (KU : Int) = (KU : Int) := by rw [IntKind.wrap_i64]; omega
      have hBr := bcat2 hB9 hbr
      subst e1
      clear HND HB HSA HAL hup
      have hS : ∀ W, Below wr.heap.size wr W → (Below wr.heap.size wr W ∧ W.cell? ⟨w.heap.size, 0, none⟩ = some (.int .i64 n) ∧ W.cell? ⟨w.heap.size, 1, none⟩ = some (.slice v1 v2 v3) ∧ W.cell? ⟨gu, KU, none⟩ = some (.slice ua LU uc)) := fun W h => ⟨h, below_cell h x0, below_cell h x1, below_cell h huc⟩
      have hS0 := hS _ (bdrew (Below.refl _ wr))
      cases bN with
      | true =>
        obtain ⟨rfl, rfl⟩ := e2 rfl
        have hLn : LU = n := by
          have := e4.symm
          rw [beq_iff_eq] at this
          omega
        subst hLn
        clear e2 e3 e4
        by_cases hC1 : 1 < (C9 : Int)
        · go_wp2_with fail
          clear x0 x1 huc
          refine wp_region_held_drew (S := (fun W => Below wr.heap.size wr W ∧ W.cell? ⟨w.heap.size, 0, none⟩ = some (.int .i64 LU) ∧ W.cell? ⟨w.heap.size, 1, none⟩ = some (.slice v1 v2 v3) ∧ W.cell? ⟨gu, KN, none⟩ = some (.slice ua LU uc))) (by kernel_rfl) hS0 (fun hHeld => ?_)
          refine wpAnyH_take (i := 0) (oi := ({ dst := some 91, op := Go.Op.move (Go.Operand.tmp 3), type := 4, pos := _, after := #[], guard := none } : Oper)) (v := ?_) rfl (by kernel_rfl) (by kernel_rfl) (by kernel_rfl) (fun _ _ _ h => h) (Or.inl ⟨by rfl, ?_⟩) (by assumption) ?_
          rotate_left
          · (intro w hSw; (try dsimp only at hSw); go_simp; try with_reducible rfl)
          simp only [Act.put, List.setIfInBounds_toArray, List.set_cons_zero, List.set_cons_succ]
          refine wpAnyH_take (i := 1) (oi := ({ dst := some 92, op := Go.Op.move (Go.Operand.tmp 11), type := 4, pos := _, after := #[], guard := none } : Oper)) (v := ?_) rfl (by kernel_rfl) (by kernel_rfl) (by kernel_rfl) (fun _ _ _ h => h) (Or.inl ⟨by rfl, ?_⟩) (by assumption) ?_
          rotate_left
          · (intro w hSw; (try dsimp only at hSw); go_simp; try with_reducible rfl)
          simp only [Act.put, List.setIfInBounds_toArray, List.set_cons_zero, List.set_cons_succ]
          refine wpAnyH_take (i := 2) (oi := ({ dst := some 93, op := Go.Op.binOp Go.BinOp.eql 4 (Go.Operand.tmp 91) (Go.Operand.tmp 92) 4, type := 4, pos := _, after := #[{ on := 0, ground := Go.Ground.data }, { on := 1, ground := Go.Ground.data }], guard := none } : Oper)) (v := .bool true) rfl (by kernel_rfl) (by kernel_rfl) (by kernel_rfl) (fun _ _ _ h => h) (Or.inl ⟨by rfl, ?_⟩) (by assumption) ?_
          · (intro w hSw; (try dsimp only at hSw); go_simp; try (first | with_reducible rfl | exact hk5 | (simp; done) | (simp; omega)))
          simp only [Act.put, List.setIfInBounds_toArray, List.set_cons_zero, List.set_cons_succ]
          refine wpAnyH_take (i := 3) (oi := ({ dst := some 94, op := Go.Op.move (Go.Operand.tmp 93), type := 4, pos := _, after := #[{ on := 2, ground := Go.Ground.data }], guard := none } : Oper)) (v := ?_) rfl (by kernel_rfl) (by kernel_rfl) (by kernel_rfl) (fun _ _ _ h => h) (Or.inl ⟨by rfl, ?_⟩) (by assumption) ?_
          rotate_left
          · (intro w hSw; (try dsimp only at hSw); go_simp; try with_reducible rfl)
          simp only [Act.put, List.setIfInBounds_toArray, List.set_cons_zero, List.set_cons_succ]
          refine wpAnyH_take (i := 4) (oi := ({ dst := some 95, op := Go.Op.move (Go.Operand.tmp 3), type := 4, pos := _, after := #[{ on := 3, ground := Go.Ground.guard }], guard := some (3, true) } : Oper)) (v := ?_) rfl (by kernel_rfl) (by kernel_rfl) (by kernel_rfl) (fun _ _ _ h => h) (Or.inl ⟨by rfl, ?_⟩) (by assumption) ?_
          rotate_left
          · (intro w hSw; (try dsimp only at hSw); go_simp; try with_reducible rfl)
          simp only [Act.put, List.setIfInBounds_toArray, List.set_cons_zero, List.set_cons_succ]
          refine wpAnyH_take (i := 5) (oi := ({ dst := some 96, op := Go.Op.unOp Go.UnOp.not 4 (Go.Operand.tmp 95), type := 4, pos := _, after := #[{ on := 4, ground := Go.Ground.data }, { on := 3, ground := Go.Ground.guard }], guard := some (3, true) } : Oper)) (v := .bool false) rfl (by kernel_rfl) (by kernel_rfl) (by kernel_rfl) (fun _ _ _ h => h) (Or.inl ⟨by rfl, ?_⟩) (by assumption) ?_
          · (intro w hSw; (try dsimp only at hSw); go_simp; try (first | with_reducible rfl | exact hk5 | (simp; done) | (simp; omega)))
          simp only [Act.put, List.setIfInBounds_toArray, List.set_cons_zero, List.set_cons_succ]
          refine wpAnyH_take (i := 6) (oi := ({ dst := some 97, op := Go.Op.move (Go.Operand.tmp 96), type := 4, pos := _, after := #[{ on := 5, ground := Go.Ground.data }, { on := 3, ground := Go.Ground.chain }, { on := 3, ground := Go.Ground.guard }], guard := some (3, true) } : Oper)) (v := .bool false) rfl (by kernel_rfl) (by kernel_rfl) (by kernel_rfl) (fun _ _ _ h => h) (Or.inl ⟨by rfl, ?_⟩) (by assumption) ?_
          · (intro w hSw; (try dsimp only at hSw); go_simp; try (first | with_reducible rfl | exact hk5 | (simp; done) | (simp; omega)))
          simp only [Act.put, List.setIfInBounds_toArray, List.set_cons_zero, List.set_cons_succ]
          refine wpAnyH_take (i := 7) (oi := ({ dst := some 98, op := Go.Op.move (Go.Operand.tmp 5), type := 25, pos := _, after := #[{ on := 6, ground := Go.Ground.guard }], guard := some (6, false) } : Oper)) (v := ?_) rfl (by kernel_rfl) (by kernel_rfl) (by kernel_rfl) (fun _ _ _ h => h) (Or.inl ⟨by rfl, ?_⟩) (by assumption) ?_
          rotate_left
          · (intro w hSw; (try dsimp only at hSw); go_simp; try with_reducible rfl)
          simp only [Act.put, List.setIfInBounds_toArray, List.set_cons_zero, List.set_cons_succ]
          refine wpAnyH_take (i := 8) (oi := ({ dst := some 99, op := Go.Op.call { callee := Go.Callee.builtin Go.Builtin.len, args := #[Go.Operand.tmp 98], argTypes := #[25] }, type := 3, pos := _, after := #[{ on := 7, ground := Go.Ground.data }, { on := 6, ground := Go.Ground.guard }], guard := some (6, false) } : Oper)) (v := ?_) rfl (by kernel_rfl) (by kernel_rfl) (by kernel_rfl) (fun _ _ _ h => h) (Or.inl ⟨by rfl, ?_⟩) (by assumption) ?_
          rotate_left
          · (intro w hSw; (try dsimp only at hSw); go_simp; try with_reducible rfl)
          simp only [Act.put, List.setIfInBounds_toArray, List.set_cons_zero, List.set_cons_succ]
          refine wpAnyH_take (i := 9) (oi := ({ dst := some 100, op := Go.Op.move (Go.Operand.tmp 7), type := 25, pos := _, after := #[{ on := 6, ground := Go.Ground.guard }], guard := some (6, false) } : Oper)) (v := ?_) rfl (by kernel_rfl) (by kernel_rfl) (by kernel_rfl) (fun _ _ _ h => h) (Or.inl ⟨by rfl, ?_⟩) (by assumption) ?_
          rotate_left
          · (intro w hSw; (try dsimp only at hSw); go_simp; try with_reducible rfl)
          simp only [Act.put, List.setIfInBounds_toArray, List.set_cons_zero, List.set_cons_succ]
          refine wpAnyH_take (i := 10) (oi := ({ dst := some 101, op := Go.Op.call { callee := Go.Callee.builtin Go.Builtin.len, args := #[Go.Operand.tmp 100], argTypes := #[25] }, type := 3, pos := _, after := #[{ on := 9, ground := Go.Ground.data }, { on := 6, ground := Go.Ground.guard }], guard := some (6, false) } : Oper)) (v := ?_) rfl (by kernel_rfl) (by kernel_rfl) (by kernel_rfl) (fun _ _ _ h => h) (Or.inl ⟨by rfl, ?_⟩) (by assumption) ?_
          rotate_left
          · (intro w hSw; (try dsimp only at hSw); go_simp; try with_reducible rfl)
          simp only [Act.put, List.setIfInBounds_toArray, List.set_cons_zero, List.set_cons_succ]
          refine wpAnyH_take (i := 11) (oi := ({ dst := some 102, op := Go.Op.binOp Go.BinOp.eql 3 (Go.Operand.tmp 99) (Go.Operand.tmp 101) 3, type := 4, pos := _, after := #[{ on := 8, ground := Go.Ground.data }, { on := 10, ground := Go.Ground.data }, { on := 6, ground := Go.Ground.guard }], guard := some (6, false) } : Oper)) (v := .bool true) rfl (by kernel_rfl) (by kernel_rfl) (by kernel_rfl) (fun _ _ _ h => h) (Or.inl ⟨by rfl, ?_⟩) (by assumption) ?_
          · (intro w hSw; (try dsimp only at hSw); go_simp; try (first | with_reducible rfl | exact hk5 | (simp; done) | (simp; omega)))
          simp only [Act.put, List.setIfInBounds_toArray, List.set_cons_zero, List.set_cons_succ]
          refine wpAnyH_take (i := 12) (oi := ({ dst := some 103, op := Go.Op.move (Go.Operand.tmp 102), type := 4, pos := _, after := #[{ on := 11, ground := Go.Ground.data }, { on := 6, ground := Go.Ground.chain }, { on := 6, ground := Go.Ground.guard }], guard := some (6, false) } : Oper)) (v := ?_) rfl (by kernel_rfl) (by kernel_rfl) (by kernel_rfl) (fun _ _ _ h => h) (Or.inl ⟨by rfl, ?_⟩) (by assumption) ?_
          rotate_left
          · (intro w hSw; (try dsimp only at hSw); go_simp; try with_reducible rfl)
          simp only [Act.put, List.setIfInBounds_toArray, List.set_cons_zero, List.set_cons_succ]
          refine wpAnyH_take (i := 13) (oi := ({ dst := some 104, op := Go.Op.move (Go.Operand.tmp 9), type := 4, pos := _, after := #[{ on := 12, ground := Go.Ground.guard }], guard := some (12, true) } : Oper)) (v := ?_) rfl (by kernel_rfl) (by kernel_rfl) (by kernel_rfl) (fun _ _ _ h => h) (Or.inl ⟨by rfl, ?_⟩) (by assumption) ?_
          rotate_left
          · (intro w hSw; (try dsimp only at hSw); go_simp; try with_reducible rfl)
          simp only [Act.put, List.setIfInBounds_toArray, List.set_cons_zero, List.set_cons_succ]
          refine wpAnyH_take (i := 14) (oi := ({ dst := some 105, op := Go.Op.pick (Go.Operand.tmp 103) (Go.Operand.tmp 104) (Go.Operand.const (Go.Value.bool false)), type := 4, pos := _, after := #[{ on := 12, ground := Go.Ground.data }, { on := 13, ground := Go.Ground.data }, { on := 6, ground := Go.Ground.guard }], guard := some (6, false) } : Oper)) (v := .bool true) rfl (by kernel_rfl) (by kernel_rfl) (by kernel_rfl) (fun _ _ _ h => h) (Or.inl ⟨by rfl, ?_⟩) (by assumption) ?_
          · (intro w hSw; (try dsimp only at hSw); go_simp; try (first | with_reducible rfl | exact hk5 | (simp; done) | (simp; omega)))
          simp only [Act.put, List.setIfInBounds_toArray, List.set_cons_zero, List.set_cons_succ]
          refine wpAnyH_take (i := 15) (oi := ({ dst := some 106, op := Go.Op.pick (Go.Operand.tmp 97) (Go.Operand.const (Go.Value.bool true)) (Go.Operand.tmp 105), type := 4, pos := _, after := #[{ on := 6, ground := Go.Ground.data }, { on := 14, ground := Go.Ground.data }, { on := 3, ground := Go.Ground.guard }], guard := some (3, true) } : Oper)) (v := .bool true) rfl (by kernel_rfl) (by kernel_rfl) (by kernel_rfl) (fun _ _ _ h => h) (Or.inl ⟨by rfl, ?_⟩) (by assumption) ?_
          · (intro w hSw; (try dsimp only at hSw); go_simp; try (first | with_reducible rfl | exact hk5 | (simp; done) | (simp; omega)))
          simp only [Act.put, List.setIfInBounds_toArray, List.set_cons_zero, List.set_cons_succ]
          refine wpAnyH_take (i := 16) (oi := ({ dst := some 107, op := Go.Op.pick (Go.Operand.tmp 94) (Go.Operand.tmp 106) (Go.Operand.const (Go.Value.bool false)), type := 4, pos := _, after := #[{ on := 3, ground := Go.Ground.data }, { on := 15, ground := Go.Ground.data }], guard := none } : Oper)) (v := .bool true) rfl (by kernel_rfl) (by kernel_rfl) (by kernel_rfl) (fun _ _ _ h => h) (Or.inl ⟨by rfl, ?_⟩) (by assumption) ?_
          · (intro w hSw; (try dsimp only at hSw); go_simp; try (first | with_reducible rfl | exact hk5 | (simp; done) | (simp; omega)))
          simp only [Act.put, List.setIfInBounds_toArray, List.set_cons_zero, List.set_cons_succ]
          refine wpAnyH_take (i := 17) (oi := ({ dst := some 108, op := Go.Op.move (Go.Operand.tmp 107), type := 4, pos := _, after := #[{ on := 16, ground := Go.Ground.data }, { on := 12, ground := Go.Ground.chain }], guard := none } : Oper)) (v := ?_) rfl (by kernel_rfl) (by kernel_rfl) (by kernel_rfl) (fun _ _ _ h => h) (Or.inl ⟨by rfl, ?_⟩) (by assumption) ?_
          rotate_left
          · (intro w hSw; (try dsimp only at hSw); go_simp; try with_reducible rfl)
          simp only [Act.put, List.setIfInBounds_toArray, List.set_cons_zero, List.set_cons_succ]
          refine wpAnyH_take (i := 18) (oi := ({ dst := some 109, op := Go.Op.move (Go.Operand.tmp 12), type := 3, pos := _, after := #[{ on := 17, ground := Go.Ground.guard }], guard := some (17, true) } : Oper)) (v := ?_) rfl (by kernel_rfl) (by kernel_rfl) (by kernel_rfl) (fun _ _ _ h => h) (Or.inl ⟨by rfl, ?_⟩) (by assumption) ?_
          rotate_left
          · (intro w hSw; (try dsimp only at hSw); go_simp; try with_reducible rfl)
          simp only [Act.put, List.setIfInBounds_toArray, List.set_cons_zero, List.set_cons_succ]
          refine wpAnyH_take (i := 19) (oi := ({ dst := some 110, op := Go.Op.binOp Go.BinOp.gtr 3 (Go.Operand.tmp 109) (Go.Operand.const (Go.Value.int Go.IntKind.i64 1)) 3, type := 4, pos := _, after := #[{ on := 18, ground := Go.Ground.data }, { on := 17, ground := Go.Ground.guard }], guard := some (17, true) } : Oper)) (v := .bool true) rfl (by kernel_rfl) (by kernel_rfl) (by kernel_rfl) (fun _ _ _ h => h) (Or.inl ⟨by rfl, ?_⟩) (by assumption) ?_
          · (intro w hSw; (try dsimp only at hSw); go_simp; try (first | with_reducible rfl | exact hk5 | (simp; done) | (simp; omega)))
          simp only [Act.put, List.setIfInBounds_toArray, List.set_cons_zero, List.set_cons_succ]
          refine wpAnyH_take (i := 20) (oi := ({ dst := some 111, op := Go.Op.move (Go.Operand.tmp 110), type := 4, pos := _, after := #[{ on := 19, ground := Go.Ground.data }, { on := 17, ground := Go.Ground.chain }, { on := 17, ground := Go.Ground.guard }], guard := some (17, true) } : Oper)) (v := .bool true) rfl (by kernel_rfl) (by kernel_rfl) (by kernel_rfl) (fun _ _ _ h => h) (Or.inl ⟨by rfl, ?_⟩) (by assumption) ?_
          · (intro w hSw; (try dsimp only at hSw); go_simp; try (first | with_reducible rfl | exact hk5 | (simp; done) | (simp; omega)))
          simp only [Act.put, List.setIfInBounds_toArray, List.set_cons_zero, List.set_cons_succ]
          refine wpAnyH_take (i := 21) (oi := ({ dst := some 112, op := Go.Op.move (Go.Operand.tmp 3), type := 4, pos := _, after := #[{ on := 20, ground := Go.Ground.guard }], guard := some (20, false) } : Oper)) (v := undef) rfl (by kernel_rfl) (by kernel_rfl) (by kernel_rfl) (fun _ _ _ h => h) (Or.inr ⟨by rfl, rfl⟩) (by assumption) ?_
          simp only [Act.put, List.setIfInBounds_toArray, List.set_cons_zero, List.set_cons_succ]
          refine wpAnyH_take (i := 22) (oi := ({ dst := some 113, op := Go.Op.pick (Go.Operand.tmp 111) (Go.Operand.const (Go.Value.bool true)) (Go.Operand.tmp 112), type := 4, pos := _, after := #[{ on := 20, ground := Go.Ground.data }, { on := 21, ground := Go.Ground.data }, { on := 17, ground := Go.Ground.guard }], guard := some (17, true) } : Oper)) (v := .bool true) rfl (by kernel_rfl) (by kernel_rfl) (by kernel_rfl) (fun _ _ _ h => h) (Or.inl ⟨by rfl, ?_⟩) (by assumption) ?_
          · (intro w hSw; (try dsimp only at hSw); go_simp; try (first | with_reducible rfl | exact hk5 | (simp; done) | (simp; omega)))
          simp only [Act.put, List.setIfInBounds_toArray, List.set_cons_zero, List.set_cons_succ]
          refine wpAnyH_take (i := 23) (oi := ({ dst := some 114, op := Go.Op.pick (Go.Operand.tmp 108) (Go.Operand.tmp 113) (Go.Operand.const (Go.Value.bool false)), type := 4, pos := _, after := #[{ on := 17, ground := Go.Ground.data }, { on := 22, ground := Go.Ground.data }], guard := none } : Oper)) (v := .bool true) rfl (by kernel_rfl) (by kernel_rfl) (by kernel_rfl) (fun _ _ _ h => h) (Or.inl ⟨by rfl, ?_⟩) (by assumption) ?_
          · (intro w hSw; (try dsimp only at hSw); go_simp; try (first | with_reducible rfl | exact hk5 | (simp; done) | (simp; omega)))
          simp only [Act.put, List.setIfInBounds_toArray, List.set_cons_zero, List.set_cons_succ]
          refine wpAnyH_take (i := 24) (oi := ({ dst := some 115, op := Go.Op.move (Go.Operand.tmp 114), type := 4, pos := _, after := #[{ on := 23, ground := Go.Ground.data }, { on := 20, ground := Go.Ground.chain }], guard := none } : Oper)) (v := ?_) rfl (by kernel_rfl) (by kernel_rfl) (by kernel_rfl) (fun _ _ _ h => h) (Or.inl ⟨by rfl, ?_⟩) (by assumption) ?_
          rotate_left
          · (intro w hSw; (try dsimp only at hSw); go_simp; try with_reducible rfl)
          simp only [Act.put, List.setIfInBounds_toArray, List.set_cons_zero, List.set_cons_succ]
          refine wpAnyH_take (i := 25) (oi := ({ dst := some 116, op := Go.Op.move (Go.Operand.tmp 3), type := 4, pos := _, after := #[{ on := 24, ground := Go.Ground.guard }], guard := some (24, true) } : Oper)) (v := ?_) rfl (by kernel_rfl) (by kernel_rfl) (by kernel_rfl) (fun _ _ _ h => h) (Or.inl ⟨by rfl, ?_⟩) (by assumption) ?_
          rotate_left
          · (intro w hSw; (try dsimp only at hSw); go_simp; try with_reducible rfl)
          simp only [Act.put, List.setIfInBounds_toArray, List.set_cons_zero, List.set_cons_succ]
          refine wpAnyH_take (i := 26) (oi := ({ dst := some 117, op := Go.Op.move (Go.Operand.tmp 7), type := 25, pos := _, after := #[{ on := 24, ground := Go.Ground.guard }], guard := some (24, true) } : Oper)) (v := ?_) rfl (by kernel_rfl) (by kernel_rfl) (by kernel_rfl) (fun _ _ _ h => h) (Or.inl ⟨by rfl, ?_⟩) (by assumption) ?_
          rotate_left
          · (intro w hSw; (try dsimp only at hSw); go_simp; try with_reducible rfl)
          simp only [Act.put, List.setIfInBounds_toArray, List.set_cons_zero, List.set_cons_succ]
          refine wpAnyH_take (i := 27) (oi := ({ dst := some 118, op := Go.Op.move (Go.Operand.tmp 7), type := 25, pos := _, after := #[{ on := 24, ground := Go.Ground.guard }], guard := some (24, true) } : Oper)) (v := ?_) rfl (by kernel_rfl) (by kernel_rfl) (by kernel_rfl) (fun _ _ _ h => h) (Or.inl ⟨by rfl, ?_⟩) (by assumption) ?_
          rotate_left
          · (intro w hSw; (try dsimp only at hSw); go_simp; try with_reducible rfl)
          simp only [Act.put, List.setIfInBounds_toArray, List.set_cons_zero, List.set_cons_succ]
          refine wpAnyH_take (i := 28) (oi := ({ dst := some 119, op := Go.Op.call { callee := Go.Callee.builtin Go.Builtin.len, args := #[Go.Operand.tmp 118], argTypes := #[25] }, type := 3, pos := _, after := #[{ on := 27, ground := Go.Ground.data }, { on := 24, ground := Go.Ground.guard }], guard := some (24, true) } : Oper)) (v := ?_) rfl (by kernel_rfl) (by kernel_rfl) (by kernel_rfl) (fun _ _ _ h => h) (Or.inl ⟨by rfl, ?_⟩) (by assumption) ?_
          rotate_left
          · (intro w hSw; (try dsimp only at hSw); go_simp; try with_reducible rfl)
          simp only [Act.put, List.setIfInBounds_toArray, List.set_cons_zero, List.set_cons_succ]
          refine wpAnyH_take (i := 29) (oi := ({ dst := some 120, op := Go.Op.binOp Go.BinOp.sub 3 (Go.Operand.tmp 119) (Go.Operand.const (Go.Value.int Go.IntKind.i64 1)) 3, type := 3, pos := _, after := #[{ on := 28, ground := Go.Ground.data }, { on := 24, ground := Go.Ground.guard }], guard := some (24, true) } : Oper)) (v := .int .i64 KN) rfl (by kernel_rfl) (by kernel_rfl) (by kernel_rfl) (fun _ _ _ h => h) (Or.inl ⟨by rfl, ?_⟩) (by assumption) ?_
          · (intro w hSw; (try dsimp only at hSw); go_simp; try (first | with_reducible rfl | exact hk5 | (simp; done) | (simp; omega)))
          simp only [Act.put, List.setIfInBounds_toArray, List.set_cons_zero, List.set_cons_succ]
          refine wpAnyH_take (i := 30) (oi := ({ dst := some 121, op := Go.Op.indexAddr 25 (Go.Operand.tmp 117) (Go.Operand.tmp 120), type := 0, pos := _, after := #[{ on := 26, ground := Go.Ground.data }, { on := 29, ground := Go.Ground.data }, { on := 24, ground := Go.Ground.guard }], guard := some (24, true) } : Oper)) (v := ?_) rfl (by kernel_rfl) (by kernel_rfl) (by kernel_rfl) (fun _ _ _ h => h) (Or.inl ⟨by rfl, ?_⟩) (by assumption) ?_
          rotate_left
          · (intro w hSw; (try dsimp only at hSw); go_simp; try with_reducible rfl)
          simp only [Act.put, List.setIfInBounds_toArray, List.set_cons_zero, List.set_cons_succ]
          refine wpAnyH_take (i := 31) (oi := ({ dst := some 122, op := Go.Op.load 22 (Go.Operand.tmp 121), type := 22, pos := _, after := #[{ on := 30, ground := Go.Ground.data }, { on := 24, ground := Go.Ground.guard }], guard := some (24, true) } : Oper)) (v := ?_) rfl (by kernel_rfl) (by kernel_rfl) (by kernel_rfl) (fun _ _ _ h => h) (Or.inl ⟨by rfl, ?_⟩) (by assumption) ?_
          rotate_left
          · (intro w hSw; (try dsimp only at hSw); go_simp; try with_reducible rfl)
          simp only [Act.put, List.setIfInBounds_toArray, List.set_cons_zero, List.set_cons_succ]
          refine wpAnyH_take (i := 32) (oi := ({ dst := some 123, op := Go.Op.call { callee := Go.Callee.builtin Go.Builtin.len, args := #[Go.Operand.tmp 122], argTypes := #[22] }, type := 3, pos := _, after := #[{ on := 31, ground := Go.Ground.data }, { on := 24, ground := Go.Ground.guard }], guard := some (24, true) } : Oper)) (v := ?_) rfl (by kernel_rfl) (by kernel_rfl) (by kernel_rfl) (fun _ _ _ h => h) (Or.inl ⟨by rfl, ?_⟩) (by assumption) ?_
          rotate_left
          · (intro w hSw; (try dsimp only at hSw); go_simp; try with_reducible rfl)
          simp only [Act.put, List.setIfInBounds_toArray, List.set_cons_zero, List.set_cons_succ]
          refine wpAnyH_take (i := 33) (oi := ({ dst := some 124, op := Go.Op.fieldAddr 24 (Go.Operand.tmp 1) 0, type := 0, pos := _, after := #[{ on := 24, ground := Go.Ground.guard }], guard := some (24, true) } : Oper)) (v := ?_) rfl (by kernel_rfl) (by kernel_rfl) (by kernel_rfl) (fun _ _ _ h => h) (Or.inl ⟨by rfl, ?_⟩) (by assumption) ?_
          rotate_left
          · (intro w hSw; (try dsimp only at hSw); go_simp; try with_reducible rfl)
          simp only [Act.put, List.setIfInBounds_toArray, List.set_cons_zero, List.set_cons_succ]
          refine wpAnyH_take (i := 34) (oi := ({ dst := some 125, op := Go.Op.load 3 (Go.Operand.tmp 124), type := 3, pos := _, after := #[{ on := 33, ground := Go.Ground.data }, { on := 24, ground := Go.Ground.guard }], guard := some (24, true) } : Oper)) (v := ?_) rfl (by kernel_rfl) (by kernel_rfl) (by kernel_rfl) (fun _ _ _ h => h) (Or.inl ⟨by rfl, ?_⟩) (by assumption) ?_
          rotate_left
          · (intro w hSw; (try dsimp only at hSw); go_simp; try with_reducible rfl)
          simp only [Act.put, List.setIfInBounds_toArray, List.set_cons_zero, List.set_cons_succ]
          refine wpAnyH_take (i := 35) (oi := ({ dst := some 126, op := Go.Op.binOp Go.BinOp.eql 3 (Go.Operand.tmp 123) (Go.Operand.tmp 125) 3, type := 4, pos := _, after := #[{ on := 32, ground := Go.Ground.data }, { on := 34, ground := Go.Ground.data }, { on := 24, ground := Go.Ground.guard }], guard := some (24, true) } : Oper)) (v := .bool true) rfl (by kernel_rfl) (by kernel_rfl) (by kernel_rfl) (fun _ _ _ h => h) (Or.inl ⟨by rfl, ?_⟩) (by assumption) ?_
          · (intro w hSw; (try dsimp only at hSw); go_simp; try (first | with_reducible rfl | exact hk5 | (simp; done) | (simp; omega)))
          simp only [Act.put, List.setIfInBounds_toArray, List.set_cons_zero, List.set_cons_succ]
          refine wpAnyH_take (i := 36) (oi := ({ dst := some 127, op := Go.Op.binOp Go.BinOp.eql 4 (Go.Operand.tmp 116) (Go.Operand.tmp 126) 4, type := 4, pos := _, after := #[{ on := 25, ground := Go.Ground.data }, { on := 35, ground := Go.Ground.data }, { on := 24, ground := Go.Ground.guard }], guard := some (24, true) } : Oper)) (v := .bool true) rfl (by kernel_rfl) (by kernel_rfl) (by kernel_rfl) (fun _ _ _ h => h) (Or.inl ⟨by rfl, ?_⟩) (by assumption) ?_
          · (intro w hSw; (try dsimp only at hSw); go_simp; try (first | with_reducible rfl | exact hk5 | (simp; done) | (simp; omega)))
          simp only [Act.put, List.setIfInBounds_toArray, List.set_cons_zero, List.set_cons_succ]
          refine wpAnyH_take (i := 37) (oi := ({ dst := some 128, op := Go.Op.pick (Go.Operand.tmp 115) (Go.Operand.tmp 127) (Go.Operand.const (Go.Value.bool false)), type := 4, pos := _, after := #[{ on := 24, ground := Go.Ground.data }, { on := 36, ground := Go.Ground.data }], guard := none } : Oper)) (v := .bool true) rfl (by kernel_rfl) (by kernel_rfl) (by kernel_rfl) (fun _ _ _ h => h) (Or.inl ⟨by rfl, ?_⟩) (by assumption) ?_
          · (intro w hSw; (try dsimp only at hSw); go_simp; try (first | with_reducible rfl | exact hk5 | (simp; done) | (simp; omega)))
          simp only [Act.put, List.setIfInBounds_toArray, List.set_cons_zero, List.set_cons_succ]
          refine wpAnyH_take (i := 38) (oi := ({ dst := some 2, op := Go.Op.assign (Go.Operand.tmp 128), type := 4, pos := _, after := #[{ on := 37, ground := Go.Ground.data }, { on := 24, ground := Go.Ground.chain }, { on := 0, ground := Go.Ground.phase }, { on := 1, ground := Go.Ground.phase }, { on := 2, ground := Go.Ground.phase }, { on := 3, ground := Go.Ground.phase }, { on := 4, ground := Go.Ground.phase }, { on := 5, ground := Go.Ground.phase }, { on := 6, ground := Go.Ground.phase }, { on := 7, ground := Go.Ground.phase }, { on := 8, ground := Go.Ground.phase }, { on := 9, ground := Go.Ground.phase }, { on := 10, ground := Go.Ground.phase }, { on := 11, ground := Go.Ground.phase }, { on := 12, ground := Go.Ground.phase }, { on := 13, ground := Go.Ground.phase }, { on := 14, ground := Go.Ground.phase }, { on := 15, ground := Go.Ground.phase }, { on := 16, ground := Go.Ground.phase }, { on := 17, ground := Go.Ground.phase }, { on := 18, ground := Go.Ground.phase }, { on := 19, ground := Go.Ground.phase }, { on := 20, ground := Go.Ground.phase }, { on := 21, ground := Go.Ground.phase }, { on := 22, ground := Go.Ground.phase }, { on := 23, ground := Go.Ground.phase }, { on := 24, ground := Go.Ground.phase }, { on := 25, ground := Go.Ground.phase }, { on := 26, ground := Go.Ground.phase }, { on := 27, ground := Go.Ground.phase }, { on := 28, ground := Go.Ground.phase }, { on := 29, ground := Go.Ground.phase }, { on := 30, ground := Go.Ground.phase }, { on := 31, ground := Go.Ground.phase }, { on := 32, ground := Go.Ground.phase }, { on := 33, ground := Go.Ground.phase }, { on := 34, ground := Go.Ground.phase }, { on := 35, ground := Go.Ground.phase }, { on := 36, ground := Go.Ground.phase }, { on := 37, ground := Go.Ground.phase }], guard := none } : Oper)) (v := ?_) rfl (by kernel_rfl) (by kernel_rfl) (by kernel_rfl) (fun _ _ _ h => h) (Or.inl ⟨by rfl, ?_⟩) (by assumption) ?_
          rotate_left
          · (intro w hSw; (try dsimp only at hSw); go_simp; try with_reducible rfl)
          simp only [Act.put, List.setIfInBounds_toArray, List.set_cons_zero, List.set_cons_succ]
          refine wpAnyH_done (by kernel_rfl) ?_ _
          go_wp2
          go_ret
          exact ⟨rfl, bdrew hBr⟩
        · go_wp2_with fail
          clear x0 x1 huc
          refine wp_region_held_drew (S := (fun W => Below wr.heap.size wr W ∧ W.cell? ⟨w.heap.size, 0, none⟩ = some (.int .i64 LU) ∧ W.cell? ⟨w.heap.size, 1, none⟩ = some (.slice v1 v2 v3) ∧ W.cell? ⟨gu, KN, none⟩ = some (.slice ua LU uc))) (by kernel_rfl) hS0 (fun hHeld => ?_)
          refine wpAnyH_take (i := 0) (oi := ({ dst := some 91, op := Go.Op.move (Go.Operand.tmp 3), type := 4, pos := _, after := #[], guard := none } : Oper)) (v := ?_) rfl (by kernel_rfl) (by kernel_rfl) (by kernel_rfl) (fun _ _ _ h => h) (Or.inl ⟨by rfl, ?_⟩) (by assumption) ?_
          rotate_left
          · (intro w hSw; (try dsimp only at hSw); go_simp; try with_reducible rfl)
          simp only [Act.put, List.setIfInBounds_toArray, List.set_cons_zero, List.set_cons_succ]
          refine wpAnyH_take (i := 1) (oi := ({ dst := some 92, op := Go.Op.move (Go.Operand.tmp 11), type := 4, pos := _, after := #[], guard := none } : Oper)) (v := ?_) rfl (by kernel_rfl) (by kernel_rfl) (by kernel_rfl) (fun _ _ _ h => h) (Or.inl ⟨by rfl, ?_⟩) (by assumption) ?_
          rotate_left
          · (intro w hSw; (try dsimp only at hSw); go_simp; try with_reducible rfl)
          simp only [Act.put, List.setIfInBounds_toArray, List.set_cons_zero, List.set_cons_succ]
          refine wpAnyH_take (i := 2) (oi := ({ dst := some 93, op := Go.Op.binOp Go.BinOp.eql 4 (Go.Operand.tmp 91) (Go.Operand.tmp 92) 4, type := 4, pos := _, after := #[{ on := 0, ground := Go.Ground.data }, { on := 1, ground := Go.Ground.data }], guard := none } : Oper)) (v := .bool true) rfl (by kernel_rfl) (by kernel_rfl) (by kernel_rfl) (fun _ _ _ h => h) (Or.inl ⟨by rfl, ?_⟩) (by assumption) ?_
          · (intro w hSw; (try dsimp only at hSw); go_simp; try (first | with_reducible rfl | exact hk5 | (simp; done) | (simp; omega)))
          simp only [Act.put, List.setIfInBounds_toArray, List.set_cons_zero, List.set_cons_succ]
          refine wpAnyH_take (i := 3) (oi := ({ dst := some 94, op := Go.Op.move (Go.Operand.tmp 93), type := 4, pos := _, after := #[{ on := 2, ground := Go.Ground.data }], guard := none } : Oper)) (v := ?_) rfl (by kernel_rfl) (by kernel_rfl) (by kernel_rfl) (fun _ _ _ h => h) (Or.inl ⟨by rfl, ?_⟩) (by assumption) ?_
          rotate_left
          · (intro w hSw; (try dsimp only at hSw); go_simp; try with_reducible rfl)
          simp only [Act.put, List.setIfInBounds_toArray, List.set_cons_zero, List.set_cons_succ]
          refine wpAnyH_take (i := 4) (oi := ({ dst := some 95, op := Go.Op.move (Go.Operand.tmp 3), type := 4, pos := _, after := #[{ on := 3, ground := Go.Ground.guard }], guard := some (3, true) } : Oper)) (v := ?_) rfl (by kernel_rfl) (by kernel_rfl) (by kernel_rfl) (fun _ _ _ h => h) (Or.inl ⟨by rfl, ?_⟩) (by assumption) ?_
          rotate_left
          · (intro w hSw; (try dsimp only at hSw); go_simp; try with_reducible rfl)
          simp only [Act.put, List.setIfInBounds_toArray, List.set_cons_zero, List.set_cons_succ]
          refine wpAnyH_take (i := 5) (oi := ({ dst := some 96, op := Go.Op.unOp Go.UnOp.not 4 (Go.Operand.tmp 95), type := 4, pos := _, after := #[{ on := 4, ground := Go.Ground.data }, { on := 3, ground := Go.Ground.guard }], guard := some (3, true) } : Oper)) (v := .bool false) rfl (by kernel_rfl) (by kernel_rfl) (by kernel_rfl) (fun _ _ _ h => h) (Or.inl ⟨by rfl, ?_⟩) (by assumption) ?_
          · (intro w hSw; (try dsimp only at hSw); go_simp; try (first | with_reducible rfl | exact hk5 | (simp; done) | (simp; omega)))
          simp only [Act.put, List.setIfInBounds_toArray, List.set_cons_zero, List.set_cons_succ]
          refine wpAnyH_take (i := 6) (oi := ({ dst := some 97, op := Go.Op.move (Go.Operand.tmp 96), type := 4, pos := _, after := #[{ on := 5, ground := Go.Ground.data }, { on := 3, ground := Go.Ground.chain }, { on := 3, ground := Go.Ground.guard }], guard := some (3, true) } : Oper)) (v := .bool false) rfl (by kernel_rfl) (by kernel_rfl) (by kernel_rfl) (fun _ _ _ h => h) (Or.inl ⟨by rfl, ?_⟩) (by assumption) ?_
          · (intro w hSw; (try dsimp only at hSw); go_simp; try (first | with_reducible rfl | exact hk5 | (simp; done) | (simp; omega)))
          simp only [Act.put, List.setIfInBounds_toArray, List.set_cons_zero, List.set_cons_succ]
          refine wpAnyH_take (i := 7) (oi := ({ dst := some 98, op := Go.Op.move (Go.Operand.tmp 5), type := 25, pos := _, after := #[{ on := 6, ground := Go.Ground.guard }], guard := some (6, false) } : Oper)) (v := ?_) rfl (by kernel_rfl) (by kernel_rfl) (by kernel_rfl) (fun _ _ _ h => h) (Or.inl ⟨by rfl, ?_⟩) (by assumption) ?_
          rotate_left
          · (intro w hSw; (try dsimp only at hSw); go_simp; try with_reducible rfl)
          simp only [Act.put, List.setIfInBounds_toArray, List.set_cons_zero, List.set_cons_succ]
          refine wpAnyH_take (i := 8) (oi := ({ dst := some 99, op := Go.Op.call { callee := Go.Callee.builtin Go.Builtin.len, args := #[Go.Operand.tmp 98], argTypes := #[25] }, type := 3, pos := _, after := #[{ on := 7, ground := Go.Ground.data }, { on := 6, ground := Go.Ground.guard }], guard := some (6, false) } : Oper)) (v := ?_) rfl (by kernel_rfl) (by kernel_rfl) (by kernel_rfl) (fun _ _ _ h => h) (Or.inl ⟨by rfl, ?_⟩) (by assumption) ?_
          rotate_left
          · (intro w hSw; (try dsimp only at hSw); go_simp; try with_reducible rfl)
          simp only [Act.put, List.setIfInBounds_toArray, List.set_cons_zero, List.set_cons_succ]
          refine wpAnyH_take (i := 9) (oi := ({ dst := some 100, op := Go.Op.move (Go.Operand.tmp 7), type := 25, pos := _, after := #[{ on := 6, ground := Go.Ground.guard }], guard := some (6, false) } : Oper)) (v := ?_) rfl (by kernel_rfl) (by kernel_rfl) (by kernel_rfl) (fun _ _ _ h => h) (Or.inl ⟨by rfl, ?_⟩) (by assumption) ?_
          rotate_left
          · (intro w hSw; (try dsimp only at hSw); go_simp; try with_reducible rfl)
          simp only [Act.put, List.setIfInBounds_toArray, List.set_cons_zero, List.set_cons_succ]
          refine wpAnyH_take (i := 10) (oi := ({ dst := some 101, op := Go.Op.call { callee := Go.Callee.builtin Go.Builtin.len, args := #[Go.Operand.tmp 100], argTypes := #[25] }, type := 3, pos := _, after := #[{ on := 9, ground := Go.Ground.data }, { on := 6, ground := Go.Ground.guard }], guard := some (6, false) } : Oper)) (v := ?_) rfl (by kernel_rfl) (by kernel_rfl) (by kernel_rfl) (fun _ _ _ h => h) (Or.inl ⟨by rfl, ?_⟩) (by assumption) ?_
          rotate_left
          · (intro w hSw; (try dsimp only at hSw); go_simp; try with_reducible rfl)
          simp only [Act.put, List.setIfInBounds_toArray, List.set_cons_zero, List.set_cons_succ]
          refine wpAnyH_take (i := 11) (oi := ({ dst := some 102, op := Go.Op.binOp Go.BinOp.eql 3 (Go.Operand.tmp 99) (Go.Operand.tmp 101) 3, type := 4, pos := _, after := #[{ on := 8, ground := Go.Ground.data }, { on := 10, ground := Go.Ground.data }, { on := 6, ground := Go.Ground.guard }], guard := some (6, false) } : Oper)) (v := .bool true) rfl (by kernel_rfl) (by kernel_rfl) (by kernel_rfl) (fun _ _ _ h => h) (Or.inl ⟨by rfl, ?_⟩) (by assumption) ?_
          · (intro w hSw; (try dsimp only at hSw); go_simp; try (first | with_reducible rfl | exact hk5 | (simp; done) | (simp; omega)))
          simp only [Act.put, List.setIfInBounds_toArray, List.set_cons_zero, List.set_cons_succ]
          refine wpAnyH_take (i := 12) (oi := ({ dst := some 103, op := Go.Op.move (Go.Operand.tmp 102), type := 4, pos := _, after := #[{ on := 11, ground := Go.Ground.data }, { on := 6, ground := Go.Ground.chain }, { on := 6, ground := Go.Ground.guard }], guard := some (6, false) } : Oper)) (v := ?_) rfl (by kernel_rfl) (by kernel_rfl) (by kernel_rfl) (fun _ _ _ h => h) (Or.inl ⟨by rfl, ?_⟩) (by assumption) ?_
          rotate_left
          · (intro w hSw; (try dsimp only at hSw); go_simp; try with_reducible rfl)
          simp only [Act.put, List.setIfInBounds_toArray, List.set_cons_zero, List.set_cons_succ]
          refine wpAnyH_take (i := 13) (oi := ({ dst := some 104, op := Go.Op.move (Go.Operand.tmp 9), type := 4, pos := _, after := #[{ on := 12, ground := Go.Ground.guard }], guard := some (12, true) } : Oper)) (v := ?_) rfl (by kernel_rfl) (by kernel_rfl) (by kernel_rfl) (fun _ _ _ h => h) (Or.inl ⟨by rfl, ?_⟩) (by assumption) ?_
          rotate_left
          · (intro w hSw; (try dsimp only at hSw); go_simp; try with_reducible rfl)
          simp only [Act.put, List.setIfInBounds_toArray, List.set_cons_zero, List.set_cons_succ]
          refine wpAnyH_take (i := 14) (oi := ({ dst := some 105, op := Go.Op.pick (Go.Operand.tmp 103) (Go.Operand.tmp 104) (Go.Operand.const (Go.Value.bool false)), type := 4, pos := _, after := #[{ on := 12, ground := Go.Ground.data }, { on := 13, ground := Go.Ground.data }, { on := 6, ground := Go.Ground.guard }], guard := some (6, false) } : Oper)) (v := .bool true) rfl (by kernel_rfl) (by kernel_rfl) (by kernel_rfl) (fun _ _ _ h => h) (Or.inl ⟨by rfl, ?_⟩) (by assumption) ?_
          · (intro w hSw; (try dsimp only at hSw); go_simp; try (first | with_reducible rfl | exact hk5 | (simp; done) | (simp; omega)))
          simp only [Act.put, List.setIfInBounds_toArray, List.set_cons_zero, List.set_cons_succ]
          refine wpAnyH_take (i := 15) (oi := ({ dst := some 106, op := Go.Op.pick (Go.Operand.tmp 97) (Go.Operand.const (Go.Value.bool true)) (Go.Operand.tmp 105), type := 4, pos := _, after := #[{ on := 6, ground := Go.Ground.data }, { on := 14, ground := Go.Ground.data }, { on := 3, ground := Go.Ground.guard }], guard := some (3, true) } : Oper)) (v := .bool true) rfl (by kernel_rfl) (by kernel_rfl) (by kernel_rfl) (fun _ _ _ h => h) (Or.inl ⟨by rfl, ?_⟩) (by assumption) ?_
          · (intro w hSw; (try dsimp only at hSw); go_simp; try (first | with_reducible rfl | exact hk5 | (simp; done) | (simp; omega)))
          simp only [Act.put, List.setIfInBounds_toArray, List.set_cons_zero, List.set_cons_succ]
          refine wpAnyH_take (i := 16) (oi := ({ dst := some 107, op := Go.Op.pick (Go.Operand.tmp 94) (Go.Operand.tmp 106) (Go.Operand.const (Go.Value.bool false)), type := 4, pos := _, after := #[{ on := 3, ground := Go.Ground.data }, { on := 15, ground := Go.Ground.data }], guard := none } : Oper)) (v := .bool true) rfl (by kernel_rfl) (by kernel_rfl) (by kernel_rfl) (fun _ _ _ h => h) (Or.inl ⟨by rfl, ?_⟩) (by assumption) ?_
          · (intro w hSw; (try dsimp only at hSw); go_simp; try (first | with_reducible rfl | exact hk5 | (simp; done) | (simp; omega)))
          simp only [Act.put, List.setIfInBounds_toArray, List.set_cons_zero, List.set_cons_succ]
          refine wpAnyH_take (i := 17) (oi := ({ dst := some 108, op := Go.Op.move (Go.Operand.tmp 107), type := 4, pos := _, after := #[{ on := 16, ground := Go.Ground.data }, { on := 12, ground := Go.Ground.chain }], guard := none } : Oper)) (v := ?_) rfl (by kernel_rfl) (by kernel_rfl) (by kernel_rfl) (fun _ _ _ h => h) (Or.inl ⟨by rfl, ?_⟩) (by assumption) ?_
          rotate_left
          · (intro w hSw; (try dsimp only at hSw); go_simp; try with_reducible rfl)
          simp only [Act.put, List.setIfInBounds_toArray, List.set_cons_zero, List.set_cons_succ]
          refine wpAnyH_take (i := 18) (oi := ({ dst := some 109, op := Go.Op.move (Go.Operand.tmp 12), type := 3, pos := _, after := #[{ on := 17, ground := Go.Ground.guard }], guard := some (17, true) } : Oper)) (v := ?_) rfl (by kernel_rfl) (by kernel_rfl) (by kernel_rfl) (fun _ _ _ h => h) (Or.inl ⟨by rfl, ?_⟩) (by assumption) ?_
          rotate_left
          · (intro w hSw; (try dsimp only at hSw); go_simp; try with_reducible rfl)
          simp only [Act.put, List.setIfInBounds_toArray, List.set_cons_zero, List.set_cons_succ]
          refine wpAnyH_take (i := 19) (oi := ({ dst := some 110, op := Go.Op.binOp Go.BinOp.gtr 3 (Go.Operand.tmp 109) (Go.Operand.const (Go.Value.int Go.IntKind.i64 1)) 3, type := 4, pos := _, after := #[{ on := 18, ground := Go.Ground.data }, { on := 17, ground := Go.Ground.guard }], guard := some (17, true) } : Oper)) (v := .bool false) rfl (by kernel_rfl) (by kernel_rfl) (by kernel_rfl) (fun _ _ _ h => h) (Or.inl ⟨by rfl, ?_⟩) (by assumption) ?_
          · (intro w hSw; (try dsimp only at hSw); go_simp; try (first | with_reducible rfl | exact hk5 | (simp; done) | (simp; omega)))
          simp only [Act.put, List.setIfInBounds_toArray, List.set_cons_zero, List.set_cons_succ]
          refine wpAnyH_take (i := 20) (oi := ({ dst := some 111, op := Go.Op.move (Go.Operand.tmp 110), type := 4, pos := _, after := #[{ on := 19, ground := Go.Ground.data }, { on := 17, ground := Go.Ground.chain }, { on := 17, ground := Go.Ground.guard }], guard := some (17, true) } : Oper)) (v := .bool false) rfl (by kernel_rfl) (by kernel_rfl) (by kernel_rfl) (fun _ _ _ h => h) (Or.inl ⟨by rfl, ?_⟩) (by assumption) ?_
          · (intro w hSw; (try dsimp only at hSw); go_simp; try (first | with_reducible rfl | exact hk5 | (simp; done) | (simp; omega)))
          simp only [Act.put, List.setIfInBounds_toArray, List.set_cons_zero, List.set_cons_succ]
          refine wpAnyH_take (i := 21) (oi := ({ dst := some 112, op := Go.Op.move (Go.Operand.tmp 3), type := 4, pos := _, after := #[{ on := 20, ground := Go.Ground.guard }], guard := some (20, false) } : Oper)) (v := ?_) rfl (by kernel_rfl) (by kernel_rfl) (by kernel_rfl) (fun _ _ _ h => h) (Or.inl ⟨by rfl, ?_⟩) (by assumption) ?_
          rotate_left
          · (intro w hSw; (try dsimp only at hSw); go_simp; try with_reducible rfl)
          simp only [Act.put, List.setIfInBounds_toArray, List.set_cons_zero, List.set_cons_succ]
          refine wpAnyH_take (i := 22) (oi := ({ dst := some 113, op := Go.Op.pick (Go.Operand.tmp 111) (Go.Operand.const (Go.Value.bool true)) (Go.Operand.tmp 112), type := 4, pos := _, after := #[{ on := 20, ground := Go.Ground.data }, { on := 21, ground := Go.Ground.data }, { on := 17, ground := Go.Ground.guard }], guard := some (17, true) } : Oper)) (v := .bool true) rfl (by kernel_rfl) (by kernel_rfl) (by kernel_rfl) (fun _ _ _ h => h) (Or.inl ⟨by rfl, ?_⟩) (by assumption) ?_
          · (intro w hSw; (try dsimp only at hSw); go_simp; try (first | with_reducible rfl | exact hk5 | (simp; done) | (simp; omega)))
          simp only [Act.put, List.setIfInBounds_toArray, List.set_cons_zero, List.set_cons_succ]
          refine wpAnyH_take (i := 23) (oi := ({ dst := some 114, op := Go.Op.pick (Go.Operand.tmp 108) (Go.Operand.tmp 113) (Go.Operand.const (Go.Value.bool false)), type := 4, pos := _, after := #[{ on := 17, ground := Go.Ground.data }, { on := 22, ground := Go.Ground.data }], guard := none } : Oper)) (v := .bool true) rfl (by kernel_rfl) (by kernel_rfl) (by kernel_rfl) (fun _ _ _ h => h) (Or.inl ⟨by rfl, ?_⟩) (by assumption) ?_
          · (intro w hSw; (try dsimp only at hSw); go_simp; try (first | with_reducible rfl | exact hk5 | (simp; done) | (simp; omega)))
          simp only [Act.put, List.setIfInBounds_toArray, List.set_cons_zero, List.set_cons_succ]
          refine wpAnyH_take (i := 24) (oi := ({ dst := some 115, op := Go.Op.move (Go.Operand.tmp 114), type := 4, pos := _, after := #[{ on := 23, ground := Go.Ground.data }, { on := 20, ground := Go.Ground.chain }], guard := none } : Oper)) (v := ?_) rfl (by kernel_rfl) (by kernel_rfl) (by kernel_rfl) (fun _ _ _ h => h) (Or.inl ⟨by rfl, ?_⟩) (by assumption) ?_
          rotate_left
          · (intro w hSw; (try dsimp only at hSw); go_simp; try with_reducible rfl)
          simp only [Act.put, List.setIfInBounds_toArray, List.set_cons_zero, List.set_cons_succ]
          refine wpAnyH_take (i := 25) (oi := ({ dst := some 116, op := Go.Op.move (Go.Operand.tmp 3), type := 4, pos := _, after := #[{ on := 24, ground := Go.Ground.guard }], guard := some (24, true) } : Oper)) (v := ?_) rfl (by kernel_rfl) (by kernel_rfl) (by kernel_rfl) (fun _ _ _ h => h) (Or.inl ⟨by rfl, ?_⟩) (by assumption) ?_
          rotate_left
          · (intro w hSw; (try dsimp only at hSw); go_simp; try with_reducible rfl)
          simp only [Act.put, List.setIfInBounds_toArray, List.set_cons_zero, List.set_cons_succ]
          refine wpAnyH_take (i := 26) (oi := ({ dst := some 117, op := Go.Op.move (Go.Operand.tmp 7), type := 25, pos := _, after := #[{ on := 24, ground := Go.Ground.guard }], guard := some (24, true) } : Oper)) (v := ?_) rfl (by kernel_rfl) (by kernel_rfl) (by kernel_rfl) (fun _ _ _ h => h) (Or.inl ⟨by rfl, ?_⟩) (by assumption) ?_
          rotate_left
          · (intro w hSw; (try dsimp only at hSw); go_simp; try with_reducible rfl)
          simp only [Act.put, List.setIfInBounds_toArray, List.set_cons_zero, List.set_cons_succ]
          refine wpAnyH_take (i := 27) (oi := ({ dst := some 118, op := Go.Op.move (Go.Operand.tmp 7), type := 25, pos := _, after := #[{ on := 24, ground := Go.Ground.guard }], guard := some (24, true) } : Oper)) (v := ?_) rfl (by kernel_rfl) (by kernel_rfl) (by kernel_rfl) (fun _ _ _ h => h) (Or.inl ⟨by rfl, ?_⟩) (by assumption) ?_
          rotate_left
          · (intro w hSw; (try dsimp only at hSw); go_simp; try with_reducible rfl)
          simp only [Act.put, List.setIfInBounds_toArray, List.set_cons_zero, List.set_cons_succ]
          refine wpAnyH_take (i := 28) (oi := ({ dst := some 119, op := Go.Op.call { callee := Go.Callee.builtin Go.Builtin.len, args := #[Go.Operand.tmp 118], argTypes := #[25] }, type := 3, pos := _, after := #[{ on := 27, ground := Go.Ground.data }, { on := 24, ground := Go.Ground.guard }], guard := some (24, true) } : Oper)) (v := ?_) rfl (by kernel_rfl) (by kernel_rfl) (by kernel_rfl) (fun _ _ _ h => h) (Or.inl ⟨by rfl, ?_⟩) (by assumption) ?_
          rotate_left
          · (intro w hSw; (try dsimp only at hSw); go_simp; try with_reducible rfl)
          simp only [Act.put, List.setIfInBounds_toArray, List.set_cons_zero, List.set_cons_succ]
          refine wpAnyH_take (i := 29) (oi := ({ dst := some 120, op := Go.Op.binOp Go.BinOp.sub 3 (Go.Operand.tmp 119) (Go.Operand.const (Go.Value.int Go.IntKind.i64 1)) 3, type := 3, pos := _, after := #[{ on := 28, ground := Go.Ground.data }, { on := 24, ground := Go.Ground.guard }], guard := some (24, true) } : Oper)) (v := .int .i64 KN) rfl (by kernel_rfl) (by kernel_rfl) (by kernel_rfl) (fun _ _ _ h => h) (Or.inl ⟨by rfl, ?_⟩) (by assumption) ?_
          · (intro w hSw; (try dsimp only at hSw); go_simp; try (first | with_reducible rfl | exact hk5 | (simp; done) | (simp; omega)))
          simp only [Act.put, List.setIfInBounds_toArray, List.set_cons_zero, List.set_cons_succ]
          refine wpAnyH_take (i := 30) (oi := ({ dst := some 121, op := Go.Op.indexAddr 25 (Go.Operand.tmp 117) (Go.Operand.tmp 120), type := 0, pos := _, after := #[{ on := 26, ground := Go.Ground.data }, { on := 29, ground := Go.Ground.data }, { on := 24, ground := Go.Ground.guard }], guard := some (24, true) } : Oper)) (v := ?_) rfl (by kernel_rfl) (by kernel_rfl) (by kernel_rfl) (fun _ _ _ h => h) (Or.inl ⟨by rfl, ?_⟩) (by assumption) ?_
          rotate_left
          · (intro w hSw; (try dsimp only at hSw); go_simp; try with_reducible rfl)
          simp only [Act.put, List.setIfInBounds_toArray, List.set_cons_zero, List.set_cons_succ]
          refine wpAnyH_take (i := 31) (oi := ({ dst := some 122, op := Go.Op.load 22 (Go.Operand.tmp 121), type := 22, pos := _, after := #[{ on := 30, ground := Go.Ground.data }, { on := 24, ground := Go.Ground.guard }], guard := some (24, true) } : Oper)) (v := ?_) rfl (by kernel_rfl) (by kernel_rfl) (by kernel_rfl) (fun _ _ _ h => h) (Or.inl ⟨by rfl, ?_⟩) (by assumption) ?_
          rotate_left
          · (intro w hSw; (try dsimp only at hSw); go_simp; try with_reducible rfl)
          simp only [Act.put, List.setIfInBounds_toArray, List.set_cons_zero, List.set_cons_succ]
          refine wpAnyH_take (i := 32) (oi := ({ dst := some 123, op := Go.Op.call { callee := Go.Callee.builtin Go.Builtin.len, args := #[Go.Operand.tmp 122], argTypes := #[22] }, type := 3, pos := _, after := #[{ on := 31, ground := Go.Ground.data }, { on := 24, ground := Go.Ground.guard }], guard := some (24, true) } : Oper)) (v := ?_) rfl (by kernel_rfl) (by kernel_rfl) (by kernel_rfl) (fun _ _ _ h => h) (Or.inl ⟨by rfl, ?_⟩) (by assumption) ?_
          rotate_left
          · (intro w hSw; (try dsimp only at hSw); go_simp; try with_reducible rfl)
          simp only [Act.put, List.setIfInBounds_toArray, List.set_cons_zero, List.set_cons_succ]
          refine wpAnyH_take (i := 33) (oi := ({ dst := some 124, op := Go.Op.fieldAddr 24 (Go.Operand.tmp 1) 0, type := 0, pos := _, after := #[{ on := 24, ground := Go.Ground.guard }], guard := some (24, true) } : Oper)) (v := ?_) rfl (by kernel_rfl) (by kernel_rfl) (by kernel_rfl) (fun _ _ _ h => h) (Or.inl ⟨by rfl, ?_⟩) (by assumption) ?_
          rotate_left
          · (intro w hSw; (try dsimp only at hSw); go_simp; try with_reducible rfl)
          simp only [Act.put, List.setIfInBounds_toArray, List.set_cons_zero, List.set_cons_succ]
          refine wpAnyH_take (i := 34) (oi := ({ dst := some 125, op := Go.Op.load 3 (Go.Operand.tmp 124), type := 3, pos := _, after := #[{ on := 33, ground := Go.Ground.data }, { on := 24, ground := Go.Ground.guard }], guard := some (24, true) } : Oper)) (v := ?_) rfl (by kernel_rfl) (by kernel_rfl) (by kernel_rfl) (fun _ _ _ h => h) (Or.inl ⟨by rfl, ?_⟩) (by assumption) ?_
          rotate_left
          · (intro w hSw; (try dsimp only at hSw); go_simp; try with_reducible rfl)
          simp only [Act.put, List.setIfInBounds_toArray, List.set_cons_zero, List.set_cons_succ]
          refine wpAnyH_take (i := 35) (oi := ({ dst := some 126, op := Go.Op.binOp Go.BinOp.eql 3 (Go.Operand.tmp 123) (Go.Operand.tmp 125) 3, type := 4, pos := _, after := #[{ on := 32, ground := Go.Ground.data }, { on := 34, ground := Go.Ground.data }, { on := 24, ground := Go.Ground.guard }], guard := some (24, true) } : Oper)) (v := .bool true) rfl (by kernel_rfl) (by kernel_rfl) (by kernel_rfl) (fun _ _ _ h => h) (Or.inl ⟨by rfl, ?_⟩) (by assumption) ?_
          · (intro w hSw; (try dsimp only at hSw); go_simp; try (first | with_reducible rfl | exact hk5 | (simp; done) | (simp; omega)))
          simp only [Act.put, List.setIfInBounds_toArray, List.set_cons_zero, List.set_cons_succ]
          refine wpAnyH_take (i := 36) (oi := ({ dst := some 127, op := Go.Op.binOp Go.BinOp.eql 4 (Go.Operand.tmp 116) (Go.Operand.tmp 126) 4, type := 4, pos := _, after := #[{ on := 25, ground := Go.Ground.data }, { on := 35, ground := Go.Ground.data }, { on := 24, ground := Go.Ground.guard }], guard := some (24, true) } : Oper)) (v := .bool true) rfl (by kernel_rfl) (by kernel_rfl) (by kernel_rfl) (fun _ _ _ h => h) (Or.inl ⟨by rfl, ?_⟩) (by assumption) ?_
          · (intro w hSw; (try dsimp only at hSw); go_simp; try (first | with_reducible rfl | exact hk5 | (simp; done) | (simp; omega)))
          simp only [Act.put, List.setIfInBounds_toArray, List.set_cons_zero, List.set_cons_succ]
          refine wpAnyH_take (i := 37) (oi := ({ dst := some 128, op := Go.Op.pick (Go.Operand.tmp 115) (Go.Operand.tmp 127) (Go.Operand.const (Go.Value.bool false)), type := 4, pos := _, after := #[{ on := 24, ground := Go.Ground.data }, { on := 36, ground := Go.Ground.data }], guard := none } : Oper)) (v := .bool true) rfl (by kernel_rfl) (by kernel_rfl) (by kernel_rfl) (fun _ _ _ h => h) (Or.inl ⟨by rfl, ?_⟩) (by assumption) ?_
          · (intro w hSw; (try dsimp only at hSw); go_simp; try (first | with_reducible rfl | exact hk5 | (simp; done) | (simp; omega)))
          simp only [Act.put, List.setIfInBounds_toArray, List.set_cons_zero, List.set_cons_succ]
          refine wpAnyH_take (i := 38) (oi := ({ dst := some 2, op := Go.Op.assign (Go.Operand.tmp 128), type := 4, pos := _, after := #[{ on := 37, ground := Go.Ground.data }, { on := 24, ground := Go.Ground.chain }, { on := 0, ground := Go.Ground.phase }, { on := 1, ground := Go.Ground.phase }, { on := 2, ground := Go.Ground.phase }, { on := 3, ground := Go.Ground.phase }, { on := 4, ground := Go.Ground.phase }, { on := 5, ground := Go.Ground.phase }, { on := 6, ground := Go.Ground.phase }, { on := 7, ground := Go.Ground.phase }, { on := 8, ground := Go.Ground.phase }, { on := 9, ground := Go.Ground.phase }, { on := 10, ground := Go.Ground.phase }, { on := 11, ground := Go.Ground.phase }, { on := 12, ground := Go.Ground.phase }, { on := 13, ground := Go.Ground.phase }, { on := 14, ground := Go.Ground.phase }, { on := 15, ground := Go.Ground.phase }, { on := 16, ground := Go.Ground.phase }, { on := 17, ground := Go.Ground.phase }, { on := 18, ground := Go.Ground.phase }, { on := 19, ground := Go.Ground.phase }, { on := 20, ground := Go.Ground.phase }, { on := 21, ground := Go.Ground.phase }, { on := 22, ground := Go.Ground.phase }, { on := 23, ground := Go.Ground.phase }, { on := 24, ground := Go.Ground.phase }, { on := 25, ground := Go.Ground.phase }, { on := 26, ground := Go.Ground.phase }, { on := 27, ground := Go.Ground.phase }, { on := 28, ground := Go.Ground.phase }, { on := 29, ground := Go.Ground.phase }, { on := 30, ground := Go.Ground.phase }, { on := 31, ground := Go.Ground.phase }, { on := 32, ground := Go.Ground.phase }, { on := 33, ground := Go.Ground.phase }, { on := 34, ground := Go.Ground.phase }, { on := 35, ground := Go.Ground.phase }, { on := 36, ground := Go.Ground.phase }, { on := 37, ground := Go.Ground.phase }], guard := none } : Oper)) (v := ?_) rfl (by kernel_rfl) (by kernel_rfl) (by kernel_rfl) (fun _ _ _ h => h) (Or.inl ⟨by rfl, ?_⟩) (by assumption) ?_
          rotate_left
          · (intro w hSw; (try dsimp only at hSw); go_simp; try with_reducible rfl)
          simp only [Act.put, List.setIfInBounds_toArray, List.set_cons_zero, List.set_cons_succ]
          refine wpAnyH_done (by kernel_rfl) ?_ _
          go_wp2
          go_ret
          exact ⟨rfl, bdrew hBr⟩
      | false =>
        have hC2 : 1 < (C9 : Int) := by
          rcases e3 with h9 | h9
          · omega
          · cases h9
        have hLn : ¬ ((LU : Int) = (n : Int)) := by
          intro h9
          rw [h9, beq_self_eq_true] at e4
          cases e4
        clear e2 e3 e4
        go_wp2_with fail
        clear x0 x1 huc
        refine wp_region_held_drew (S := (fun W => Below wr.heap.size wr W ∧ W.cell? ⟨w.heap.size, 0, none⟩ = some (.int .i64 n) ∧ W.cell? ⟨w.heap.size, 1, none⟩ = some (.slice v1 v2 v3) ∧ W.cell? ⟨gu, KU, none⟩ = some (.slice ua LU uc))) (by kernel_rfl) hS0 (fun hHeld => ?_)
        refine wpAnyH_take (i := 0) (oi := ({ dst := some 91, op := Go.Op.move (Go.Operand.tmp 3), type := 4, pos := _, after := #[], guard := none } : Oper)) (v := ?_) rfl (by kernel_rfl) (by kernel_rfl) (by kernel_rfl) (fun _ _ _ h => h) (Or.inl ⟨by rfl, ?_⟩) (by assumption) ?_
        rotate_left
        · (intro w hSw; (try dsimp only at hSw); go_simp; try with_reducible rfl)
        simp only [Act.put, List.setIfInBounds_toArray, List.set_cons_zero, List.set_cons_succ]
        refine wpAnyH_take (i := 1) (oi := ({ dst := some 92, op := Go.Op.move (Go.Operand.tmp 11), type := 4, pos := _, after := #[], guard := none } : Oper)) (v := ?_) rfl (by kernel_rfl) (by kernel_rfl) (by kernel_rfl) (fun _ _ _ h => h) (Or.inl ⟨by rfl, ?_⟩) (by assumption) ?_
        rotate_left
        · (intro w hSw; (try dsimp only at hSw); go_simp; try with_reducible rfl)
        simp only [Act.put, List.setIfInBounds_toArray, List.set_cons_zero, List.set_cons_succ]
        refine wpAnyH_take (i := 2) (oi := ({ dst := some 93, op := Go.Op.binOp Go.BinOp.eql 4 (Go.Operand.tmp 91) (Go.Operand.tmp 92) 4, type := 4, pos := _, after := #[{ on := 0, ground := Go.Ground.data }, { on := 1, ground := Go.Ground.data }], guard := none } : Oper)) (v := .bool true) rfl (by kernel_rfl) (by kernel_rfl) (by kernel_rfl) (fun _ _ _ h => h) (Or.inl ⟨by rfl, ?_⟩) (by assumption) ?_
        · (intro w hSw; (try dsimp only at hSw); go_simp; try (first | with_reducible rfl | exact hk5 | (simp; done) | (simp; omega)))
        simp only [Act.put, List.setIfInBounds_toArray, List.set_cons_zero, List.set_cons_succ]
        refine wpAnyH_take (i := 3) (oi := ({ dst := some 94, op := Go.Op.move (Go.Operand.tmp 93), type := 4, pos := _, after := #[{ on := 2, ground := Go.Ground.data }], guard := none } : Oper)) (v := ?_) rfl (by kernel_rfl) (by kernel_rfl) (by kernel_rfl) (fun _ _ _ h => h) (Or.inl ⟨by rfl, ?_⟩) (by assumption) ?_
        rotate_left
        · (intro w hSw; (try dsimp only at hSw); go_simp; try with_reducible rfl)
        simp only [Act.put, List.setIfInBounds_toArray, List.set_cons_zero, List.set_cons_succ]
        refine wpAnyH_take (i := 4) (oi := ({ dst := some 95, op := Go.Op.move (Go.Operand.tmp 3), type := 4, pos := _, after := #[{ on := 3, ground := Go.Ground.guard }], guard := some (3, true) } : Oper)) (v := ?_) rfl (by kernel_rfl) (by kernel_rfl) (by kernel_rfl) (fun _ _ _ h => h) (Or.inl ⟨by rfl, ?_⟩) (by assumption) ?_
        rotate_left
        · (intro w hSw; (try dsimp only at hSw); go_simp; try with_reducible rfl)
        simp only [Act.put, List.setIfInBounds_toArray, List.set_cons_zero, List.set_cons_succ]
        refine wpAnyH_take (i := 5) (oi := ({ dst := some 96, op := Go.Op.unOp Go.UnOp.not 4 (Go.Operand.tmp 95), type := 4, pos := _, after := #[{ on := 4, ground := Go.Ground.data }, { on := 3, ground := Go.Ground.guard }], guard := some (3, true) } : Oper)) (v := .bool true) rfl (by kernel_rfl) (by kernel_rfl) (by kernel_rfl) (fun _ _ _ h => h) (Or.inl ⟨by rfl, ?_⟩) (by assumption) ?_
        · (intro w hSw; (try dsimp only at hSw); go_simp; try (first | with_reducible rfl | exact hk5 | (simp; done) | (simp; omega)))
        simp only [Act.put, List.setIfInBounds_toArray, List.set_cons_zero, List.set_cons_succ]
        refine wpAnyH_take (i := 6) (oi := ({ dst := some 97, op := Go.Op.move (Go.Operand.tmp 96), type := 4, pos := _, after := #[{ on := 5, ground := Go.Ground.data }, { on := 3, ground := Go.Ground.chain }, { on := 3, ground := Go.Ground.guard }], guard := some (3, true) } : Oper)) (v := .bool true) rfl (by kernel_rfl) (by kernel_rfl) (by kernel_rfl) (fun _ _ _ h => h) (Or.inl ⟨by rfl, ?_⟩) (by assumption) ?_
        · (intro w hSw; (try dsimp only at hSw); go_simp; try (first | with_reducible rfl | exact hk5 | (simp; done) | (simp; omega)))
        simp only [Act.put, List.setIfInBounds_toArray, List.set_cons_zero, List.set_cons_succ]
        refine wpAnyH_take (i := 7) (oi := ({ dst := some 98, op := Go.Op.move (Go.Operand.tmp 5), type := 25, pos := _, after := #[{ on := 6, ground := Go.Ground.guard }], guard := some (6, false) } : Oper)) (v := undef) rfl (by kernel_rfl) (by kernel_rfl) (by kernel_rfl) (fun _ _ _ h => h) (Or.inr ⟨by rfl, rfl⟩) (by assumption) ?_
        simp only [Act.put, List.setIfInBounds_toArray, List.set_cons_zero, List.set_cons_succ]
        refine wpAnyH_take (i := 8) (oi := ({ dst := some 99, op := Go.Op.call { callee := Go.Callee.builtin Go.Builtin.len, args := #[Go.Operand.tmp 98], argTypes := #[25] }, type := 3, pos := _, after := #[{ on := 7, ground := Go.Ground.data }, { on := 6, ground := Go.Ground.guard }], guard := some (6, false) } : Oper)) (v := undef) rfl (by kernel_rfl) (by kernel_rfl) (by kernel_rfl) (fun _ _ _ h => h) (Or.inr ⟨by rfl, rfl⟩) (by assumption) ?_
        simp only [Act.put, List.setIfInBounds_toArray, List.set_cons_zero, List.set_cons_succ]
        refine wpAnyH_take (i := 9) (oi := ({ dst := some 100, op := Go.Op.move (Go.Operand.tmp 7), type := 25, pos := _, after := #[{ on := 6, ground := Go.Ground.guard }], guard := some (6, false) } : Oper)) (v := undef) rfl (by kernel_rfl) (by kernel_rfl) (by kernel_rfl) (fun _ _ _ h => h) (Or.inr ⟨by rfl, rfl⟩) (by assumption) ?_
        simp only [Act.put, List.setIfInBounds_toArray, List.set_cons_zero, List.set_cons_succ]
        refine wpAnyH_take (i := 10) (oi := ({ dst := some 101, op := Go.Op.call { callee := Go.Callee.builtin Go.Builtin.len, args := #[Go.Operand.tmp 100], argTypes := #[25] }, type := 3, pos := _, after := #[{ on := 9, ground := Go.Ground.data }, { on := 6, ground := Go.Ground.guard }], guard := some (6, false) } : Oper)) (v := undef) rfl (by kernel_rfl) (by kernel_rfl) (by kernel_rfl) (fun _ _ _ h => h) (Or.inr ⟨by rfl, rfl⟩) (by assumption) ?_
        simp only [Act.put, List.setIfInBounds_toArray, List.set_cons_zero, List.set_cons_succ]
        refine wpAnyH_take (i := 11) (oi := ({ dst := some 102, op := Go.Op.binOp Go.BinOp.eql 3 (Go.Operand.tmp 99) (Go.Operand.tmp 101) 3, type := 4, pos := _, after := #[{ on := 8, ground := Go.Ground.data }, { on := 10, ground := Go.Ground.data }, { on := 6, ground := Go.Ground.guard }], guard := some (6, false) } : Oper)) (v := undef) rfl (by kernel_rfl) (by kernel_rfl) (by kernel_rfl) (fun _ _ _ h => h) (Or.inr ⟨by rfl, rfl⟩) (by assumption) ?_
        simp only [Act.put, List.setIfInBounds_toArray, List.set_cons_zero, List.set_cons_succ]
        refine wpAnyH_take (i := 12) (oi := ({ dst := some 103, op := Go.Op.move (Go.Operand.tmp 102), type := 4, pos := _, after := #[{ on := 11, ground := Go.Ground.data }, { on := 6, ground := Go.Ground.chain }, { on := 6, ground := Go.Ground.guard }], guard := some (6, false) } : Oper)) (v := undef) rfl (by kernel_rfl) (by kernel_rfl) (by kernel_rfl) (fun _ _ _ h => h) (Or.inr ⟨by rfl, rfl⟩) (by assumption) ?_
        simp only [Act.put, List.setIfInBounds_toArray, List.set_cons_zero, List.set_cons_succ]
        refine wpAnyH_take (i := 13) (oi := ({ dst := some 104, op := Go.Op.move (Go.Operand.tmp 9), type := 4, pos := _, after := #[{ on := 12, ground := Go.Ground.guard }], guard := some (12, true) } : Oper)) (v := undef) rfl (by kernel_rfl) (by kernel_rfl) (by kernel_rfl) (fun _ _ _ h => h) (Or.inr ⟨by rfl, rfl⟩) (by assumption) ?_
        simp only [Act.put, List.setIfInBounds_toArray, List.set_cons_zero, List.set_cons_succ]
        refine wpAnyH_take (i := 14) (oi := ({ dst := some 105, op := Go.Op.pick (Go.Operand.tmp 103) (Go.Operand.tmp 104) (Go.Operand.const (Go.Value.bool false)), type := 4, pos := _, after := #[{ on := 12, ground := Go.Ground.data }, { on := 13, ground := Go.Ground.data }, { on := 6, ground := Go.Ground.guard }], guard := some (6, false) } : Oper)) (v := undef) rfl (by kernel_rfl) (by kernel_rfl) (by kernel_rfl) (fun _ _ _ h => h) (Or.inr ⟨by rfl, rfl⟩) (by assumption) ?_
        simp only [Act.put, List.setIfInBounds_toArray, List.set_cons_zero, List.set_cons_succ]
        refine wpAnyH_take (i := 15) (oi := ({ dst := some 106, op := Go.Op.pick (Go.Operand.tmp 97) (Go.Operand.const (Go.Value.bool true)) (Go.Operand.tmp 105), type := 4, pos := _, after := #[{ on := 6, ground := Go.Ground.data }, { on := 14, ground := Go.Ground.data }, { on := 3, ground := Go.Ground.guard }], guard := some (3, true) } : Oper)) (v := .bool true) rfl (by kernel_rfl) (by kernel_rfl) (by kernel_rfl) (fun _ _ _ h => h) (Or.inl ⟨by rfl, ?_⟩) (by assumption) ?_
        · (intro w hSw; (try dsimp only at hSw); go_simp; try (first | with_reducible rfl | exact hk5 | (simp; done) | (simp; omega)))
        simp only [Act.put, List.setIfInBounds_toArray, List.set_cons_zero, List.set_cons_succ]
        refine wpAnyH_take (i := 16) (oi := ({ dst := some 107, op := Go.Op.pick (Go.Operand.tmp 94) (Go.Operand.tmp 106) (Go.Operand.const (Go.Value.bool false)), type := 4, pos := _, after := #[{ on := 3, ground := Go.Ground.data }, { on := 15, ground := Go.Ground.data }], guard := none } : Oper)) (v := .bool true) rfl (by kernel_rfl) (by kernel_rfl) (by kernel_rfl) (fun _ _ _ h => h) (Or.inl ⟨by rfl, ?_⟩) (by assumption) ?_
        · (intro w hSw; (try dsimp only at hSw); go_simp; try (first | with_reducible rfl | exact hk5 | (simp; done) | (simp; omega)))
        simp only [Act.put, List.setIfInBounds_toArray, List.set_cons_zero, List.set_cons_succ]
        refine wpAnyH_take (i := 17) (oi := ({ dst := some 108, op := Go.Op.move (Go.Operand.tmp 107), type := 4, pos := _, after := #[{ on := 16, ground := Go.Ground.data }, { on := 12, ground := Go.Ground.chain }], guard := none } : Oper)) (v := ?_) rfl (by kernel_rfl) (by kernel_rfl) (by kernel_rfl) (fun _ _ _ h => h) (Or.inl ⟨by rfl, ?_⟩) (by assumption) ?_
        rotate_left
        · (intro w hSw; (try dsimp only at hSw); go_simp; try with_reducible rfl)
        simp only [Act.put, List.setIfInBounds_toArray, List.set_cons_zero, List.set_cons_succ]
        refine wpAnyH_take (i := 18) (oi := ({ dst := some 109, op := Go.Op.move (Go.Operand.tmp 12), type := 3, pos := _, after := #[{ on := 17, ground := Go.Ground.guard }], guard := some (17, true) } : Oper)) (v := ?_) rfl (by kernel_rfl) (by kernel_rfl) (by kernel_rfl) (fun _ _ _ h => h) (Or.inl ⟨by rfl, ?_⟩) (by assumption) ?_
        rotate_left
        · (intro w hSw; (try dsimp only at hSw); go_simp; try with_reducible rfl)
        simp only [Act.put, List.setIfInBounds_toArray, List.set_cons_zero, List.set_cons_succ]
        refine wpAnyH_take (i := 19) (oi := ({ dst := some 110, op := Go.Op.binOp Go.BinOp.gtr 3 (Go.Operand.tmp 109) (Go.Operand.const (Go.Value.int Go.IntKind.i64 1)) 3, type := 4, pos := _, after := #[{ on := 18, ground := Go.Ground.data }, { on := 17, ground := Go.Ground.guard }], guard := some (17, true) } : Oper)) (v := .bool true) rfl (by kernel_rfl) (by kernel_rfl) (by kernel_rfl) (fun _ _ _ h => h) (Or.inl ⟨by rfl, ?_⟩) (by assumption) ?_
        · (intro w hSw; (try dsimp only at hSw); go_simp; try (first | with_reducible rfl | exact hk5 | (simp; done) | (simp; omega)))
        simp only [Act.put, List.setIfInBounds_toArray, List.set_cons_zero, List.set_cons_succ]
        refine wpAnyH_take (i := 20) (oi := ({ dst := some 111, op := Go.Op.move (Go.Operand.tmp 110), type := 4, pos := _, after := #[{ on := 19, ground := Go.Ground.data }, { on := 17, ground := Go.Ground.chain }, { on := 17, ground := Go.Ground.guard }], guard := some (17, true) } : Oper)) (v := .bool true) rfl (by kernel_rfl) (by kernel_rfl) (by kernel_rfl) (fun _ _ _ h => h) (Or.inl ⟨by rfl, ?_⟩) (by assumption) ?_
        · (intro w hSw; (try dsimp only at hSw); go_simp; try (first | with_reducible rfl | exact hk5 | (simp; done) | (simp; omega)))
        simp only [Act.put, List.setIfInBounds_toArray, List.set_cons_zero, List.set_cons_succ]
        refine wpAnyH_take (i := 21) (oi := ({ dst := some 112, op := Go.Op.move (Go.Operand.tmp 3), type := 4, pos := _, after := #[{ on := 20, ground := Go.Ground.guard }], guard := some (20, false) } : Oper)) (v := undef) rfl (by kernel_rfl) (by kernel_rfl) (by kernel_rfl) (fun _ _ _ h => h) (Or.inr ⟨by rfl, rfl⟩) (by assumption) ?_
        simp only [Act.put, List.setIfInBounds_toArray, List.set_cons_zero, List.set_cons_succ]
        refine wpAnyH_take (i := 22) (oi := ({ dst := some 113, op := Go.Op.pick (Go.Operand.tmp 111) (Go.Operand.const (Go.Value.bool true)) (Go.Operand.tmp 112), type := 4, pos := _, after := #[{ on := 20, ground := Go.Ground.data }, { on := 21, ground := Go.Ground.data }, { on := 17, ground := Go.Ground.guard }], guard := some (17, true) } : Oper)) (v := .bool true) rfl (by kernel_rfl) (by kernel_rfl) (by kernel_rfl) (fun _ _ _ h => h) (Or.inl ⟨by rfl, ?_⟩) (by assumption) ?_
        · (intro w hSw; (try dsimp only at hSw); go_simp; try (first | with_reducible rfl | exact hk5 | (simp; done) | (simp; omega)))
        simp only [Act.put, List.setIfInBounds_toArray, List.set_cons_zero, List.set_cons_succ]
        refine wpAnyH_take (i := 23) (oi := ({ dst := some 114, op := Go.Op.pick (Go.Operand.tmp 108) (Go.Operand.tmp 113) (Go.Operand.const (Go.Value.bool false)), type := 4, pos := _, after := #[{ on := 17, ground := Go.Ground.data }, { on := 22, ground := Go.Ground.data }], guard := none } : Oper)) (v := .bool true) rfl (by kernel_rfl) (by kernel_rfl) (by kernel_rfl) (fun _ _ _ h => h) (Or.inl ⟨by rfl, ?_⟩) (by assumption) ?_
        · (intro w hSw; (try dsimp only at hSw); go_simp; try (first | with_reducible rfl | exact hk5 | (simp; done) | (simp; omega)))
        simp only [Act.put, List.setIfInBounds_toArray, List.set_cons_zero, List.set_cons_succ]
        refine wpAnyH_take (i := 24) (oi := ({ dst := some 115, op := Go.Op.move (Go.Operand.tmp 114), type := 4, pos := _, after := #[{ on := 23, ground := Go.Ground.data }, { on := 20, ground := Go.Ground.chain }], guard := none } : Oper)) (v := ?_) rfl (by kernel_rfl) (by kernel_rfl) (by kernel_rfl) (fun _ _ _ h => h) (Or.inl ⟨by rfl, ?_⟩) (by assumption) ?_
        rotate_left
        · (intro w hSw; (try dsimp only at hSw); go_simp; try with_reducible rfl)
        simp only [Act.put, List.setIfInBounds_toArray, List.set_cons_zero, List.set_cons_succ]
        refine wpAnyH_take (i := 25) (oi := ({ dst := some 116, op := Go.Op.move (Go.Operand.tmp 3), type := 4, pos := _, after := #[{ on := 24, ground := Go.Ground.guard }], guard := some (24, true) } : Oper)) (v := ?_) rfl (by kernel_rfl) (by kernel_rfl) (by kernel_rfl) (fun _ _ _ h => h) (Or.inl ⟨by rfl, ?_⟩) (by assumption) ?_
        rotate_left
        · (intro w hSw; (try dsimp only at hSw); go_simp; try with_reducible rfl)
        simp only [Act.put, List.setIfInBounds_toArray, List.set_cons_zero, List.set_cons_succ]
        refine wpAnyH_take (i := 26) (oi := ({ dst := some 117, op := Go.Op.move (Go.Operand.tmp 7), type := 25, pos := _, after := #[{ on := 24, ground := Go.Ground.guard }], guard := some (24, true) } : Oper)) (v := ?_) rfl (by kernel_rfl) (by kernel_rfl) (by kernel_rfl) (fun _ _ _ h => h) (Or.inl ⟨by rfl, ?_⟩) (by assumption) ?_
        rotate_left
        · (intro w hSw; (try dsimp only at hSw); go_simp; try with_reducible rfl)
        simp only [Act.put, List.setIfInBounds_toArray, List.set_cons_zero, List.set_cons_succ]
        refine wpAnyH_take (i := 27) (oi := ({ dst := some 118, op := Go.Op.move (Go.Operand.tmp 7), type := 25, pos := _, after := #[{ on := 24, ground := Go.Ground.guard }], guard := some (24, true) } : Oper)) (v := ?_) rfl (by kernel_rfl) (by kernel_rfl) (by kernel_rfl) (fun _ _ _ h => h) (Or.inl ⟨by rfl, ?_⟩) (by assumption) ?_
        rotate_left
        · (intro w hSw; (try dsimp only at hSw); go_simp; try with_reducible rfl)
        simp only [Act.put, List.setIfInBounds_toArray, List.set_cons_zero, List.set_cons_succ]
        refine wpAnyH_take (i := 28) (oi := ({ dst := some 119, op := Go.Op.call { callee := Go.Callee.builtin Go.Builtin.len, args := #[Go.Operand.tmp 118], argTypes := #[25] }, type := 3, pos := _, after := #[{ on := 27, ground := Go.Ground.data }, { on := 24, ground := Go.Ground.guard }], guard := some (24, true) } : Oper)) (v := ?_) rfl (by kernel_rfl) (by kernel_rfl) (by kernel_rfl) (fun _ _ _ h => h) (Or.inl ⟨by rfl, ?_⟩) (by assumption) ?_
        rotate_left
        · (intro w hSw; (try dsimp only at hSw); go_simp; try with_reducible rfl)
        simp only [Act.put, List.setIfInBounds_toArray, List.set_cons_zero, List.set_cons_succ]
        refine wpAnyH_take (i := 29) (oi := ({ dst := some 120, op := Go.Op.binOp Go.BinOp.sub 3 (Go.Operand.tmp 119) (Go.Operand.const (Go.Value.int Go.IntKind.i64 1)) 3, type := 3, pos := _, after := #[{ on := 28, ground := Go.Ground.data }, { on := 24, ground := Go.Ground.guard }], guard := some (24, true) } : Oper)) (v := .int .i64 KU) rfl (by kernel_rfl) (by kernel_rfl) (by kernel_rfl) (fun _ _ _ h => h) (Or.inl ⟨by rfl, ?_⟩) (by assumption) ?_
        · (intro w hSw; (try dsimp only at hSw); go_simp; try (first | with_reducible rfl | exact hk5 | (simp; done) | (simp; omega)))
        simp only [Act.put, List.setIfInBounds_toArray, List.set_cons_zero, List.set_cons_succ]
        refine wpAnyH_take (i := 30) (oi := ({ dst := some 121, op := Go.Op.indexAddr 25 (Go.Operand.tmp 117) (Go.Operand.tmp 120), type := 0, pos := _, after := #[{ on := 26, ground := Go.Ground.data }, { on := 29, ground := Go.Ground.data }, { on := 24, ground := Go.Ground.guard }], guard := some (24, true) } : Oper)) (v := ?_) rfl (by kernel_rfl) (by kernel_rfl) (by kernel_rfl) (fun _ _ _ h => h) (Or.inl ⟨by rfl, ?_⟩) (by assumption) ?_
        rotate_left
        · (intro w hSw; (try dsimp only at hSw); go_simp; try with_reducible rfl)
        simp only [Act.put, List.setIfInBounds_toArray, List.set_cons_zero, List.set_cons_succ]
        refine wpAnyH_take (i := 31) (oi := ({ dst := some 122, op := Go.Op.load 22 (Go.Operand.tmp 121), type := 22, pos := _, after := #[{ on := 30, ground := Go.Ground.data }, { on := 24, ground := Go.Ground.guard }], guard := some (24, true) } : Oper)) (v := ?_) rfl (by kernel_rfl) (by kernel_rfl) (by kernel_rfl) (fun _ _ _ h => h) (Or.inl ⟨by rfl, ?_⟩) (by assumption) ?_
        rotate_left
        · (intro w hSw; (try dsimp only at hSw); go_simp; try with_reducible rfl)
        simp only [Act.put, List.setIfInBounds_toArray, List.set_cons_zero, List.set_cons_succ]
        refine wpAnyH_take (i := 32) (oi := ({ dst := some 123, op := Go.Op.call { callee := Go.Callee.builtin Go.Builtin.len, args := #[Go.Operand.tmp 122], argTypes := #[22] }, type := 3, pos := _, after := #[{ on := 31, ground := Go.Ground.data }, { on := 24, ground := Go.Ground.guard }], guard := some (24, true) } : Oper)) (v := ?_) rfl (by kernel_rfl) (by kernel_rfl) (by kernel_rfl) (fun _ _ _ h => h) (Or.inl ⟨by rfl, ?_⟩) (by assumption) ?_
        rotate_left
        · (intro w hSw; (try dsimp only at hSw); go_simp; try with_reducible rfl)
        simp only [Act.put, List.setIfInBounds_toArray, List.set_cons_zero, List.set_cons_succ]
        refine wpAnyH_take (i := 33) (oi := ({ dst := some 124, op := Go.Op.fieldAddr 24 (Go.Operand.tmp 1) 0, type := 0, pos := _, after := #[{ on := 24, ground := Go.Ground.guard }], guard := some (24, true) } : Oper)) (v := ?_) rfl (by kernel_rfl) (by kernel_rfl) (by kernel_rfl) (fun _ _ _ h => h) (Or.inl ⟨by rfl, ?_⟩) (by assumption) ?_
        rotate_left
        · (intro w hSw; (try dsimp only at hSw); go_simp; try with_reducible rfl)
        simp only [Act.put, List.setIfInBounds_toArray, List.set_cons_zero, List.set_cons_succ]
        refine wpAnyH_take (i := 34) (oi := ({ dst := some 125, op := Go.Op.load 3 (Go.Operand.tmp 124), type := 3, pos := _, after := #[{ on := 33, ground := Go.Ground.data }, { on := 24, ground := Go.Ground.guard }], guard := some (24, true) } : Oper)) (v := ?_) rfl (by kernel_rfl) (by kernel_rfl) (by kernel_rfl) (fun _ _ _ h => h) (Or.inl ⟨by rfl, ?_⟩) (by assumption) ?_
        rotate_left
        · (intro w hSw; (try dsimp only at hSw); go_simp; try with_reducible rfl)
        simp only [Act.put, List.setIfInBounds_toArray, List.set_cons_zero, List.set_cons_succ]
        refine wpAnyH_take (i := 35) (oi := ({ dst := some 126, op := Go.Op.binOp Go.BinOp.eql 3 (Go.Operand.tmp 123) (Go.Operand.tmp 125) 3, type := 4, pos := _, after := #[{ on := 32, ground := Go.Ground.data }, { on := 34, ground := Go.Ground.data }, { on := 24, ground := Go.Ground.guard }], guard := some (24, true) } : Oper)) (v := .bool false) rfl (by kernel_rfl) (by kernel_rfl) (by kernel_rfl) (fun _ _ _ h => h) (Or.inl ⟨by rfl, ?_⟩) (by assumption) ?_
        · (intro w hSw; (try dsimp only at hSw); go_simp; try (first | with_reducible rfl | exact hk5 | (simp; done) | (simp; omega)))
        simp only [Act.put, List.setIfInBounds_toArray, List.set_cons_zero, List.set_cons_succ]
        refine wpAnyH_take (i := 36) (oi := ({ dst := some 127, op := Go.Op.binOp Go.BinOp.eql 4 (Go.Operand.tmp 116) (Go.Operand.tmp 126) 4, type := 4, pos := _, after := #[{ on := 25, ground := Go.Ground.data }, { on := 35, ground := Go.Ground.data }, { on := 24, ground := Go.Ground.guard }], guard := some (24, true) } : Oper)) (v := .bool true) rfl (by kernel_rfl) (by kernel_rfl) (by kernel_rfl) (fun _ _ _ h => h) (Or.inl ⟨by rfl, ?_⟩) (by assumption) ?_
        · (intro w hSw; (try dsimp only at hSw); go_simp; try (first | with_reducible rfl | exact hk5 | (simp; done) | (simp; omega)))
        simp only [Act.put, List.setIfInBounds_toArray, List.set_cons_zero, List.set_cons_succ]
        refine wpAnyH_take (i := 37) (oi := ({ dst := some 128, op := Go.Op.pick (Go.Operand.tmp 115) (Go.Operand.tmp 127) (Go.Operand.const (Go.Value.bool false)), type := 4, pos := _, after := #[{ on := 24, ground := Go.Ground.data }, { on := 36, ground := Go.Ground.data }], guard := none } : Oper)) (v := .bool true) rfl (by kernel_rfl) (by kernel_rfl) (by kernel_rfl) (fun _ _ _ h => h) (Or.inl ⟨by rfl, ?_⟩) (by assumption) ?_
        · (intro w hSw; (try dsimp only at hSw); go_simp; try (first | with_reducible rfl | exact hk5 | (simp; done) | (simp; omega)))
        simp only [Act.put, List.setIfInBounds_toArray, List.set_cons_zero, List.set_cons_succ]
        refine wpAnyH_take (i := 38) (oi := ({ dst := some 2, op := Go.Op.assign (Go.Operand.tmp 128), type := 4, pos := _, after := #[{ on := 37, ground := Go.Ground.data }, { on := 24, ground := Go.Ground.chain }, { on := 0, ground := Go.Ground.phase }, { on := 1, ground := Go.Ground.phase }, { on := 2, ground := Go.Ground.phase }, { on := 3, ground := Go.Ground.phase }, { on := 4, ground := Go.Ground.phase }, { on := 5, ground := Go.Ground.phase }, { on := 6, ground := Go.Ground.phase }, { on := 7, ground := Go.Ground.phase }, { on := 8, ground := Go.Ground.phase }, { on := 9, ground := Go.Ground.phase }, { on := 10, ground := Go.Ground.phase }, { on := 11, ground := Go.Ground.phase }, { on := 12, ground := Go.Ground.phase }, { on := 13, ground := Go.Ground.phase }, { on := 14, ground := Go.Ground.phase }, { on := 15, ground := Go.Ground.phase }, { on := 16, ground := Go.Ground.phase }, { on := 17, ground := Go.Ground.phase }, { on := 18, ground := Go.Ground.phase }, { on := 19, ground := Go.Ground.phase }, { on := 20, ground := Go.Ground.phase }, { on := 21, ground := Go.Ground.phase }, { on := 22, ground := Go.Ground.phase }, { on := 23, ground := Go.Ground.phase }, { on := 24, ground := Go.Ground.phase }, { on := 25, ground := Go.Ground.phase }, { on := 26, ground := Go.Ground.phase }, { on := 27, ground := Go.Ground.phase }, { on := 28, ground := Go.Ground.phase }, { on := 29, ground := Go.Ground.phase }, { on := 30, ground := Go.Ground.phase }, { on := 31, ground := Go.Ground.phase }, { on := 32, ground := Go.Ground.phase }, { on := 33, ground := Go.Ground.phase }, { on := 34, ground := Go.Ground.phase }, { on := 35, ground := Go.Ground.phase }, { on := 36, ground := Go.Ground.phase }, { on := 37, ground := Go.Ground.phase }], guard := none } : Oper)) (v := ?_) rfl (by kernel_rfl) (by kernel_rfl) (by kernel_rfl) (fun _ _ _ h => h) (Or.inl ⟨by rfl, ?_⟩) (by assumption) ?_
        rotate_left
        · (intro w hSw; (try dsimp only at hSw); go_simp; try with_reducible rfl)
        simp only [Act.put, List.setIfInBounds_toArray, List.set_cons_zero, List.set_cons_succ]
        refine wpAnyH_done (by kernel_rfl) ?_ _
        go_wp2
        go_ret
        exact ⟨rfl, bdrew hBr⟩
theorem snil_law (N : Int) (v : Value) (zs : List Int) (w : World) (hv : Sl w v zs) (hT : Tab w) :
    Calls Tryd.prog 10 #[.agg #[.int .i64 N, v]] w fun e w' => e = .returned (.bool true) ∧ Below w.heap.size w w' := by
  obtain ⟨v1, v2, v3, rfl⟩ := hv.isSlice
  by_cases hc : (gfault N zs).1 = 0
  · obtain ⟨n, e, rfl, hg, h0⟩ := gfault_grp hc
    exact snil_good n e v1 v2 v3 zs w hv hg hT
  · exact snil_bad N v1 v2 v3 zs w hv hT hc
end Go.Proofs.YtolbpjjjoafkkaaDoor
