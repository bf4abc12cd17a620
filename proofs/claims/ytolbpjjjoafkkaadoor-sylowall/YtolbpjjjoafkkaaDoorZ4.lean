/- The example that every law of this chapter begins with: the square's group and its centre. Condition: the library's table of places lies as its text lays it. Products of two subgroups, told by the laws' own searches; lists and their sets. What package sylow's grown answers: a subgroup of a power of p things that no thing makes a greater one of that kind. Condition: the library's table of places lies as its text lays it. What package sub's commutator and Comm answer. Condition: the library's table of places lies as its text lays it. What package sub's conjugated, normaliser and openedSubgroup answer, and Normaliser, Normal, Core and Closure where nothing is wrong. Condition: the library's table of places lies as its text lays it. What package sub's Normal, Core and Closure answer where nothing is wrong. Condition: the library's table of places lies as its text lays it. Texts of the Sub family that later ones lean on: what stays in memory; normal subgroups, cores and closures as tests. What package sylow's subgroups answers: a map whose keys are the conjugates of one of Sylow's subgroups. Condition: the library's table of places lies as its text lays it. The document's way to what a set makes: products of two until nothing is new, as math. No condition. What the document's Span answers: what a list makes. What the document's Closed answers, and the law's listAs. What the document's C and Commutator answer, and its SubFault. What the document's SubFault tells. What package sub's openedSubgroup answers where something is wrong, and what Normaliser, Normal, Core and Closure answer then. Condition: the library's table of places lies as its text lays it. What the document's SameGroup and ThingFault and the law's numberAs tell. What the law SubMakes answers: true, at every table and every list. Condition: the library's table of places lies as its text lays it. Package coset, and the document on cosets; sets that part things, and their numbers. -/
import Derived.Test.YtolbpjjjoafkkaaDoorZ3
import Derived.Deep.RegionHeld3
import Derived.WalkMore
import Derived.Deep.DeepCutAuto
import Derived.Maps.OwnSet
import Derived.Maps.AppendAt
import Derived.Test.YtolbpjjjoafkkaaDoorZ2
import Derived.Deep.AppendLies
import Derived.Laws.EntriesVeiled
import Derived.BigQuiet
import Derived.Maps.Ext
namespace Go.Proofs.YtolbpjjjoafkkaaDoor
open Go Go.RowKit

def sqk (a b : Nat) : Nat := if 3 < a then 4 - b % 4 else b % 4
def sq (a b : Nat) : Nat := (a % 4 + sqk a b) % 4 + (a / 4 + b / 4) % 2 * 4
/-- The square's table. -/
def sqT : List Int := (List.range 64).map fun i => (sq (i / 8) (i % 8) : Int)
theorem sqT_len : sqT.length = 64 := by simp [sqT]
theorem sqT_get {a b : Nat} (ha : a < 8) (hb : b < 8) : sqT[a * 8 + b]?.getD 0 = (sq a b : Int) := by
  have h1 : a * 8 + b < 64 := by omega
  have h2 : (a * 8 + b) / 8 = a := by omega
  have h3 : (a * 8 + b) % 8 = b := by omega
  simp [sqT, h1, h2, h3]
theorem sqT_fault : gfault 8 sqT = (0, 0) := by decide +kernel
theorem sqT_grp : IsGrp 8 sqT 0 := by
  obtain ⟨n, e, hn, hg, _⟩ := gfault_grp (N := 8) (zs := sqT) (by rw [sqT_fault])
  have h1 : n = 8 := by omega
  subst h1
  have h2 := hg.one
  rw [show one 8 sqT = 0 by decide +kernel] at h2
  have h3 : e = 0 := by omega
  subst h3
  exact hg
theorem sqT_cen : lst 8 (cenq 8 sqT (fun _ => true)) = [0, 2] := by decide +kernel

theorem tmod_nat {x : Int} {y : Nat} (m : Nat) (h : x = (y : Int)) : x.tmod (m : Int) = ((y % m : Nat) : Int) := by
  subst h
  rw [Int.tmod_eq_emod_of_nonneg (by omega), Int.natCast_emod]
theorem tdiv_nat {x : Int} {y : Nat} (m : Nat) (h : x = (y : Int)) : x.tdiv (m : Int) = ((y / m : Nat) : Int) := by
  subst h
  rw [Int.tdiv_eq_ediv_of_nonneg (by omega), Int.natCast_ediv]

set_option maxRecDepth 100000 in
set_option maxHeartbeats 4000000 in
theorem square_ok (w : World) :
    Calls Tryd.prog 62 #[] w fun x w' => ∃ r, x = .returned (.agg #[.int .i64 8, r]) ∧ Row w' w.heap.size r sqT ∧ Below w.heap.size w w' := by
  obtain ⟨i0, hi, hz0, hz1, hz2⟩ := info_parts info3b
  obtain ⟨T, hT⟩ : ∃ T, T = sqT := ⟨_, rfl⟩
  have HTL := hide (show T.length = 64 by rw [hT]; exact sqT_len)
  have HTG := hide (fun a b (ha : a < 8) (hb : b < 8) => show T[a * 8 + b]?.getD 0 = (sq a b : Int) by rw [hT]; exact sqT_get ha hb)
  rw [← hT]
  clear hT
  have hB0 : Below w.heap.size w ((w.alloc (.cells #[.int .i64 0, .slice none 0 0] 24)).alloc (.cells #[.int .i64 8, .slice none 0 0] 24)) := (balloc w _).alloc (by simp) _
  have hR0 : Blk ((w.alloc (.cells #[.int .i64 0, .slice none 0 0] 24)).alloc (.cells #[.int .i64 8, .slice none 0 0] 24)) w.heap.size 24 [.int .i64 0, .slice none 0 0] := (blk0 _ _).alloc _
  have hX0 : Blk ((w.alloc (.cells #[.int .i64 0, .slice none 0 0] 24)).alloc (.cells #[.int .i64 8, .slice none 0 0] 24)) (w.heap.size + 1) 24 [.int .i64 8, .slice none 0 0] := by
    have := blk0 (w := w.alloc (.cells #[.int .i64 0, .slice none 0 0] 24)) (T := 24) (.int .i64 8) (.slice none 0 0)
    rwa [World.size_alloc] at this
  go_enter Tryd.func62, Tryd.ntmps62
  go_wp2
  go_loopw [2] (fun i wr => ∃ (a : Nat) (r : Value), a ≤ 8 ∧ i = .int .i64 a ∧ Row wr (w.heap.size + 1 + 1) r (T.take (a * 8)) ∧ Blk wr w.heap.size 24 [.int .i64 0, .slice none 0 0] ∧ Blk wr (w.heap.size + 1) 24 [.int .i64 8, r] ∧ Below w.heap.size w wr) (fun i _ => 8 - (intOf i).toNat)
  case atStart => exact ⟨0, .slice none 0 0, by omega, rfl, nil_row _ _, hR0, hX0, hB0⟩
  case round =>
    obtain ⟨a, r, ha, rfl, hrow, hR, hX, hB⟩ := hrel
    clear hR0 hX0 hB0
    by_cases hlta : a < 8
    · have hai : (a : Int) < 8 := by omega
      go_wp2
      go_loopw [3] (fun i wr => ∃ (b : Nat) (r : Value), b ≤ 8 ∧ i = .int .i64 b ∧ Row wr (w.heap.size + 1 + 1) r (T.take (a * 8 + b)) ∧ Blk wr w.heap.size 24 [.int .i64 0, .slice none 0 0] ∧ Blk wr (w.heap.size + 1) 24 [.int .i64 8, r] ∧ Below w.heap.size w wr) (fun i _ => 8 - (intOf i).toNat)
      case atStart => exact ⟨0, r, by omega, rfl, hrow, hR, hX, hB⟩
      case round =>
        obtain ⟨b, r', hb, rfl, hrow', hR', hX', hB'⟩ := hrel
        clear hrow hR hX hB
        by_cases hltb : b < 8
        · have HV := hide (HTG.out a b hlta hltb)
          have hlen : (T.take (a * 8 + b)).length = a * 8 + b := by rw [List.length_take, HTL.out]; omega
          have hsn : T.take (a * 8 + b + 1) = T.take (a * 8 + b) ++ [(sq a b : Int)] := by
            rw [take_snoc' (by rw [HTL.out]; omega), HV.out]
          have HSN := hide hsn
          have HLL := hide hlen
          have hown : wr.ownsRow (w.heap.size + 1 + 1) 3 1 r' (T.take (a * 8 + b)).length ((T.take (a * 8 + b)).map (Value.int .i64)) := hrow'
          clear hsn hlen hrow' HV
          generalize T.take (a * 8 + b) = xs at *
          obtain ⟨rx, rcap, rfl⟩ := own_slice hown
          obtain ⟨x0, x1, fx0, fx1⟩ := hX'.two
          have hs2 := hX'.lt
          by_cases h3 : 3 < a
          · have h3i : (3 : Int) < (a : Int) := by omega
            have hE : ((a : Int) + (4 - (b : Int) % 4)) % 4 + ((a : Int) / 4 + (b : Int) / 4) % 2 * 4 = (sq a b : Int) := by unfold sq sqk; rw [if_pos h3]; omega
            generalize sq a b = S at *
            go_wp2_with (first
              | (at_builtin; refine wpList_append_own _ rfl _ _ 22 rfl (w.heap.size + 1 + 1) 3 i0 (.int .i64 0) 1 8 under22b hi hz0 hz1 hz2 rfl (by decide) _ _ _ rfl (World.ownsRow.alloc hown _) ⟨wr.heap.size, 0, none⟩ 1 1 [.int .i64 S] rfl rfl ?c1 ?c2 ?c3 ?c4 ?c5 ?_))
            case c1 => exact cell_one_new _ _ _
            case c2 => simp [Value.oneCell']
            case c3 => unfold maxLen; have := HLL.out; omega
            case c4 => have := HLL.out; omega
            case c5 => simp; omega
            intro v9 w2 hown' hgrow _
            obtain ⟨g', cap', rfl⟩ := ownsRow_succ hown'
            have hk2 : ∀ k, k < w.heap.size + 1 + 1 → w2.heap[k]? = wr.heap[k]? := fun k hk => (hgrow.block k (by simp; omega) (fun e9 => by have := owns_ge hown k e9.symm; omega)).trans (Below.heap_alloc _ _ k (by omega))
            have hB2 : Below w.heap.size w w2 := (hB'.alloc hB'.size _).grown hgrow (by simp; omega) (fun t e9 => by have := owns_ge hown t e9; omega)
            have hR2 : Blk w2 w.heap.size 24 [.int .i64 0, .slice none 0 0] := hR'.of_eq (hk2 _ (by omega))
            have hX2 : Blk w2 (w.heap.size + 1) 24 [.int .i64 8, .slice rx xs.length rcap] := hX'.of_eq (hk2 _ (by omega))
            have hrow2 : Row w2 (w.heap.size + 1 + 1) (.slice (some ⟨g', 0, none⟩) (xs.length + 1) cap') (T.take (a * 8 + b + 1)) := by
              unfold Row
              rw [HSN.out]
              simpa using hown'
            obtain ⟨x0, x1, fx0, fx1⟩ := hX2.two
            have hX3 := hX2.set 1 (.slice (some ⟨g', 0, none⟩) (xs.length + 1) cap')
            have hR3 := hR2.other (p := ⟨w.heap.size + 1, 1, none⟩) (by simp) (.slice (some ⟨g', 0, none⟩) (xs.length + 1) cap')
            have hB3 := hB2.setCell (p := ⟨w.heap.size + 1, 1, none⟩) (by simp) (.slice (some ⟨g', 0, none⟩) (xs.length + 1) cap')
            have hrow3 := row_keep (W' := w2.setCell ⟨w.heap.size + 1, 1, none⟩ (.slice (some ⟨g', 0, none⟩) (xs.length + 1) cap')) hrow2 (fun g h1 _ => Below.heap_setCell _ _ _ g (by simp; omega))
            clear hown' hgrow hown hrow2 hk2 hE h3i hs2
            go_wp2
            go_roundw
            case rel => exact ⟨b + 1, _, by omega, by go_num, hrow3, hR3, hX3, hB3⟩
            case measure => simp [intOf]; omega
          · have h3i : ¬ (3 : Int) < (a : Int) := by omega
            have hE : ((a : Int) + (b : Int)) % 4 + ((a : Int) / 4 + (b : Int) / 4) % 2 * 4 = (sq a b : Int) := by unfold sq sqk; rw [if_neg h3]; omega
            generalize sq a b = S at *
            go_wp2_with (first
              | (at_builtin; refine wpList_append_own _ rfl _ _ 22 rfl (w.heap.size + 1 + 1) 3 i0 (.int .i64 0) 1 8 under22b hi hz0 hz1 hz2 rfl (by decide) _ _ _ rfl (World.ownsRow.alloc hown _) ⟨wr.heap.size, 0, none⟩ 1 1 [.int .i64 S] rfl rfl ?d1 ?d2 ?d3 ?d4 ?d5 ?_))
            case d2 => simp [Value.oneCell']
            case d3 => unfold maxLen; have := HLL.out; omega
            case d4 => have := HLL.out; omega
            case d5 => first | omega | (simp; omega)
            intro v9 w2 hown' hgrow _
            obtain ⟨g', cap', rfl⟩ := ownsRow_succ hown'
            have hk2 : ∀ k, k < w.heap.size + 1 + 1 → w2.heap[k]? = wr.heap[k]? := fun k hk => (hgrow.block k (by simp; omega) (fun e9 => by have := owns_ge hown k e9.symm; omega)).trans (Below.heap_alloc _ _ k (by omega))
            have hB2 : Below w.heap.size w w2 := (hB'.alloc hB'.size _).grown hgrow (by simp; omega) (fun t e9 => by have := owns_ge hown t e9; omega)
            have hR2 : Blk w2 w.heap.size 24 [.int .i64 0, .slice none 0 0] := hR'.of_eq (hk2 _ (by omega))
            have hX2 : Blk w2 (w.heap.size + 1) 24 [.int .i64 8, .slice rx xs.length rcap] := hX'.of_eq (hk2 _ (by omega))
            have hrow2 : Row w2 (w.heap.size + 1 + 1) (.slice (some ⟨g', 0, none⟩) (xs.length + 1) cap') (T.take (a * 8 + b + 1)) := by
              unfold Row
              rw [HSN.out]
              simpa using hown'
            obtain ⟨x0, x1, fx0, fx1⟩ := hX2.two
            have hX3 := hX2.set 1 (.slice (some ⟨g', 0, none⟩) (xs.length + 1) cap')
            have hR3 := hR2.other (p := ⟨w.heap.size + 1, 1, none⟩) (by simp) (.slice (some ⟨g', 0, none⟩) (xs.length + 1) cap')
            have hB3 := hB2.setCell (p := ⟨w.heap.size + 1, 1, none⟩) (by simp) (.slice (some ⟨g', 0, none⟩) (xs.length + 1) cap')
            have hrow3 := row_keep (W' := w2.setCell ⟨w.heap.size + 1, 1, none⟩ (.slice (some ⟨g', 0, none⟩) (xs.length + 1) cap')) hrow2 (fun g h1 _ => Below.heap_setCell _ _ _ g (by simp; omega))
            clear hown' hgrow hown hrow2 hk2 hE h3i hs2
            go_wp2
            go_roundw
            case rel => exact ⟨b + 1, _, by omega, by go_num, hrow3, hR3, hX3, hB3⟩
            case measure => simp [intOf]; omega
        · have hbn : b = 8 := by omega
          subst hbn
          have hrow8 : Row wr (w.heap.size + 1 + 1) r' (T.take ((a + 1) * 8)) := by rw [show (a + 1) * 8 = a * 8 + 8 by omega]; exact hrow'
          go_wp2
          go_roundw
          case rel => exact ⟨a + 1, r', by omega, by go_num, hrow8, hR', hX', hB'⟩
          case measure => simp [intOf]; omega
    · have han : a = 8 := by omega
      subst han
      have hTT : T.take (8 * 8) = T := List.take_of_length_le (by rw [HTL.out]; omega)
      rw [hTT] at hrow
      clear hTT
      have hown : wr.ownsRow (w.heap.size + 1 + 1) 3 1 r T.length (T.map (Value.int .i64)) := hrow
      obtain ⟨rx, rcap, rfl⟩ := own_slice hown
      obtain ⟨x0, x1, fx0, fx1⟩ := hX.two
      obtain ⟨r0, r1, fr0, fr1⟩ := hR.two
      have hR8 : Blk ((wr.setCell ⟨w.heap.size, 0, none⟩ (.int .i64 8)).setCell ⟨w.heap.size, 1, none⟩ (.slice rx T.length rcap)) w.heap.size 24 [.int .i64 8, .slice rx T.length rcap] := (hR.set 0 _).set 1 _
      have hB8 := (hB.setCell (p := ⟨w.heap.size, 0, none⟩) (by simp) (.int .i64 8)).setCell (p := ⟨w.heap.size, 1, none⟩) (by simp) (.slice rx T.length rcap)
      have hrow8 := owns_mono (row_keep (W' := (wr.setCell ⟨w.heap.size, 0, none⟩ (.int .i64 8)).setCell ⟨w.heap.size, 1, none⟩ (.slice rx T.length rcap)) hrow (fun g h1 _ => by rw [Below.heap_setCell _ _ _ g (by simp; omega), Below.heap_setCell _ _ _ g (by simp; omega)])) (show w.heap.size ≤ w.heap.size + 1 + 1 by omega)
      clear hown hrow
      go_wp2
      generalize (wr.setCell ⟨w.heap.size, 0, none⟩ (.int .i64 8)).setCell ⟨w.heap.size, 1, none⟩ (.slice rx T.length rcap) = W at hR8 hB8 hrow8 ⊢
      obtain ⟨z0, z1, _, _⟩ := hR8.two
      exact bodyPost_ret (v := .agg #[.int .i64 8, .slice rx T.length rcap]) (by simp [results, Tryd.results62, go_sem, z0, z1]) rfl ⟨_, rfl, hrow8, hB8⟩

end Go.Proofs.YtolbpjjjoafkkaaDoor

namespace Go.Proofs.YtolbpjjjoafkkaaDoor
open Go Go.RowKit

theorem mem_li {xs : List Nat} {a : Nat} : (a : Int) ∈ li xs ↔ a ∈ xs := by
  unfold li
  rw [List.mem_map]
  constructor
  · rintro ⟨x, hx, he⟩
    have : x = a := by omega
    rwa [← this]
  · intro h
    exact ⟨a, h, rfl⟩
theorem pset_lst {n : Nat} {p : Nat → Bool} {a : Nat} (ha : a < n) : pset (li (lst n p)) a = p a := by
  unfold pset
  rw [Bool.eq_iff_iff, decide_eq_true_eq, mem_li, mem_lst]
  simp [ha]
theorem lst_congr {n : Nat} {p q : Nat → Bool} (h : ∀ a, a < n → p a = q a) : lst n p = lst n q :=
  List.filter_congr fun a ha => h a (List.mem_range.1 ha)
theorem lst_pset (n : Nat) (p : Nat → Bool) : lst n (pset (li (lst n p))) = lst n p := lst_congr fun _ ha => pset_lst ha
/-- Nothing is wrong with a list of a set. -/
theorem lst_fault (n : Nat) (p : Nat → Bool) : lfault n (li (lst n p)) = (0, 0) := by
  refine lfault_ok (by rw [li_len]; exact lst_len n p) fun t ht => ?_
  rw [li_len] at ht
  have h0 := mem_lst.1 (List.getElem_mem ht)
  have h2 : rbad n (li (lst n p)) t = false := by unfold rbad; rw [li_get ht]; simp; omega
  have h3 : fbad (li (lst n p)) t = false := by
    unfold fbad
    rw [decide_eq_false_iff_not]
    rintro ⟨h4, h5⟩
    have h6 : t - 1 < (lst n p).length := by omega
    rw [li_get ht, li_get h6] at h5
    have h7 := List.pairwise_iff_getElem.1 (lst_rise n p) (t - 1) t h6 ht (by omega)
    omega
  rw [h2, h3]; rfl
theorem subT_congr {n e : Nat} {zs : List Int} {p q : Nat → Bool} (g : IsGrp n zs e) (h : ∀ a, a < n → p a = q a) : subT n zs e p = subT n zs e q := by
  rw [Bool.eq_iff_iff, subT_iff, subT_iff]
  constructor
  · rintro ⟨h1, h2⟩
    exact ⟨by rw [← h e g.elt]; exact h1, fun a b ha hb h3 h4 => by
      have ha' := List.mem_range.1 ha
      have hb' := List.mem_range.1 hb
      rw [← h _ (tm_lt g.tab ha' hb')]
      exact h2 a b ha hb (by rw [h a ha']; exact h3) (by rw [h b hb']; exact h4)⟩
  · rintro ⟨h1, h2⟩
    exact ⟨by rw [h e g.elt]; exact h1, fun a b ha hb h3 h4 => by
      have ha' := List.mem_range.1 ha
      have hb' := List.mem_range.1 hb
      rw [h _ (tm_lt g.tab ha' hb')]
      exact h2 a b ha hb (by rw [← h a ha']; exact h3) (by rw [← h b hb']; exact h4)⟩
/-- What is made, as a test, is a subgroup. -/
theorem made_sg {n e : Nat} {zs : List Int} {q p : Nat → Bool} (g : IsGrp n zs e) (hp : ∀ a, a < n → (p a = true ↔ Mkd n zs e q a)) : Fin.Sg (List.range n) (tm n zs) e (fun a => p a = true) := by
  have S := Fin.Gen.sg (l := List.range n) (m := tm n zs) (e := e) (fun x => q x = true)
  refine ⟨(hp e g.elt).2 S.one, fun a b ha hb h1 h2 => ?_⟩
  have ha' := List.mem_range.1 ha
  have hb' := List.mem_range.1 hb
  exact (hp _ (tm_lt g.tab ha' hb')).2 (S.mul a b ha hb ((hp a ha').1 h1) ((hp b hb').1 h2))
/-- The document's inverse. -/
theorem Iiv_ok (n a e : Nat) (v : Value) (zs : List Int) (w : World) (g : IsGrp n zs e) (hv : Sl w v zs) (ha : a < n) :
    Calls Tryd.prog 64 #[.agg #[.int .i64 n, v], .int .i64 a] w fun x w' => x = .returned (.int .i64 (iv n zs e a)) ∧ Below w.heap.size w w' := by
  have h := I_ok n a v zs w g.tab hv ha
  rw [invR_eq g.tab (by rw [g.one]; omega) (fun t ht => assB_iff.2 fun b c hb hc => g.ass t b c ht hb hc) ha, g.one, (iv_spec g ha).2.2.2] at h
  exact h
/-- Products of things of two lists. -/
def prq (n : Nat) (zs : List Int) (e : Nat) (xs ys : List Nat) (x : Nat) : Bool := xs.any fun a => decide (tm n zs (iv n zs e a) x ∈ ys)
theorem prq_iff {n e : Nat} {zs : List Int} {p q : Nat → Bool} (g : IsGrp n zs e) {x : Nat} (hx : x < n) : prq n zs e (lst n p) (lst n q) x = true ↔ ∃ a b, a ∈ List.range n ∧ b ∈ List.range n ∧ p a = true ∧ q b = true ∧ tm n zs a b = x := by
  unfold prq
  simp only [List.any_eq_true, decide_eq_true_eq, mem_lst]
  constructor
  · rintro ⟨a, ⟨ha, hpa⟩, hb, hqb⟩
    obtain ⟨h1, h2, _, _⟩ := iv_spec g ha
    exact ⟨a, _, List.mem_range.2 ha, List.mem_range.2 hb, hpa, hqb, by rw [← g.ass _ _ _ ha h1 hx, h2, g.left x hx]⟩
  · rintro ⟨a, b, ha, hb, hpa, hqb, rfl⟩
    have ha := List.mem_range.1 ha
    have hb := List.mem_range.1 hb
    obtain ⟨h1, _, h3, _⟩ := iv_spec g ha
    refine ⟨a, ⟨ha, hpa⟩, ?_⟩
    rw [← g.ass _ _ _ h1 ha hb, h3, g.left b hb]
    exact ⟨hb, hqb⟩

end Go.Proofs.YtolbpjjjoafkkaaDoor

namespace Go.Proofs.YtolbpjjjoafkkaaDoor
open Go Go.RowKit

theorem lst_same {n : Nat} {p q : Nat → Bool} (h : ∀ x, x < n → (p x = true ↔ q x = true)) : lst n p = lst n q := lst_congr fun x hx => by
  have := h x hx
  cases h1 : p x <;> cases h2 : q x <;> simp_all
theorem lst_less {n : Nat} {p q : Nat → Bool} (h : ∀ x, x < n → p x = true → q x = true) : (lst n p).length ≤ (lst n q).length ∧ ((∃ x, x < n ∧ q x = true ∧ ¬ p x = true) → (lst n p).length < (lst n q).length) := by
  have e1 : lst n p = (lst n q).filter p := by
    unfold lst
    rw [List.filter_filter]
    refine List.filter_congr fun x hx => ?_
    cases hp : p x with
    | false => simp
    | true => simp [h x (List.mem_range.1 hx) hp]
  rw [e1]
  refine ⟨List.length_filter_le _ _, ?_⟩
  rintro ⟨x, hx, h1, h2⟩
  exact List.length_filter_lt_length_iff_exists.2 ⟨x, mem_lst.2 ⟨hx, h1⟩, h2⟩
/-- A subgroup of a power of p things with no greater one by a thing more. -/
structure Grown (n : Nat) (zs : List Int) (e p : Nat) (s : Nat → Bool) : Prop where
  sub : subT n zs e s = true
  pow : isPw (lst n s).length p
  top : ∀ a (q : Nat → Bool), a < n → (∀ x, x < n → (q x = true ↔ Mkd n zs e (fun y => s y || decide (y = a)) x)) → bs q n = bs s n ∨ ¬ isPw (lst n q).length p
theorem one_lst {n e : Nat} (he : e < n) : lst n (fun a => decide (a = e)) = [e] := by
  have hnd : (lst n (fun a => decide (a = e))).Nodup := List.nodup_range.sublist List.filter_sublist
  have hm : ∀ x, x ∈ lst n (fun a => decide (a = e)) ↔ x ∈ [e] := fun x => by
    rw [mem_lst]
    simp
    intro h9
    omega
  exact (List.perm_singleton.1 ((List.perm_ext_iff_of_nodup hnd (by simp)).2 hm))
theorem one_sub {n e : Nat} {zs : List Int} (g : IsGrp n zs e) : subT n zs e (fun a => decide (a = e)) = true := by
  rw [subT_iff]
  refine ⟨by simp, fun a b _ _ h1 h2 => ?_⟩
  have h1 := of_decide_eq_true h1
  have h2 := of_decide_eq_true h2
  rw [h1, h2]
  exact decide_eq_true (g.left e g.elt)
theorem mkd_ex' (n : Nat) (zs : List Int) (e : Nat) (q : Nat → Bool) : ∃ p : Nat → Bool, ∀ a, a < n → (p a = true ↔ Mkd n zs e q a) := by
  obtain ⟨p, hp⟩ := Fin.test_of (Mkd n zs e q)
  exact ⟨p, fun a _ => hp a⟩
set_option maxRecDepth 100000 in
set_option maxHeartbeats 8000000 in
theorem grown_ok (n e p : Nat) (v u : Value) (zs : List Int) (w : World) (hG : GA w n v e u zs) (hT : Tab w) (hp2 : 2 ≤ p) (hp1 : p ≤ 100) :
    Calls Tryd.prog 89 #[.agg #[.int .i64 n, v, .int .i64 e, u], .int .i64 p] w fun x w' => ∃ s : Nat → Bool, x = .returned (.int .u64 (bs s n)) ∧ Grown n zs e p s ∧ Below w.heap.size w w' := by
  have hn := hG.le
  have hen := hG.grp.elt
  have HGR := hide hG.grp
  have hB0 : Below w.heap.size w (w.alloc (.cells #[.int .i64 n, v, .int .i64 e, u] 64)) := balloc w _
  have hX0 : Blk (w.alloc (.cells #[.int .i64 n, v, .int .i64 e, u] 64)) w.heap.size 64 [.int .i64 n, v, .int .i64 e, u] := blk4 _ _ _ _
  have HMA := hide (fun W (q p : Nat → Bool) (h : Below w.heap.size w W) (hp : ∀ a, a < n → (p a = true ↔ Mkd n zs e q a)) => made_ok n v u zs e q p W (hG.below h) (hT.below h) hp)
  have HO1 := hide (fun (W : World) (g k : Nat) (hlt : k < n) (hc : W.cell? ⟨g, 0, none⟩ = some (.int .i64 k)) => of_one n g k W hn hlt hc)
  have HLN := hide (fun (p' : Nat → Bool) W => len_cnt n p' hn W)
  obtain ⟨_, c0, c1, c2, c3, _⟩ := Four.mk' hX0
  have HOF := hide (of_one n (w.heap.size + 1) e ((w.alloc (.cells #[.int .i64 n, v, .int .i64 e, u] 64)).alloc (.cells #[.int .i64 e] 3)) hn hen (by have := cell1 (w.alloc (.cells #[.int .i64 n, v, .int .i64 e, u] 64)) (.int .i64 e) 3; rwa [World.size_alloc] at this))
  go_enter Tryd.func89, Tryd.ntmps89
  go_wp2_with fail
  go_step3
  go_wp2_with fail
  refine HOF.out.mono ?_
  rintro e1 w1 ⟨rfl, rfl⟩
  have hB1 := bcat2 hB0 (balloc _ (.cells #[.int .i64 e] 3))
  have hX1 := blk_below hX0 (balloc _ (.cells #[.int .i64 e] 3))
  clear c0 c1 c2 c3 hX0 hB0 HOF
  generalize (w.alloc (.cells #[.int .i64 n, v, .int .i64 e, u] 64)).alloc (.cells #[.int .i64 e] 3) = w1 at *
  go_wp2_with fail
  go_step3
  go_wp2_with fail
  go_loopw [5] (fun sv wr => ∃ s : Nat → Bool, sv = .int .u64 (bs s n) ∧ subT n zs e s = true ∧ isPw (lst n s).length p ∧ Blk wr w.heap.size 64 [.int .i64 n, v, .int .i64 e, u] ∧ Below w.heap.size w wr) (fun sv _ => 60 - Pop.cnt (intOf sv).toNat)
  case atStart => exact ⟨_, rfl, one_sub HGR.out, ⟨0, by rw [one_lst hen]; rfl⟩, hX1, hB1⟩
  case round =>
    clear hX1 hB1
    obtain ⟨s, rfl, hs, hpw, hX, hB⟩ := hrel
    have HS := hide hs
    have HPW := hide hpw
    clear hs hpw
    obtain ⟨_, c0, c1, c2, c3, _⟩ := Four.mk' hX
    go_wp2_with fail
    clear c0 c1 c2 c3
    go_loopw [5, 15] (fun sv i wr => ∃ k : Nat, k ≤ n ∧ i = .int .i64 k ∧ sv = .int .u64 (bs s n) ∧ (∀ a (q : Nat → Bool), a < k → (∀ x, x < n → (q x = true ↔ Mkd n zs e (fun y => s y || decide (y = a)) x)) → bs q n = bs s n ∨ ¬ isPw (lst n q).length p) ∧ Blk wr w.heap.size 64 [.int .i64 n, v, .int .i64 e, u] ∧ Below w.heap.size w wr) (fun _ i _ => n - (intOf i).toNat)
    case atStart => exact ⟨0, Nat.zero_le _, rfl, rfl, fun a q h => by omega, hX, hB⟩
    case round =>
      clear hX hB
      obtain ⟨k, hk, rfl, rfl, hno, hX, hB⟩ := hrel
      have HN := hide hno
      clear hno
      by_cases hlt : k < n
      · obtain ⟨_, c0, c1, c2, c3, _⟩ := Four.mk' hX
        obtain ⟨r, hr⟩ := mkd_ex' n zs e (fun y => s y || decide (y = k))
        have HR := hide hr
        clear hr
        have HMX := hide (fun W (h : Below w.heap.size w W) => HMA.out W (fun y => s y || decide (y = k)) r h HR.out)
        have hor : Go.bits BinOp.or IntKind.u64 (bs s n : Int) (bs (fun a => decide (a = k)) n : Int) = (bs (fun y => s y || decide (y = k)) n : Int) := or_bs _ _ hn
        have HO1 := hide (fun (W : World) (g : Nat) (hc : W.cell? ⟨g, 0, none⟩ = some (.int .i64 k)) => HO1.out W g k hlt hc)
        have hS : ∀ W, Below wr.heap.size wr W → ((fun W9 => Below wr.heap.size wr W9 ∧ W9.cell? ⟨w.heap.size, 0, none⟩ = some (.int .i64 n) ∧ W9.cell? ⟨w.heap.size, 1, none⟩ = some v ∧ W9.cell? ⟨w.heap.size, 2, none⟩ = some (.int .i64 e) ∧ W9.cell? ⟨w.heap.size, 3, none⟩ = some u) W) := fun W h => ⟨h, below_cell h c0, below_cell h c1, below_cell h c2, below_cell h c3⟩
        have hS0 := hS _ (bdrew (Below.refl _ wr))
        have hki : (k : Int) < (n : Int) := by omega
        generalize bs (fun y => s y || decide (y = k)) n = Q9 at *
        generalize bs (fun a => decide (a = k)) n = Q2 at *
        go_wp2_with fail
        clear c0 c1 c2 c3
        have hBc : Below wr.heap.size wr wr.drew := bdrew (Below.refl _ wr)
        refine wp_region_held_drew (S := (fun W9 => Below wr.heap.size wr W9 ∧ W9.cell? ⟨w.heap.size, 0, none⟩ = some (.int .i64 n) ∧ W9.cell? ⟨w.heap.size, 1, none⟩ = some v ∧ W9.cell? ⟨w.heap.size, 2, none⟩ = some (.int .i64 e) ∧ W9.cell? ⟨w.heap.size, 3, none⟩ = some u)) (by kernel_rfl) hS0 (fun hHeld => ?_)
        refine wpAnyH_take (i := 0) (oi := ({ dst := some 18, op := Go.Op.load 64 (Go.Operand.tmp 2), type := 64, pos := _, after := #[], guard := none } : Oper)) (v := ?_) rfl (by kernel_rfl) (by kernel_rfl) (by kernel_rfl) (fun _ _ _ h => h) (Or.inl ⟨by rfl, ?_⟩) (by assumption) ?_
        rotate_left
        · (intro w hSw; (try dsimp only at hSw); go_simp; try with_reducible rfl)
        simp only [Act.put, List.setIfInBounds_toArray, List.set_cons_zero, List.set_cons_succ]
        refine wpAnyH_take (i := 1) (oi := ({ dst := some 19, op := Go.Op.move (Go.Operand.tmp 5), type := 70, pos := _, after := #[], guard := none } : Oper)) (v := ?_) rfl (by kernel_rfl) (by kernel_rfl) (by kernel_rfl) (fun _ _ _ h => h) (Or.inl ⟨by rfl, ?_⟩) (by assumption) ?_
        rotate_left
        · (intro w hSw; (try dsimp only at hSw); go_simp; try with_reducible rfl)
        simp only [Act.put, List.setIfInBounds_toArray, List.set_cons_zero, List.set_cons_succ]
        refine wpAnyH_take (i := 2) (oi := ({ dst := some 20, op := Go.Op.move (Go.Operand.tmp 6), type := 3, pos := _, after := #[], guard := none } : Oper)) (v := ?_) rfl (by kernel_rfl) (by kernel_rfl) (by kernel_rfl) (fun _ _ _ h => h) (Or.inl ⟨by rfl, ?_⟩) (by assumption) ?_
        rotate_left
        · (intro w hSw; (try dsimp only at hSw); go_simp; try with_reducible rfl)
        simp only [Act.put, List.setIfInBounds_toArray, List.set_cons_zero, List.set_cons_succ]
        refine wpAnyH_ready (rs := [3]) (by kernel_rfl) (by simp) (AllReadyH.cons (o := ({ dst := some 21, op := Go.Op.buildSlice 22 1 #[(0, Go.Operand.tmp 20)], type := 22, pos := _, after := #[{ on := 2, ground := Go.Ground.data }], guard := none } : Oper)) rfl (fun KK hK => ?_) AllReadyH.nil)
        go_simp
        have hBd := bcat2 hBc (balloc _ (.cells #[.int .i64 (k : Int)] 3))
        refine hK.out _ _ (hS _ hBd) (fun hHeld => ?_)
        clear hK
        try simp only [Act.put, List.setIfInBounds_toArray, List.set_cons_zero, List.set_cons_succ]
        refine wpAnyH_ready (rs := [4]) (by kernel_rfl) (by simp) (AllReadyH.cons (o := ({ dst := some 22, op := Go.Op.call { callee := Go.Callee.value (Go.Operand.func 102), args := #[Go.Operand.tmp 21], argTypes := #[22] }, type := 70, pos := _, after := #[{ on := 3, ground := Go.Ground.data }], guard := none } : Oper)) rfl (fun KK hK => ?_) AllReadyH.nil)
        go_simp
        refine (HO1.out _ _ (by simp)).mono ?_
        rintro e6 U2 ⟨rfl, rfl⟩
        try go_wp2_with fail
        refine hK.out _ _ (hS _ hBd) (fun hHeld => ?_)
        clear hK
        try simp only [Act.put, List.setIfInBounds_toArray, List.set_cons_zero, List.set_cons_succ]
        refine wpAnyH_take (i := 5) (oi := ({ dst := some 23, op := Go.Op.binOp Go.BinOp.or 70 (Go.Operand.tmp 19) (Go.Operand.tmp 22) 70, type := 70, pos := _, after := #[{ on := 1, ground := Go.Ground.data }, { on := 4, ground := Go.Ground.data }], guard := none } : Oper)) (v := ?_) rfl (by kernel_rfl) (by kernel_rfl) (by kernel_rfl) (fun _ _ _ h => h) (Or.inl ⟨by rfl, ?_⟩) (by assumption) ?_
        rotate_left
        · (intro w hSw; (try dsimp only at hSw); go_simp; try with_reducible rfl)
        simp only [Act.put, List.setIfInBounds_toArray, List.set_cons_zero, List.set_cons_succ]
        refine wpAnyH_ready (rs := [6]) (by kernel_rfl) (by simp) (AllReadyH.cons (o := ({ dst := some 24, op := Go.Op.call { callee := Go.Callee.value (Go.Operand.func 71), args := #[Go.Operand.tmp 18, Go.Operand.tmp 23], argTypes := #[64, 70] }, type := 70, pos := _, after := #[{ on := 0, ground := Go.Ground.data }, { on := 5, ground := Go.Ground.data }, { on := 4, ground := Go.Ground.chain }], guard := none } : Oper)) rfl (fun KK hK => ?_) AllReadyH.nil)
        go_simp
        refine (HMX.out _ (bcat2 hB hBd)).mono ?_
        rintro e7 U3 ⟨rfl, hl3⟩
        try go_wp2_with fail
        have hBe := bcat2 hBd hl3
        refine hK.out _ _ (hS _ hBe) (fun hHeld => ?_)
        clear hK
        try simp only [Act.put, List.setIfInBounds_toArray, List.set_cons_zero, List.set_cons_succ]
        refine wpAnyH_take (i := 7) (oi := ({ dst := some 7, op := Go.Op.assign (Go.Operand.tmp 24), type := 70, pos := _, after := #[{ on := 6, ground := Go.Ground.data }, { on := 6, ground := Go.Ground.chain }, { on := 0, ground := Go.Ground.phase }, { on := 1, ground := Go.Ground.phase }, { on := 2, ground := Go.Ground.phase }, { on := 3, ground := Go.Ground.phase }, { on := 4, ground := Go.Ground.phase }, { on := 5, ground := Go.Ground.phase }, { on := 6, ground := Go.Ground.phase }], guard := none } : Oper)) (v := ?_) rfl (by kernel_rfl) (by kernel_rfl) (by kernel_rfl) (fun _ _ _ h => h) (Or.inl ⟨by rfl, ?_⟩) (by assumption) ?_
        rotate_left
        · (intro w hSw; (try dsimp only at hSw); go_simp; try with_reducible rfl)
        simp only [Act.put, List.setIfInBounds_toArray, List.set_cons_zero, List.set_cons_succ]
        refine wpAnyH_done (by kernel_rfl) ?_ _
        clear hHeld hS hS0 hor
        have hXe := blk_below hX hBe
        have hBf := bcat2 hB hBe
        by_cases hrs : bs r n = bs s n
        · have HRS := hide hrs
          rw [hrs]
          clear hrs
          go_wp2
          go_roundw
          case rel => exact ⟨k + 1, by omega, by go_num, rfl, fun a q ha hq => by
            by_cases hak : a < k
            · exact HN.out a q hak hq
            · have hak : a = k := by omega
              subst hak
              exact .inl ((bs_ext fun x hx => by rw [Bool.eq_iff_iff]; exact (hq x hx).trans (HR.out x hx).symm).trans HRS.out), hXe, hBf⟩
          case measure => simp [intOf]; omega
        · have hne : ((bs r n : Int) != (bs s n : Int)) = true := by
            have : ¬ (bs r n : Int) = (bs s n : Int) := by omega
            simpa using this
          have hln := lst_len n r
          have hle : 1 ≤ (lst n r).length := List.length_pos_of_mem (mem_lst.2 ⟨hen, (HR.out e hen).2 (Fin.Gen.sg _).one⟩)
          have hsub : ∀ x, x < n → s x = true → r x = true := fun x hx h1 => (HR.out x hx).2 (Fin.Gen.base (List.mem_range.2 hx) (by simp [h1]))
          have hgt : (lst n s).length < (lst n r).length := (lst_less hsub).2 (Classical.byContradiction fun h9 => hrs (bs_ext fun x hx => by
            cases h1 : r x with
            | true =>
              cases h2 : s x with
              | true => rfl
              | false => exact absurd ⟨x, hx, h1, by simp [h2]⟩ h9
            | false =>
              cases h2 : s x with
              | true => rw [hsub x hx h2] at h1; cases h1
              | false => rfl))
          have HPO := hide (fun W => isPower_ok (lst n r).length p W hle (by omega) hp2 hp1)
          go_wp2_with fail
          refine (HLN.out r _).mono ?_
          rintro e8 U4 ⟨rfl, rfl⟩
          go_wp2_with fail
          refine (HPO.out _).mono ?_
          rintro e9 U5 ⟨b, rfl, hb, hb5⟩
          have HBB := hide hb
          clear hb
          have hXg := blk_below hXe hb5
          have hBg := bcat2 hBf hb5
          cases b with
          | true =>
            have HPR := hide (HBB.out.1 rfl)
            clear HBB
            have hcr := Pop.cnt_bs r hn
            have hcs := Pop.cnt_bs s hn
            have HSR := hide (show subT n zs e r = true from subT_iff.2 ⟨(HR.out e hen).2 (Fin.Gen.sg _).one, fun a b ha hb h1 h2 => (HR.out _ (tm_lt HGR.out.tab (List.mem_range.1 ha) (List.mem_range.1 hb))).2 ((Fin.Gen.sg _).mul a b ha hb ((HR.out a (List.mem_range.1 ha)).1 h1) ((HR.out b (List.mem_range.1 hb)).1 h2))⟩)
            go_wp2
            go_roundw
            case rel => exact ⟨r, rfl, HSR.out, HPR.out, hXg, hBg⟩
            case measure => simp [intOf]; omega
          | false =>
            have HPR := hide (show ¬ isPw (lst n r).length p from fun h9 => by have := HBB.out.2 h9; cases this)
            clear HBB
            go_wp2
            go_roundw
            case rel => exact ⟨k + 1, by omega, by go_num, rfl, fun a q ha hq => by
              by_cases hak : a < k
              · exact HN.out a q hak hq
              · have hak : a = k := by omega
                subst hak
                rw [lst_same (fun x hx => (hq x hx).trans (HR.out x hx).symm)]
                exact .inr HPR.out, hXg, hBg⟩
            case measure => simp [intOf]; omega
      · have hki : ¬ (k : Int) < (n : Int) := by omega
        have hkk : k = n := by omega
        have HNN := hide (fun a (q : Nat → Bool) (ha : a < n) => HN.out a q (by omega))
        go_wp2
        go_ret
        exact ⟨s, rfl, ⟨HS.out, HPW.out, HNN.out⟩, hB⟩
end Go.Proofs.YtolbpjjjoafkkaaDoor

namespace Go.Proofs.YtolbpjjjoafkkaaDoor
open Go Go.RowKit

/-- The commutators of things of two lists. -/
def cmq (n : Nat) (zs : List Int) (e : Nat) (xs ys : List Nat) (y : Nat) : Bool := xs.any fun a => ys.any fun b => decide (Fin.cm (tm n zs) (iv n zs e) a b = y)
theorem bs_put {n t : Nat} {p q : Nat → Bool} (hn : n ≤ 60) (h : ∀ y, q y = (p y || decide (y = t))) : bits BinOp.or IntKind.u64 (bs p n : Int) (bs (fun y => decide (y = t)) n : Int) = (bs q n : Int) := by
  rw [or_bs p _ hn]
  congr 2
  funext y
  rw [h y]

end Go.Proofs.YtolbpjjjoafkkaaDoor

namespace Go.Proofs.YtolbpjjjoafkkaaDoor
open Go Go.RowKit

/-- The conjugates by a of a list's things. -/
def cjl (n : Nat) (zs : List Int) (e : Nat) (xs : List Nat) (a y : Nat) : Bool := xs.any fun x => decide (Fin.cj (tm n zs) (iv n zs e) x a = y)
abbrev cjq (n : Nat) (zs : List Int) (e : Nat) (q : Nat → Bool) (a : Nat) : Nat → Bool := cjl n zs e (lst n q) a
/-- Is a set, conjugated by a, the same? -/
def norq (n : Nat) (zs : List Int) (e : Nat) (q : Nat → Bool) (a : Nat) : Bool := decide (bs (cjq n zs e q a) n = bs q n)
end Go.Proofs.YtolbpjjjoafkkaaDoor

namespace Go.Proofs.YtolbpjjjoafkkaaDoor
open Go Go.RowKit

/-- What a set has, by whatever it is conjugated. -/
def corq (n : Nat) (zs : List Int) (e : Nat) (q : Nat → Bool) (k y : Nat) : Bool := q y && (List.range k).all fun a => cjq n zs e q a y
/-- All conjugates of a set. -/
def cloq (n : Nat) (zs : List Int) (e : Nat) (q : Nat → Bool) (k y : Nat) : Bool := (List.range k).any fun a => cjq n zs e q a y
def nrmq (n : Nat) (zs : List Int) (e : Nat) (q : Nat → Bool) : Bool := decide (bs (norq n zs e q) n = bs (fun _ => true) n)

end Go.Proofs.YtolbpjjjoafkkaaDoor

namespace Go.Proofs.YtolbpjjjoafkkaaDoor
open Go Go.RowKit

theorem box1 (w : World) (x y z : Value) (t : TypeId) : Boxed ((w.alloc (.cells #[x] t)).alloc (.cells #[y, z] 27)) w.heap.size t x ∧ Blk ((w.alloc (.cells #[x] t)).alloc (.cells #[y, z] 27)) (w.heap.size + 1) 27 [y, z] ∧ Below w.heap.size w ((w.alloc (.cells #[x] t)).alloc (.cells #[y, z] 27)) := by
  refine ⟨(Boxed.new w t x).alloc _, ?_, (balloc w _).alloc (by simp) _⟩
  have := blk0 (w := w.alloc (.cells #[x] t)) (T := 27) y z
  rwa [World.size_alloc] at this

end Go.Proofs.YtolbpjjjoafkkaaDoor

namespace Go.Proofs.YtolbpjjjoafkkaaDoor
open Go Go.RowKit

/-- DEDEKIND'S LAW, of tests. -/
theorem dedekind_math {n e : Nat} {zs : List Int} (g : IsGrp n zs e) {p q r : Nat → Bool} (Sp : Fin.Sg (List.range n) (tm n zs) e (fun a => p a = true)) (Sr : Fin.Sg (List.range n) (tm n zs) e (fun a => r a = true)) (hpr : ∀ a, a < n → p a = true → r a = true) :
    lst n (prq n zs e (lst n p) (lst n fun a => q a && r a)) = lst n (fun a => prq n zs e (lst n p) (lst n q) a && r a) := by
  refine lst_congr fun x hx => ?_
  rw [Bool.eq_iff_iff, Bool.and_eq_true, prq_iff g hx, prq_iff g hx]
  constructor
  · rintro ⟨a, b, ha, hb, hpa, hqb, he⟩
    simp only [Bool.and_eq_true] at hqb
    refine ⟨⟨a, b, ha, hb, hpa, hqb.1, he⟩, ?_⟩
    rw [← he]
    exact Sr.mul a b ha hb (hpr a (List.mem_range.1 ha) hpa) hqb.2
  · rintro ⟨⟨a, b, ha, hb, hpa, hqb, he⟩, hrx⟩
    refine ⟨a, b, ha, hb, hpa, ?_, he⟩
    simp only [Bool.and_eq_true]
    refine ⟨hqb, ?_⟩
    have ha' := List.mem_range.1 ha
    have hb' := List.mem_range.1 hb
    obtain ⟨h1, h2, h3, _⟩ := iv_spec g ha'
    have h4 : b = tm n zs (iv n zs e a) x := by rw [← he, ← g.ass _ _ _ h1 ha' hb', h3, g.left b hb']
    rw [h4]
    exact Sr.mul _ _ (List.mem_range.2 h1) (List.mem_range.2 hx) (hpr _ h1 (Sp.inv (grp_fg g) ha (List.mem_range.2 h1) h2 hpa)) hrx
theorem both_li {n : Nat} {p q : Nat → Bool} : (li (lst n p)).filter (fun a => decide (a ∈ li (lst n q))) = li (lst n fun a => p a && q a) := by
  unfold li
  rw [List.filter_map]
  congr 1
  unfold lst
  rw [List.filter_filter]
  refine List.filter_congr fun a ha => ?_
  have h9 := mem_li (xs := lst n q) (a := a)
  unfold li lst at h9
  show (decide ((a : Int) ∈ List.map (fun (x : Nat) => (x : Int)) ((List.range n).filter q)) && p a) = (p a && q a)
  rw [Bool.and_comm]
  congr 1
  rw [Bool.eq_iff_iff, decide_eq_true_eq, h9, List.mem_filter]
  exact ⟨fun h => h.2, fun h => ⟨ha, h⟩⟩
end Go.Proofs.YtolbpjjjoafkkaaDoor

namespace Go.Proofs.YtolbpjjjoafkkaaDoor
open Go Go.RowKit

/-- What lies behind the third Made: its list, and a fault in a box that is none. -/
def DRel (w5 : World) (zs : List Int) (s13 s14 : Value) (W : World) : Prop := ∃ fb a l c, s13 = .slice a l c ∧ s14 = .pointer (some ⟨fb, 0, none⟩) ∧ Blk W fb 27 [.int .i64 0, .int .i64 0] ∧ Sl W (.slice a l c) zs ∧ Below w5.heap.size w5 W
theorem blkd {w : World} {T : TypeId} (x y : Value) : Blk (w.alloc (.cells #[x, y] T)).drew w.heap.size T [x, y] := blk0 (w := w) x y
theorem cell_eq {a b : World} (h : Below a.heap.size a b) (p : Addr) (hp : (a.cell? p).isSome = true) : b.cell? p = a.cell? p := by
  obtain ⟨v, hv⟩ := Option.isSome_iff_exists.1 hp
  rw [hv]; exact below_cell h hv
theorem frozen_eq {a b : World} (h : Below a.heap.size a b) (p : Addr) (hp : (a.cell? p).isSome = true) : b.frozen? p = a.frozen? p := by
  obtain ⟨v, hv⟩ := Option.isSome_iff_exists.1 hp
  exact World.frozen?_of_block (h.block _ (World.block_lt_of_cell? a p hv))
theorem those_sl {f : Nat} {args : Array Value} {w : World} {zs : List Int} (h0 : 0 < w.heap.size) (h : Calls Tryd.prog f args w fun x w' => ∃ r, x = .returned r ∧ Row w' w.heap.size r zs ∧ Below w.heap.size w w') :
    Calls Tryd.prog f args w fun x w' => ∃ a l c, x = .returned (.slice a l c) ∧ Sl w' (.slice a l c) zs ∧ Below w.heap.size w w' := by
  refine h.mono ?_
  rintro x w' ⟨r, rfl, hr, hb⟩
  have hs := row_sl hr (Nat.lt_of_lt_of_le h0 hb.size)
  obtain ⟨a, l, c, rfl⟩ := hs.isSlice
  exact ⟨a, l, c, rfl, hs, hb⟩
theorem set_same (W : World) (b o : Nat) (v : Value) (h : W.cell? ⟨b, o, none⟩ = some v) : W.setCell ⟨b, o, none⟩ v = W := by
  unfold World.cell? at h
  cases hb : W.heap[b]? with
  | none => simp [hb] at h
  | some ob =>
    cases ob with
    | cells c T fz =>
      refine setCell_self hb ?_
      simp [hb] at h
      obtain ⟨h1, h2⟩ := Array.getElem?_eq_some_iff.1 h
      apply Array.ext
      · simp
      · intro i h3 h4
        rw [Array.getElem_setIfInBounds (by simpa using h4)]
        split
        · rename_i e; subst e; exact h2.symm
        · rfl
    | _ => simp [hb] at h
theorem Sl.alloc {w : World} {v : Value} {zs : List Int} (h : Sl w v zs) (o : Obj) : Sl (w.alloc o) v zs := h.below (balloc w o)

end Go.Proofs.YtolbpjjjoafkkaaDoor

namespace Go.Proofs.YtolbpjjjoafkkaaDoor
open Go Go.RowKit

/-- All numbers below n, as a set. -/
theorem full_fault (n : Nat) : lfault n (li (List.range n)) = (0, 0) := by
  refine lfault_ok (by simp [li]) fun t ht => ?_
  have ht : t < n := by simpa [li] using ht
  have h1 : (li (List.range n))[t]?.getD 0 = (t : Int) := by simp [li, ht]
  have h2 : rbad n (li (List.range n)) t = false := by unfold rbad; rw [h1]; simp; omega
  have h3 : fbad (li (List.range n)) t = false := by
    unfold fbad
    rw [h1, decide_eq_false_iff_not]
    rintro ⟨h4, h5⟩
    have h6 : t - 1 < n := by omega
    have h7 : (li (List.range n))[t - 1]?.getD 0 = ((t - 1 : Nat) : Int) := by simp [li, h6]
    rw [h7] at h5; omega
  rw [h2, h3]; rfl
theorem full_pset (n : Nat) : lst n (pset (li (List.range n))) = List.range n := by
  unfold lst
  rw [List.filter_eq_self]
  intro a ha
  unfold pset
  rw [decide_eq_true_eq]
  exact List.mem_map.2 ⟨a, ha, rfl⟩
/-- The commutators of all things make what Fin.Cms makes. -/
theorem cms_iff {n e : Nat} {zs : List Int} (a : Nat) : Mkd n zs e (cmq n zs e (List.range n) (List.range n)) a ↔ Fin.Gen (List.range n) (tm n zs) e (Fin.Cms (List.range n) (tm n zs) (iv n zs e)) a := by
  have h : ∀ x, (cmq n zs e (List.range n) (List.range n) x = true ↔ Fin.Cms (List.range n) (tm n zs) (iv n zs e) x) := fun x => by
    unfold cmq Fin.Cms
    simp only [List.any_eq_true, decide_eq_true_eq]
    exact ⟨fun ⟨a, ha, b, hb, hc⟩ => ⟨a, b, ha, hb, hc⟩, fun ⟨a, b, ha, hb, hc⟩ => ⟨a, ha, b, hb, hc⟩⟩
  exact ⟨fun hg => Fin.Gen.mono (fun x _ hx => (h x).1 hx) hg, fun hg => Fin.Gen.mono (fun x _ hx => (h x).2 hx) hg⟩
/-- All commute just where the centre is all. -/
theorem cen_all {n : Nat} {zs : List Int} : comB n zs = decide ((lst n (cenq n zs fun _ => true)).length = n) := by
  have hl : lst n (fun _ => true) = List.range n := by unfold lst; simp
  rw [Bool.eq_iff_iff, decide_eq_true_eq, comB_iff]
  have hlen : (lst n (cenq n zs fun _ => true)).length = n ↔ ∀ a, a < n → cenq n zs (fun _ => true) a = true := by
    unfold lst
    have := List.length_filter_eq_length_iff (l := List.range n) (p := cenq n zs fun _ => true)
    rw [List.length_range] at this
    rw [this]
    exact ⟨fun h a ha => h a (List.mem_range.2 ha), fun h a ha => h a (List.mem_range.1 ha)⟩
  rw [hlen]
  constructor
  · intro h a ha
    unfold cenq
    rw [hl, List.all_eq_true]
    intro x hx
    simpa using h a x ha (List.mem_range.1 hx)
  · intro h a b ha hb
    have := h a ha
    unfold cenq at this
    rw [hl, List.all_eq_true] at this
    simpa using this b (List.mem_range.2 hb)
/-- All commute just where the commutators make the one alone. -/
theorem der_all {n e : Nat} {zs : List Int} (g : IsGrp n zs e) {p : Nat → Bool} (hp : ∀ a, a < n → (p a = true ↔ Mkd n zs e (cmq n zs e (List.range n) (List.range n)) a)) : comB n zs = decide ((lst n p).length = 1) := by
  rw [Bool.eq_iff_iff, decide_eq_true_eq, comB_iff]
  have hd := Fin.der_one (grp_fg g) (grp_iv g)
  have he : p e = true := (hp e g.elt).2 ((Fin.Gen.sg _).one)
  have hem : e ∈ lst n p := mem_lst.2 ⟨g.elt, he⟩
  have h1 : (∀ a b, a < n → b < n → tm n zs a b = tm n zs b a) ↔ ∀ a, a < n → p a = true → a = e := by
    constructor
    · intro h a ha hpa
      exact hd.2 (fun a b ha hb => h a b (List.mem_range.1 ha) (List.mem_range.1 hb)) a (List.mem_range.2 ha) ((cms_iff a).1 ((hp a ha).1 hpa))
    · intro h a b ha hb
      exact hd.1 (fun a ha hg => h a (List.mem_range.1 ha) ((hp a (List.mem_range.1 ha)).2 ((cms_iff a).2 hg))) a b (List.mem_range.2 ha) (List.mem_range.2 hb)
  rw [h1]
  constructor
  · intro h
    have : lst n p = [e] := rise_eq (lst_rise n p) (by simp) fun a => by
      rw [mem_lst, List.mem_singleton]
      exact ⟨fun ⟨h1, h2⟩ => h a h1 h2, fun h1 => by subst h1; exact ⟨g.elt, he⟩⟩
    rw [this]; rfl
  · intro h a ha hpa
    obtain ⟨x, hx⟩ := List.length_eq_one_iff.1 h
    have h2 : a ∈ lst n p := mem_lst.2 ⟨ha, hpa⟩
    rw [hx, List.mem_singleton] at h2 hem
    rw [h2, hem]

end Go.Proofs.YtolbpjjjoafkkaaDoor

namespace Go.Proofs.YtolbpjjjoafkkaaDoor
open Go

theorem cjq_iff {n e : Nat} {zs : List Int} {q : Nat → Bool} {a y : Nat} : cjq n zs e q a y = true ↔ ∃ x, x ∈ List.range n ∧ q x = true ∧ Fin.cj (tm n zs) (iv n zs e) x a = y := by
  unfold cjq cjl
  simp only [List.any_eq_true, decide_eq_true_eq, mem_lst]
  exact ⟨fun ⟨x, ⟨h1, h2⟩, h3⟩ => ⟨x, List.mem_range.2 h1, h2, h3⟩, fun ⟨x, h1, h2, h3⟩ => ⟨x, ⟨List.mem_range.1 h1, h2⟩, h3⟩⟩
variable {n e : Nat} {zs : List Int} {q : Nat → Bool}
theorem nor_iff (a : Nat) : norq n zs e q a = true ↔ Fin.Nor (List.range n) (tm n zs) (iv n zs e) (fun x => q x = true) a := by
  unfold norq Fin.Nor
  rw [decide_eq_true_eq]
  constructor
  · intro h y hy
    have := bs_inj h y (List.mem_range.1 hy)
    rw [← cjq_iff, this]
  · intro h
    refine bs_ext fun y hy => ?_
    rw [Bool.eq_iff_iff, cjq_iff]
    exact h y (List.mem_range.2 hy)
theorem nrm_iff (g : IsGrp n zs e) : nrmq n zs e q = true ↔ Fin.Nm (List.range n) (tm n zs) (iv n zs e) (fun x => q x = true) := by
  unfold nrmq
  rw [decide_eq_true_eq, ← Fin.nor_all (grp_fg g) (grp_iv g)]
  constructor
  · intro h a ha
    exact (nor_iff a).1 (bs_inj h a (List.mem_range.1 ha))
  · intro h
    exact bs_ext fun a ha => (nor_iff a).2 (h a (List.mem_range.2 ha))
theorem cor_iff (g : IsGrp n zs e) {y : Nat} (hy : y < n) : corq n zs e q n y = true ↔ Fin.Core (List.range n) (tm n zs) (iv n zs e) (fun x => q x = true) y := by
  have hF := grp_fg g
  have hV := grp_iv g
  unfold corq
  rw [Bool.and_eq_true, List.all_eq_true]
  constructor
  · rintro ⟨_, h⟩ b hb
    obtain ⟨x, hx, hq, hc⟩ := cjq_iff.1 (h _ (hV b hb).1)
    rw [← hc, (Fin.cj_back hF hV hx hb).2]
    exact hq
  · intro h
    refine ⟨Fin.core_in hF hV (List.mem_range.2 hy) h, fun a ha => ?_⟩
    exact cjq_iff.2 ⟨_, Fin.cj_mem hF hV (List.mem_range.2 hy) (hV a ha).1, h _ (hV a ha).1, (Fin.cj_back hF hV (List.mem_range.2 hy) ha).2⟩
theorem clo_iff (y : Nat) : cloq n zs e q n y = true ↔ Fin.Conj (List.range n) (tm n zs) (iv n zs e) (fun x => q x = true) y := by
  unfold cloq Fin.Conj
  rw [List.any_eq_true]
  constructor
  · rintro ⟨a, ha, h⟩
    obtain ⟨x, hx, hq, hc⟩ := cjq_iff.1 h
    exact ⟨x, a, hx, ha, hq, hc⟩
  · rintro ⟨x, a, hx, ha, hq, hc⟩
    exact ⟨a, ha, cjq_iff.2 ⟨x, hx, hq, hc⟩⟩
theorem mkd_clo (a : Nat) : Mkd n zs e (cloq n zs e q n) a ↔ Fin.Gen (List.range n) (tm n zs) e (Fin.Conj (List.range n) (tm n zs) (iv n zs e) (fun x => q x = true)) a :=
  ⟨fun h => Fin.Gen.mono (fun x _ hx => (clo_iff x).1 hx) h, fun h => Fin.Gen.mono (fun x _ hx => (clo_iff x).2 hx) h⟩
theorem cen_iff (a : Nat) : cenq n zs (fun _ => true) a = true ↔ Fin.Cen' (List.range n) (tm n zs) a := by
  unfold cenq Fin.Cen'
  rw [List.all_eq_true]
  have hl : lst n (fun _ => true) = List.range n := by unfold lst; simp
  rw [hl]
  exact ⟨fun h x hx => by simpa using h x hx, fun h x hx => by simpa using h x hx⟩
/-- A test that says, of things, what a subgroup's property says. -/
theorem sg_test (g : IsGrp n zs e) {P : Nat → Prop} (S : Fin.Sg (List.range n) (tm n zs) e P) (h : ∀ a, a < n → (q a = true ↔ P a)) : subT n zs e (pset (li (lst n q))) = true := by
  rw [subT_congr g (q := q) (fun a ha => pset_lst ha), subT_iff]
  refine ⟨(h e g.elt).2 S.one, fun a b ha hb h1 h2 => ?_⟩
  have ha' := List.mem_range.1 ha
  have hb' := List.mem_range.1 hb
  exact (h _ (tm_lt g.tab ha' hb')).2 (S.mul a b ha hb ((h a ha').1 h1) ((h b hb').1 h2))
theorem nm_test (g : IsGrp n zs e) {P : Nat → Prop} (N : Fin.Nm (List.range n) (tm n zs) (iv n zs e) P) (h : ∀ a, a < n → (q a = true ↔ P a)) : nrmq n zs e (pset (li (lst n q))) = true := by
  rw [nrm_iff g]
  intro x a hx ha hp
  have hc := Fin.cj_mem (grp_fg g) (grp_iv g) hx ha
  have hx' := List.mem_range.1 hx
  have hc' := List.mem_range.1 hc
  rw [pset_lst hx'] at hp
  rw [pset_lst hc']
  exact (h _ hc').2 (N x a hx ha ((h x hx').1 hp))
theorem part_lst {p q : Nat → Bool} (h : ∀ a, a < n → p a = true → q a = true) : ((li (lst n p)).all fun a => decide (a ∈ li (lst n q))) = true := by
  rw [List.all_eq_true]
  intro z hz
  obtain ⟨a, ha, rfl⟩ := List.mem_map.1 hz
  obtain ⟨h4, h5⟩ := mem_lst.1 ha
  simpa using (mem_li.2 (mem_lst.2 ⟨h4, h a h4 h5⟩))
theorem li_inj {xs ys : List Nat} (h : li xs = li ys) : xs = ys := by
  unfold li at h
  exact (List.map_inj_right (f := fun (x : Nat) => (x : Int)) (fun a b h => by omega)).1 h
theorem lst_inj {p q : Nat → Bool} : lst n p = lst n q ↔ ∀ a, a < n → (p a = true ↔ q a = true) := by
  constructor
  · intro h a ha
    have h1 := mem_lst (n := n) (p := p) (a := a)
    have h2 := mem_lst (n := n) (p := q) (a := a)
    rw [h] at h1
    exact ⟨fun hp => (h2.1 (h1.2 ⟨ha, hp⟩)).2, fun hq => (h1.1 (h2.2 ⟨ha, hq⟩)).2⟩
  · intro h
    exact lst_congr fun a ha => by rw [Bool.eq_iff_iff]; exact h a ha
/-- What SubChains asks at its end: a subgroup is normal just where it is its core, its closure, and its normaliser is all. -/
theorem chain_math (g : IsGrp n zs e) (S : Fin.Sg (List.range n) (tm n zs) e (fun a => q a = true)) {pk : Nat → Bool} (hk : ∀ a, a < n → (pk a = true ↔ Mkd n zs e (cloq n zs e q n) a)) :
    nrmq n zs e q = decide (li (lst n (corq n zs e q n)) = li (lst n q)) ∧ nrmq n zs e q = decide (li (lst n pk) = li (lst n q)) ∧ nrmq n zs e q = decide ((lst n (norq n zs e q)).length = n) := by
  have hF := grp_fg g
  have hV := grp_iv g
  refine ⟨?_, ?_, ?_⟩
  · rw [Bool.eq_iff_iff, decide_eq_true_eq, nrm_iff g]
    constructor
    · intro hN
      rw [lst_inj.2 fun a ha => (cor_iff g ha).trans ⟨fun h => Fin.core_in hF hV (List.mem_range.2 ha) h, fun h => Fin.core_all hN (List.mem_range.2 ha) h⟩]
    · intro h x a hx ha hp
      have h1 := lst_inj.1 (li_inj h)
      have hc := Fin.cj_mem hF hV hx ha
      have hx' := List.mem_range.1 hx
      have hc' := List.mem_range.1 hc
      exact (h1 _ hc').1 ((cor_iff g hc').2 (Fin.core_nm hF hV x a hx ha ((cor_iff g hx').1 ((h1 x hx').2 hp))))
  · rw [Bool.eq_iff_iff, decide_eq_true_eq, nrm_iff g]
    constructor
    · intro hN
      rw [lst_inj.2 fun a ha => (hk a ha).trans ((mkd_clo a).trans ⟨fun h => Fin.clos_least S hN (fun x _ hx => hx) h, fun h => Fin.clos_has hF hV (List.mem_range.2 ha) h⟩)]
    · intro h x a hx ha hp
      have h1 := lst_inj.1 (li_inj h)
      have hc := Fin.cj_mem hF hV hx ha
      have hx' := List.mem_range.1 hx
      have hc' := List.mem_range.1 hc
      exact (h1 _ hc').1 ((hk _ hc').2 ((mkd_clo _).2 (Fin.clos_nm hF hV x a hx ha ((mkd_clo x).1 ((hk x hx').1 ((h1 x hx').2 hp))))))
  · rw [Bool.eq_iff_iff, decide_eq_true_eq, nrm_iff g, ← Fin.nor_all hF hV]
    have := List.length_filter_eq_length_iff (l := List.range n) (p := norq n zs e q)
    rw [List.length_range] at this
    unfold lst
    rw [this]
    exact ⟨fun h a ha => (nor_iff a).2 (h a ha), fun h a ha => (nor_iff a).1 (h a ha)⟩
end Go.Proofs.YtolbpjjjoafkkaaDoor

namespace Go.Proofs.YtolbpjjjoafkkaaDoor
open Go Go.RowKit Go.Maps

set_option maxRecDepth 100000 in
set_option maxHeartbeats 2000000 in
theorem conjd_ok (n : Nat) (v u : Value) (zs : List Int) (e a : Nat) (q : Nat → Bool) (w : World) (hG : GA w n v e u zs) (hT : Tab w) (ha : a < n) :
    Calls Tryd.prog 90 #[.agg #[.int .i64 n, v, .int .i64 e, u], .int .u64 (bs q n), .int .i64 a] w fun x w' => x = .returned (.int .u64 (bs (cjq n zs e q a) n)) ∧ Below w.heap.size w w' := by
  have hn := hG.le
  have hg := hG.grp
  have hB0 : Below w.heap.size w (w.alloc (.cells #[.int .i64 n, v, .int .i64 e, u] 64)) := balloc w _
  have hX0 := Box4.new w n e v u
  obtain ⟨w0, hw0⟩ : ∃ w0, w0 = w.alloc (.cells #[.int .i64 n, v, .int .i64 e, u] 64) := ⟨_, rfl⟩
  rw [← hw0] at hB0 hX0
  have hT0 := hT.below hB0
  have HL := hide (list_ok n q w0 hn hT0)
  have HM := hide (fun x (h : x ∈ lst n q) => (mem_lst.1 h).1)
  have hll := lst_len n q
  show Calls Tryd.prog 90 _ w fun x w' => x = .returned (.int .u64 (bs (cjl n zs e (lst n q) a) n)) ∧ Below w.heap.size w w'
  generalize lst n q = xs at *
  go_enter Tryd.func90, Tryd.ntmps90
  go_wp2_with fail
  rw [← hw0]
  clear hw0
  refine HL.out.mono ?_
  rintro x w1 ⟨r, rfl, hr, hb1⟩
  obtain ⟨ra, rc, pb, po, rfl, hr, hp, hq3, hq4, _⟩ := hr
  rw [li_len] at hq3 ⊢
  have hB1 := bcat2 hB0 hb1
  have HR := hide hr
  have HLL := hide (li_len xs)
  clear hr hq4
  go_wp2
  go_loopw [7, 13] (fun s i wr => ∃ k : Nat, k ≤ xs.length ∧ i = .int .i64 k ∧ s = .int .u64 (bs (cjl n zs e (xs.take k) a) n) ∧ Below w1.heap.size w1 wr) (fun _ i _ => xs.length - (intOf i).toNat)
  case atStart => exact ⟨0, Nat.zero_le _, rfl, by rw [List.take_zero, show bs (cjl n zs e [] a) n = 0 from bs_none n]; rfl, Below.refl _ _⟩
  case round =>
    obtain ⟨k, hk, rfl, rfl, hB⟩ := hrel
    by_cases hlt : k < xs.length
    · have hck := (HR.out.below hB hp).cell k (by rw [HLL.out]; exact hlt)
      rw [li_get hlt] at hck
      obtain rfl := HR.out.at_ (by rw [HLL.out]; omega)
      obtain ⟨x, hxe⟩ : ∃ x, xs[k] = x := ⟨_, rfl⟩
      have hxn : x < n := by rw [← hxe]; exact HM.out _ (List.getElem_mem hlt)
      have hsn : xs.take (k + 1) = xs.take k ++ [x] := by rw [List.take_succ_eq_append_getElem hlt, hxe]
      rw [hxe] at hck
      have hGr := (hG.below hB1).below hB
      have hct : Fin.cj (tm n zs) (iv n zs e) x a < n := List.mem_range.1 (Fin.cj_mem (grp_fg hg) (grp_iv hg) (List.mem_range.2 hxn) (List.mem_range.2 ha))
      have hor := bs_put (n := n) (t := Fin.cj (tm n zs) (iv n zs e) x a) (p := cjl n zs e (xs.take k) a) (q := cjl n zs e (xs.take (k + 1)) a) hn (fun z => by
        unfold cjl
        rw [hsn, List.any_append]
        simp only [List.any_cons, List.any_nil, Bool.or_false]
        congr 1
        rw [Bool.eq_iff_iff, decide_eq_true_eq, decide_eq_true_eq]
        exact eq_comm)
      have HCM := hide (conj_ok n v u zs e x a wr hGr hxn ha)
      have HOF := hide (fun W b (h : W.cell? ⟨b, 0, none⟩ = some (.int .i64 (Fin.cj (tm n zs) (iv n zs e) x a))) => of_one n b (Fin.cj (tm n zs) (iv n zs e) x a) W hn hct h)
      obtain ⟨g0, g1, g2, g3⟩ := (hX0.below (bcat2 hb1 hB)).cells
      generalize Fin.cj (tm n zs) (iv n zs e) x a = t at *
      generalize bs (fun z => decide (z = t)) n = T9 at *
      clear hsn hxe
      go_wp2_with fail
      refine HCM.out.mono ?_
      rintro x9 w7 ⟨rfl, hb7⟩
      have hB8 := bcat2 hB (bcat2 hb7 (balloc w7 (.cells #[.int .i64 t] 3)))
      clear g0 g1 g2 g3
      go_wp2_with fail
      refine (HOF.out _ _ (cell1 _ _ _)).mono ?_
      rintro x9 w8 ⟨rfl, rfl⟩
      go_wp2
      go_roundw
      case rel => exact ⟨k + 1, by omega, by go_num, rfl, hB8⟩
      case measure => simp [intOf]; omega
    · have hkn : k = xs.length := by omega
      subst hkn
      rw [List.take_length]
      go_wp2
      go_ret
      exact ⟨rfl, bcat2 hB1 hB⟩
theorem und58 : Tryd.prog.underlying 70 = some (.int .u64) := by kernel_rfl
theorem und69 : Tryd.prog.underlying 67 = some (.map 70 96) := by kernel_rfl
theorem key58 : Keyed Tryd.prog 70 := int_keyed und58
/-- A map whose keys are the conjugates of s by the things below k. -/
def Cjs (W : World) (n : Nat) (zs : List Int) (e M k : Nat) (s : Nat → Bool) : Prop :=
  ∃ D : DataW Unit, W.ownsMap Tryd.prog 70 unitElem M k D ∧ ∀ t : Nat, Maps.has D (.int .u64 t) = true ↔ ∃ a, a < k ∧ t = bs (cjq n zs e s a) n
theorem below_grown' {w w' : World} (h : Below w.heap.size w w') (row : Option Nat) : w.grownBy w' row := ⟨h.os, h.tape, h.output, h.size, fun b hb _ => h.block b hb⟩
theorem Cjs.below {W W' : World} {n e M k : Nat} {zs : List Int} {s : Nat → Bool} (h : Cjs W n zs e M k s) (hb : Below W.heap.size W W') : Cjs W' n zs e M k s := by
  obtain ⟨D, h1, h2⟩ := h
  exact ⟨D, h1.kept (below_grown' hb none) (by simp), h2⟩
set_option maxRecDepth 100000 in
set_option maxHeartbeats 4000000 in
theorem sgs_ok (n e p : Nat) (v u : Value) (zs : List Int) (w : World) (hG : GA w n v e u zs) (hT : Tab w) (hp2 : 2 ≤ p) (hp1 : p ≤ 100) :
    Calls Tryd.prog 55 #[.agg #[.int .i64 n, v, .int .i64 e, u], .int .i64 p] w fun x w' => ∃ (s : Nat → Bool) (M : Nat), x = .returned (.map (some M)) ∧ w.heap.size ≤ M ∧ Grown n zs e p s ∧ Cjs w' n zs e M n s ∧ Below w.heap.size w w' := by
  have hn := hG.le
  have hB0 : Below w.heap.size w (w.alloc (.cells #[.int .i64 n, v, .int .i64 e, u] 64)) := balloc w _
  have hX0 : Blk (w.alloc (.cells #[.int .i64 n, v, .int .i64 e, u] 64)) w.heap.size 64 [.int .i64 n, v, .int .i64 e, u] := blk4 _ _ _ _
  have HGW := hide (grown_ok n e p v u zs _ (hG.below hB0) (hT.below hB0) hp2 hp1)
  have HCJ := hide (fun W (a : Nat) (s : Nat → Bool) (h : Below w.heap.size w W) (ha : a < n) => conjd_ok n v u zs e a s W (hG.below h) (hT.below h) ha)
  obtain ⟨_, c0, c1, c2, c3, _⟩ := Four.mk' hX0
  have hmm := @run_makeMap Tryd.prog
  go_enter Tryd.func55, Tryd.ntmps55
  go_wp2_with fail
  refine HGW.out.mono ?_
  rintro x1 w1 ⟨s, rfl, hgr, hb1⟩
  have HGR := hide hgr
  have hX1 := blk_below hX0 hb1
  have hB1 := bcat2 hB0 hb1
  have hs1 : w.heap.size + 1 ≤ w1.heap.size := by have := hb1.size; simpa using this
  clear hgr hX0 hB0 hb1 c0 c1 c2 c3 HGW
  have hX2 := blk_below hX1 (balloc w1 (.map #[] 0))
  have hB2 := bcat2 hB1 (balloc w1 (.map #[] 0))
  have hM0 : Cjs (w1.alloc (.map #[] 0)) n zs e w1.heap.size 0 s := ⟨_, World.ownsMap_made (H := Unit) w1 Tryd.prog 70 unitElem, fun t => by simp [Maps.has]⟩
  obtain ⟨_, c0, c1, c2, c3, _⟩ := Four.mk' hX2
  go_wp2_with fail
  clear c0 c1 c2 c3 hmm hX1 hB1
  generalize w1.alloc (.map #[] 0) = w2 at *
  obtain ⟨M, hM⟩ : ∃ M, M = w1.heap.size := ⟨_, rfl⟩
  rw [← hM] at hM0 hs1 ⊢
  clear hM
  go_loopw [15] (fun i wr => ∃ k : Nat, k ≤ n ∧ i = .int .i64 k ∧ Cjs wr n zs e M k s ∧ Blk wr w.heap.size 64 [.int .i64 n, v, .int .i64 e, u] ∧ Below w.heap.size w wr) (fun i _ => n - (intOf i).toNat)
  case atStart => exact ⟨0, Nat.zero_le _, rfl, hM0, hX2, hB2⟩
  case round =>
    clear hM0 hX2 hB2
    obtain ⟨k, hk, rfl, hC, hX, hB⟩ := hrel
    by_cases hlt : k < n
    · have hki : (k : Int) < (n : Int) := by omega
      obtain ⟨_, c0, c1, c2, c3, _⟩ := Four.mk' hX
      have HC := hide hC
      clear hC
      have HCK := hide (HCJ.out wr k s hB hlt)
      have hkw : (Lit.int .u64 (bs (cjq n zs e s k) n : Nat)).wf = true := WalkArith.wf_u64 (by have := bs_64 (p := cjq n zs e s k) hn; omega)
      have HKEY := hide (keyOf_int_mk und58 hkw)
      clear hkw
      have HK2 := hide (fun (D : DataW Unit) (hI : IsMap D) (hD : ∀ t : Nat, Maps.has D (.int .u64 t) = true ↔ ∃ a, a < k ∧ t = bs (cjq n zs e s a) n) (t : Nat) => show Maps.has (D.put (.int .u64 (bs (cjq n zs e s k) n : Nat)) (.agg [])) (.int .u64 t) = true ↔ ∃ a, a < k + 1 ∧ t = bs (cjq n zs e s a) n from by
        by_cases e9 : t = bs (cjq n zs e s k) n
        · subst e9
          rw [has_put_same hI (by trivial)]
          simp only [true_iff]
          exact ⟨k, by omega, rfl⟩
        · rw [has_put_other (fun h9 => e9 (by injection h9 with _ h9; omega)), hD t]
          constructor
          · rintro ⟨a, ha, h9⟩
            exact ⟨a, by omega, h9⟩
          · rintro ⟨a, ha, h9⟩
            refine ⟨a, ?_, h9⟩
            rcases Nat.lt_succ_iff_lt_or_eq.1 ha with h8 | h8
            · exact h8
            · exact absurd (h8 ▸ h9) e9)
      generalize bs (cjq n zs e s k) n = X9 at *
      go_wp2_with fail
      refine HCK.out.mono ?_
      rintro x5 w5 ⟨rfl, hb5⟩
      obtain ⟨D, hown, hD⟩ := HC.out.below hb5
      have hX5 := blk_below hX hb5
      have hB5 := bcat2 hB hb5
      have hI : IsMap D := by
        obtain ⟨es, clock, hb, F, hs, hD⟩ := hown
        exact ⟨_, hD⟩
      have HD := hide (HK2.out D hI hD)
      have hkey := HKEY.out
      clear hX hB c0 c1 c2 c3 HCK HC hD HK2 HKEY hb5
      go_wp2_with (first
        | (at_mapUpdate; refine wpList_mapUpdate_own _ rfl _ _ _ 67 rfl 70 96 key58 und69 _ M _ D rfl hown (by unfold maxLen; omega) _ _ _ rfl rfl hkey _ [] unitElem_mk ?_; intro w6 hown6 hgrow6))
      go_roundw
      case rel => exact ⟨k + 1, by omega, by go_num, ⟨_, hown6, HD.out⟩, hX5.of_eq (hgrow6.block _ (by have := hB5.size; have := World.block_lt_of_cell? _ _ (Four.mk' hX5).c0; simpa using this) (by simp; omega)), ⟨hgrow6.os.trans hB5.os, hgrow6.tape.trans hB5.tape, hgrow6.output.trans hB5.output, Nat.le_trans hB5.size hgrow6.size, fun g hg => (hgrow6.block g (by have := hB5.size; omega) (by simp; omega)).trans (hB5.block g hg)⟩⟩
      case measure => simp [intOf]; omega
    · have hkk : k = n := by omega
      subst hkk
      have hki : ¬ (k : Int) < (k : Int) := by omega
      go_wp2
      go_ret
      exact ⟨s, M, rfl, by omega, HGR.out, hC, hB⟩
end Go.Proofs.YtolbpjjjoafkkaaDoor

namespace Go.Proofs.YtolbpjjjoafkkaaDoor
open Go

/-- Answers below n, as a list. -/
def bm (n : Nat) (p : Nat → Bool) : List Bool := (List.range n).map p
theorem bm_len (n : Nat) (p : Nat → Bool) : (bm n p).length = n := by simp [bm]
theorem bm_get {n a : Nat} {p : Nat → Bool} (ha : a < n) : (bm n p)[a]?.getD false = p a := by simp [bm, ha]
theorem bm_set {n y : Nat} {p : Nat → Bool} : (bm n p).set y true = bm n (fun a => p a || decide (a = y)) := by
  apply List.ext_getElem
  · simp [bm]
  · intro i h1 h2
    simp [bm] at h1
    rw [List.getElem_set]
    simp only [bm, List.getElem_map, List.getElem_range]
    by_cases e : y = i
    · subst e; simp
    · simp [e, Ne.symm e]
theorem bm_none (n : Nat) : bm n (fun _ => false) = List.replicate n false := by
  apply List.ext_getElem <;> simp [bm]
/-- How many below n are not in. -/
def nob (n : Nat) (p : Nat → Bool) : Nat := ((List.range n).filter fun a => !p a).length
theorem nob_set {n y : Nat} {p : Nat → Bool} (hy : y < n) (hp : p y = false) : nob n (fun a => p a || decide (a = y)) < nob n p := by
  unfold nob
  have h1 : ((List.range n).filter fun a => !(p a || decide (a = y))) = ((List.range n).filter fun a => !p a).filter fun a => !decide (a = y) := by
    rw [List.filter_filter]
    refine List.filter_congr fun a _ => ?_
    cases p a <;> cases decide (a = y) <;> rfl
  rw [h1]
  refine List.length_filter_lt_length_iff_exists.2 ⟨y, ?_, by simp⟩
  rw [List.mem_filter]
  exact ⟨List.mem_range.2 hy, by simp [hp]⟩
/-- How the document's search stands: what it has is made, and has what it began with; with 'again' it has become more, without it nothing has changed, and all pairs that it looked at are closed. -/
structure Spn (n : Nat) (zs : List Int) (e : Nat) (q p0 p : Nat → Bool) (again : Bool) (a b : Nat) : Prop where
  one : p e = true
  base : ∀ x, x < n → q x = true → p x = true
  made : ∀ x, x < n → p x = true → Mkd n zs e q x
  more : again = true → nob n p < nob n p0
  same : again = false → ∀ x, x < n → p x = p0 x
  done : again = false → ∀ x y, x < n → y < n → (x < a ∨ (x = a ∧ y < b)) → p x = true → p y = true → p (tm n zs x y) = true
variable {n e : Nat} {zs : List Int} {q p0 p : Nat → Bool} {again : Bool} {a b : Nat}
theorem Spn.start (h1 : p e = true) (h2 : ∀ x, x < n → q x = true → p x = true) (h3 : ∀ x, x < n → p x = true → Mkd n zs e q x) : Spn n zs e q p p false 0 0 :=
  ⟨h1, h2, h3, fun h => (by cases h), fun _ _ _ => rfl, fun _ _ _ _ _ h => by omega⟩
theorem Spn.skip (h : Spn n zs e q p0 p again a b) (hno : p a = true → p b = true → p (tm n zs a b) = true) : Spn n zs e q p0 p again a (b + 1) :=
  ⟨h.one, h.base, h.made, h.more, h.same, fun hag x y hx hy hxy h1 h2 => by
    by_cases e9 : x = a ∧ y = b
    · obtain ⟨rfl, rfl⟩ := e9; exact hno h1 h2
    · exact h.done hag x y hx hy (by omega) h1 h2⟩
theorem Spn.hit (g : IsGrp n zs e) (h : Spn n zs e q p0 p again a b) (ha : a < n) (hb : b < n) (h1 : p a = true) (h2 : p b = true) (h3 : p (tm n zs a b) = false) : Spn n zs e q p0 (fun x => p x || decide (x = tm n zs a b)) true a (b + 1) := by
  have hm : Mkd n zs e q (tm n zs a b) := (Fin.Gen.sg _).mul a b (List.mem_range.2 ha) (List.mem_range.2 hb) (h.made a ha h1) (h.made b hb h2)
  refine ⟨by simp [h.one], fun x hx hq => by simp [h.base x hx hq], fun x hx hp => ?_, fun _ => ?_, fun h => (by cases h), fun h => by cases h⟩
  · simp only [Bool.or_eq_true, decide_eq_true_eq] at hp
    rcases hp with hp | rfl
    · exact h.made x hx hp
    · exact hm
  · have hl := nob_set (n := n) (tm_lt g.tab ha hb) h3
    cases hag : again
    · have : nob n p = nob n p0 := by
        unfold nob
        rw [List.filter_congr fun x hx => by rw [h.same hag x (List.mem_range.1 hx)]]
      omega
    · have := h.more hag; omega
theorem Spn.row (h : Spn n zs e q p0 p again a b) (hb : n ≤ b) : Spn n zs e q p0 p again (a + 1) 0 :=
  ⟨h.one, h.base, h.made, h.more, h.same, fun hag x y hx hy hxy h1 h2 => h.done hag x y hx hy (by omega) h1 h2⟩
theorem Spn.fin (h : Spn n zs e q p0 p false a b) (ha : n ≤ a) : ∀ x, x < n → (p x = true ↔ Mkd n zs e q x) := by
  intro x hx
  refine ⟨h.made x hx, fun hm => ?_⟩
  have S : Fin.Sg (List.range n) (tm n zs) e (fun y => y ∈ List.range n → p y = true) := ⟨fun _ => h.one, fun u v hu hv h1 h2 _ => h.done rfl u v (List.mem_range.1 hu) (List.mem_range.1 hv) (by have := List.mem_range.1 hu; omega) (h1 hu) (h2 hv)⟩
  exact hm _ S (fun y hy hq _ => h.base y (List.mem_range.1 hy) hq) (List.mem_range.2 hx)
end Go.Proofs.YtolbpjjjoafkkaaDoor

namespace Go.Proofs.YtolbpjjjoafkkaaDoor
open Go Go.RowKit

theorem info4b : (Tryd.prog.info? 4).map (fun i => (i.zero, i.size, i.bytes)) = some (some (.bool false), 1, 1) := by kernel_rfl
/-- How many of a block's cells are no. -/
def cntB (ib : Nat) (W : World) : Nat := match W.heap[ib]? with
  | some (.cells c _ _) => (c.toList.filter fun v => match v with | .bool b => !b | _ => false).length
  | _ => 0
theorem cntB_blk {ib n : Nat} {p : Nat → Bool} {W : World} (h : Blk W ib 4 ((bm n p).map Value.bool)) : cntB ib W = nob n p := by
  unfold cntB
  rw [show W.heap[ib]? = _ from h]
  unfold nob bm
  simp only [List.filter_map, List.length_map]
  rfl
theorem undrew' {a b : World} (h : Below a.drew.heap.size a.drew b) : Below a.heap.size a b := ⟨h.os, h.tape, h.output, h.size, h.block⟩
def boolOf : Value → Bool
  | .bool b => b
  | _ => false

end Go.Proofs.YtolbpjjjoafkkaaDoor

namespace Go.Proofs.YtolbpjjjoafkkaaDoor
open Go Go.RowKit

theorem has_sl (v : Value) (xs : List Nat) (a : Nat) (w : World) (hv : Sl w v (li xs)) :
    Calls Tryd.prog 26 #[v, .int .i64 a] w fun e w' => e = .returned (.bool (decide (a ∈ xs))) ∧ Below w.heap.size w w' := by
  refine (rhas_ok v (li xs) a w hv).mono ?_
  rintro e w' ⟨rfl, rfl⟩
  refine ⟨?_, Below.refl _ _⟩
  have : decide ((a : Int) ∈ li xs) = decide (a ∈ xs) := by rw [Bool.eq_iff_iff, decide_eq_true_eq, decide_eq_true_eq, mem_li]
  rw [this]
end Go.Proofs.YtolbpjjjoafkkaaDoor

namespace Go.Proofs.YtolbpjjjoafkkaaDoor
open Go Go.RowKit

end Go.Proofs.YtolbpjjjoafkkaaDoor

namespace Go.Proofs.YtolbpjjjoafkkaaDoor
open Go Go.RowKit

theorem pset_self {n : Nat} {l : List Int} (h : lfault n l = (0, 0)) : pset l = fun a => decide (a ∈ lst n (pset l)) := by
  have hli := set_lst (show (lfault n l).1 = 0 by rw [h])
  funext a
  have : pset l a = pset (li (lst n (pset l))) a := by rw [← hli]
  rw [this]
  unfold pset
  rw [Bool.eq_iff_iff, decide_eq_true_eq, decide_eq_true_eq, mem_li]
end Go.Proofs.YtolbpjjjoafkkaaDoor

namespace Go.Proofs.YtolbpjjjoafkkaaDoor
open Go Go.RowKit

end Go.Proofs.YtolbpjjjoafkkaaDoor

namespace Go.Proofs.YtolbpjjjoafkkaaDoor
open Go Go.RowKit

/-- What is wrong with a table, and then with numbers as its things, the first one first. -/
def tfl (N : Int) (zs l : List Int) : Int × Int :=
  if (gfault N zs).1 ≠ 0 then gfault N zs
  else if least l.length (fun i => decide (l[i]?.getD 0 < 0 ∨ N ≤ l[i]?.getD 0)) ≠ -1 then (3, least l.length (fun i => decide (l[i]?.getD 0 < 0 ∨ N ≤ l[i]?.getD 0)) + 1) else (0, 0)
theorem tfl_one (N : Int) (zs : List Int) (a : Int) : tfl N zs [a] = tfault N zs a := by
  unfold tfl tfault
  by_cases h1 : (gfault N zs).1 ≠ 0
  · rw [if_pos h1, if_pos h1]
  · rw [if_neg h1, if_neg h1]
    by_cases h2 : 0 ≤ a ∧ a < N
    · rw [if_pos h2, if_neg]
      rw [Decidable.not_not, least_neg]
      intro t ht
      have : t = 0 := by simpa using ht
      subst this
      simp; omega
    · rw [if_neg h2]
      have : least [a].length (fun i => decide ([a][i]?.getD 0 < 0 ∨ N ≤ [a][i]?.getD 0)) = ((0 : Nat) : Int) := least_at (by simp) (by simp; omega) (fun t ht => by omega)
      rw [this]; simp

end Go.Proofs.YtolbpjjjoafkkaaDoor

namespace Go.Proofs.YtolbpjjjoafkkaaDoor
open Go Go.RowKit

theorem bAlloc {a W : World} {o : Obj} (h : Below a.heap.size a W) : Below a.heap.size a (W.alloc o) := h.alloc h.size o
theorem bSet {a W : World} {b o : Nat} {x : Value} (h : Below a.heap.size a W) (hb : a.heap.size ≤ b) : Below a.heap.size a (W.setCell ⟨b, o, none⟩ x) := h.setCell (p := ⟨b, o, none⟩) (by simpa using hb) x
set_option maxRecDepth 100000 in
set_option maxHeartbeats 2000000 in
theorem ownGroup_row (N : Int) (v : Value) (zs : List Int) (w : World) (hv : Sl w v zs) (hb : zs.length * 8 ≤ 140737488355328) :
    Calls Tryd.prog 14 #[.agg #[.int .i64 N, v]] w fun e w' => ∃ u, e = .returned (.agg #[.int .i64 N, u]) ∧ Row w' w.heap.size u zs ∧ Below w.heap.size w w' := by
  obtain ⟨w0, hw0⟩ : ∃ w0, w0 = (w.alloc (.cells #[.int .i64 N, v] 24)).alloc (.cells #[.int .i64 0, .slice none 0 0] 24) := ⟨_, rfl⟩
  have hB0 : Below w.heap.size w w0 := by rw [hw0]; exact (balloc w _).alloc (by simp) _
  have hg0 : BoxG w0 w.heap.size N v := by rw [hw0]; exact (blk0 _ _).alloc _
  have hR0 : Blk w0 (w.heap.size + 1) 24 [.int .i64 0, .slice none 0 0] := by
    rw [hw0]
    have : Blk ((w.alloc (.cells #[.int .i64 N, v] 24)).alloc (.cells #[.int .i64 0, .slice none 0 0] 24)) (w.alloc (.cells #[.int .i64 N, v] 24)).heap.size 24 [.int .i64 0, .slice none 0 0] := blk0 _ _
    rw [World.size_alloc] at this; exact this
  have hv0 := hv.below hB0
  obtain ⟨k0, k1, _, _⟩ := hg0.two
  obtain ⟨r0, r1, fr0, fr1⟩ := hR0.two
  obtain ⟨a, cap, pb, po, rfl, hr, hp, hq3, hq4⟩ := id hv
  have hS : ∀ W, Below w0.heap.size w0 W → (Below w.heap.size w W ∧ W.cell? ⟨w.heap.size, 0, none⟩ = some (.int .i64 N) ∧ W.cell? ⟨w.heap.size, 1, none⟩ = some (.slice a zs.length cap)) := fun W h => ⟨bcat hB0 h hB0.size, below_cell h k0, below_cell h k1⟩
  have hS3 : ∀ W u, Below w0.heap.size w0 W → (Below w.heap.size w ((W.setCell ⟨w.heap.size + 1, 0, none⟩ (.int .i64 N)).setCell ⟨w.heap.size + 1, 1, none⟩ u) ∧ ((W.setCell ⟨w.heap.size + 1, 0, none⟩ (.int .i64 N)).setCell ⟨w.heap.size + 1, 1, none⟩ u).cell? ⟨w.heap.size, 0, none⟩ = some (.int .i64 N) ∧ ((W.setCell ⟨w.heap.size + 1, 0, none⟩ (.int .i64 N)).setCell ⟨w.heap.size + 1, 1, none⟩ u).cell? ⟨w.heap.size, 1, none⟩ = some (.slice a zs.length cap)) := fun W u h => by
    have h1 : Below w.heap.size w W := bcat hB0 h hB0.size
    refine ⟨(h1.setCell (p := ⟨w.heap.size + 1, 0, none⟩) (by simp) _).setCell (p := ⟨w.heap.size + 1, 1, none⟩) (by simp) _, ?_, ?_⟩
    · rw [World.cell?_setCell_far _ _ _ _ (by simp), World.cell?_setCell_far _ _ _ _ (by simp)]; exact below_cell h k0
    · rw [World.cell?_setCell_far _ _ _ _ (by simp), World.cell?_setCell_far _ _ _ _ (by simp)]; exact below_cell h k1
  have hS0 := hS _ (bdrew (Below.refl _ w0))
  clear k0 k1 r0 r1 fr0 fr1
  go_enter Tryd.func14, Tryd.ntmps14
  go_wp2_with fail
  rw [← hw0]
  clear hw0
  go_region_held3 (fun W => Below w.heap.size w W ∧ W.cell? ⟨w.heap.size, 0, none⟩ = some (.int .i64 N) ∧ W.cell? ⟨w.heap.size, 1, none⟩ = some (.slice a zs.length cap))
    (first | exact hS0 | assumption | exact hS _ hl2 | exact hS3 _ _ hl2)
    (first | (go_at_call 59; refine (own_any _ zs _ (hv.below (And.left ‹_›)) hb).mono ?_; rintro e W1 ⟨u, rfl, hu1, hl1⟩; obtain ⟨a9, cap9, rfl⟩ := own_slice hu1; have hl2 := undrew hl1; obtain ⟨y0, y1, fy0, fy1⟩ := (blk_below hR0 hl2).two))
  have hR1 := blk_below hR0 hl2
  have hBw := bcat hB0 hl2 hB0.size
  have hs9 := hR0.lt
  have hu2 : Row ((W1.setCell ⟨w.heap.size + 1, 0, none⟩ (.int .i64 N)).setCell ⟨w.heap.size + 1, 1, none⟩ (.slice a9 zs.length cap9)) w.heap.size (.slice a9 zs.length cap9) zs := owns_mono (own_keep hu1 (fun b hb _ => by
    have hb : w0.heap.size ≤ b := hb
    rw [Below.heap_setCell _ _ _ _ (by simp; omega), Below.heap_setCell _ _ _ _ (by simp; omega)])) hB0.size
  have hR6 : Blk ((W1.setCell ⟨w.heap.size + 1, 0, none⟩ (.int .i64 N)).setCell ⟨w.heap.size + 1, 1, none⟩ (.slice a9 zs.length cap9)) (w.heap.size + 1) 24 [.int .i64 N, .slice a9 zs.length cap9] := (hR1.set 0 _).set 1 _
  have hB6 := (hBw.setCell (p := ⟨w.heap.size + 1, 0, none⟩) (by simp) (.int .i64 N)).setCell (p := ⟨w.heap.size + 1, 1, none⟩) (by simp) (.slice a9 zs.length cap9)
  clear y0 y1 fy0 fy1 hS hS3 hS0
  go_wp2
  generalize (W1.setCell ⟨w.heap.size + 1, 0, none⟩ (.int .i64 N)).setCell ⟨w.heap.size + 1, 1, none⟩ (.slice a9 zs.length cap9) = W at hR6 hB6 hu2 ⊢
  obtain ⟨z0, z1, _, _⟩ := hR6.two
  exact bodyPost_ret (v := .agg #[.int .i64 N, .slice a9 zs.length cap9]) (by simp [results, Tryd.results14, go_sem, z0, z1]) rfl ⟨_, rfl, hu2, hB6⟩
theorem slset {U W : World} {x : Value} {zs : List Int} {b o : Nat} {y : Value} (h : Sl U x zs) (hb : U.heap.size ≤ b) (hUW : ∀ k, k < U.heap.size → W.heap[k]? = U.heap[k]?) : Sl (W.setCell ⟨b, o, none⟩ y) x zs := by
  obtain ⟨a, cap, pb, po, rfl, hr, hp, h1, h2⟩ := h
  have hpw : pb < W.heap.size := by
    have := hUW pb hp
    rw [Array.getElem?_eq_getElem hp] at this
    exact (Array.getElem?_eq_some_iff.1 this).1
  exact ⟨a, cap, pb, po, rfl, hr.of_eq ((Below.heap_setCell _ _ _ pb (by simp; omega)).trans (hUW pb hp)), by rw [size_set]; exact hpw, h1, h2⟩
theorem rowset {W : World} {B b o : Nat} {u y : Value} {zs : List Int} (h : Row W B u zs) (hb : b < B) : Row (W.setCell ⟨b, o, none⟩ y) B u zs := row_keep h (fun g h1 _ => Below.heap_setCell _ _ _ g (by simp; omega))
/-- What lies behind the law's first row: a table and a list of its own. -/
def MRel (w0 : World) (N : Int) (zs l : List Int) (s5 s6 : Value) (W : World) : Prop := ∃ gb a1 a2 a3 m1 m2 m3, s5 = .pointer (some ⟨gb, 0, none⟩) ∧ s6 = .slice m1 m2 m3 ∧ Blk W gb 24 [.int .i64 N, .slice a1 a2 a3] ∧ Sl W (.slice a1 a2 a3) zs ∧ Sl W (.slice m1 m2 m3) l ∧ Below w0.heap.size w0 W
end Go.Proofs.YtolbpjjjoafkkaaDoor

namespace Go.Proofs.YtolbpjjjoafkkaaDoor
open Go Go.RowKit

def rgtq (n : Nat) (zs : List Int) (xs : List Nat) (a y : Nat) : Bool := xs.any fun x => decide (tm n zs x a = y)
def lftq (n : Nat) (zs : List Int) (xs : List Nat) (a y : Nat) : Bool := xs.any fun x => decide (tm n zs a x = y)
end Go.Proofs.YtolbpjjjoafkkaaDoor

namespace Go.Proofs.YtolbpjjjoafkkaaDoor
open Go Go.RowKit Go.Maps

theorem und77 : Tryd.prog.underlying 70 = some (.int .u64) := by kernel_rfl
theorem und3' : Tryd.prog.underlying 3 = some (.int .i64) := by kernel_rfl
theorem under25b : Tryd.prog.underlying 25 = some (.slice 22) := by kernel_rfl
theorem law77 : Keyed Tryd.prog 70 := int_keyed und77
theorem zero3 (w : World) : (zeroValue 3).run Tryd.prog w = .ok (.int .i64 0) w := by kernel_rfl
theorem info22b : (Tryd.prog.info? 22).map (fun i => (i.zero, i.size, i.bytes)) = some (some (.slice none 0 0), 1, 24) := by kernel_rfl
/-- The things at which a set is met first. -/
def fsts (n : Nat) (f : Nat → Nat → Bool) (j : Nat) : List Nat := (List.range j).filter fun a => (List.range a).all fun b => decide (bs (f b) n ≠ bs (f a) n)
theorem fsts_succ (n : Nat) (f : Nat → Nat → Bool) (j : Nat) : fsts n f (j + 1) = if (List.range j).all (fun b => decide (bs (f b) n ≠ bs (f j) n)) then fsts n f j ++ [j] else fsts n f j := by
  unfold fsts
  rw [List.range_succ, List.filter_append]
  by_cases h : (List.range j).all (fun b => decide (bs (f b) n ≠ bs (f j) n)) = true
  · rw [if_pos h, List.filter_cons, if_pos h, List.filter_nil]
  · rw [if_neg h, List.filter_cons, if_neg h, List.filter_nil, List.append_nil]
theorem fsts_len (n : Nat) (f : Nat → Nat → Bool) (j : Nat) : (fsts n f j).length ≤ j := Nat.le_trans (List.length_filter_le _ _) (by simp)
/-- What the map knows. -/
def MInv (n : Nat) (f : Nat → Nat → Bool) (j : Nat) (D : DataW Unit) : Prop := ∀ s : Nat, Maps.has D (.int .u64 s) = true ↔ ∃ a, a < j ∧ bs (f a) n = s
/-- The lists that lie in a slice of slices. -/
def Lsts (W : World) (B : Nat) (r : Value) (vs : List Value) (ls : List (List Int)) : Prop := vs.length = ls.length ∧ ∀ (t : Nat) (x : Value) (l : List Int), vs[t]? = some x → ls[t]? = some l → ∃ a cap pb po, x = .slice a l.length cap ∧ Reads W a pb po l ∧ pb < W.heap.size ∧ l.length ≤ cap ∧ cap ≤ maxLen ∧ B ≤ pb ∧ ∀ g, r.ownBlock = some g → pb ≠ g

theorem Lsts.keep {W W' : World} {B : Nat} {r r' : Value} {vs : List Value} {ls : List (List Int)} (h : Lsts W B r vs ls) (hs : W.heap.size ≤ W'.heap.size) (hk : ∀ g, B ≤ g → g < W.heap.size → r.ownBlock ≠ some g → W'.heap[g]? = W.heap[g]?) (hr : r'.ownBlock = r.ownBlock ∨ ∀ g, r'.ownBlock = some g → W.heap.size ≤ g) : Lsts W' B r' vs ls := by
  refine ⟨h.1, fun t x l h1 h2 => ?_⟩
  obtain ⟨a, cap, pb, po, rfl, h3, h4, h5, h6, h7, h8⟩ := h.2 t x l h1 h2
  refine ⟨a, cap, pb, po, rfl, h3.of_eq (hk pb h7 h4 (fun e => h8 pb e rfl)), Nat.lt_of_lt_of_le h4 hs, h5, h6, h7, fun g hg => ?_⟩
  rcases hr with hr | hr
  · exact h8 g (by rw [← hr]; exact hg)
  · have := hr g hg; omega
theorem Lsts.snoc {W : World} {B : Nat} {r : Value} {vs : List Value} {ls : List (List Int)} {x : Value} {l : List Int} (h : Lsts W B r vs ls) (hx : ∃ a cap pb po, x = Value.slice a l.length cap ∧ Reads W a pb po l ∧ pb < W.heap.size ∧ l.length ≤ cap ∧ cap ≤ maxLen ∧ B ≤ pb ∧ ∀ g, r.ownBlock = some g → pb ≠ g) : Lsts W B r (vs ++ [x]) (ls ++ [l]) := by
  refine ⟨by simp [h.1], fun t y m h1 h2 => ?_⟩
  by_cases ht : t < vs.length
  · rw [List.getElem?_append_left ht] at h1
    rw [List.getElem?_append_left (by rw [← h.1]; exact ht)] at h2
    exact h.2 t y m h1 h2
  · have hv : t = vs.length := by
      have := (List.getElem?_eq_some_iff.1 h1).1
      simp at this; omega
    subst hv
    rw [List.getElem?_append_right (Nat.le_refl _)] at h1
    rw [List.getElem?_append_right (by rw [h.1]; exact Nat.le_refl _), h.1] at h2
    simp at h1 h2
    subst h1 h2
    exact hx
theorem minv_step {n j : Nat} {f : Nat → Nat → Bool} {D : DataW Unit} {d : DataW Unit} (h : MInv n f j D) (hD : IsMap D) : MInv n f (j + 1) (D.put (.int .u64 (bs (f j) n : Nat)) d) := by
  intro s
  by_cases e : s = bs (f j) n
  · subst e
    rw [has_put_same hD (by trivial)]
    exact ⟨fun _ => ⟨j, by omega, rfl⟩, fun _ => rfl⟩
  · rw [has_put_other (fun h9 => e (by injection h9 with _ h9; omega)), h s]
    exact ⟨fun ⟨a, h1, h2⟩ => ⟨a, by omega, h2⟩, fun ⟨a, h1, h2⟩ => ⟨a, by
      have : a ≠ j := fun e9 => e (by rw [← h2, e9])
      omega, h2⟩⟩
theorem minv_same {n j : Nat} {f : Nat → Nat → Bool} {D : DataW Unit} (h : MInv n f j D) (hh : Maps.has D (.int .u64 (bs (f j) n : Nat)) = true) : MInv n f (j + 1) D := by
  obtain ⟨b, hb, e⟩ := (h _).1 hh
  intro s
  rw [h s]
  exact ⟨fun ⟨a, h1, h2⟩ => ⟨a, by omega, h2⟩, fun ⟨a, h1, h2⟩ => by
    by_cases e9 : a = j
    · subst e9; exact ⟨b, hb, by rw [e]; exact h2⟩
    · exact ⟨a, by omega, h2⟩⟩
theorem minv_new {n j : Nat} {f : Nat → Nat → Bool} {D : DataW Unit} (h : MInv n f j D) : Maps.has D (.int .u64 (bs (f j) n : Nat)) = false ↔ (List.range j).all (fun b => decide (bs (f b) n ≠ bs (f j) n)) = true := by
  rw [← Bool.not_eq_true, h]
  simp only [List.all_eq_true, List.mem_range, decide_eq_true_eq, not_exists, not_and]
/-- The lists of the sets that are met first. -/
def csl (n : Nat) (f : Nat → Nat → Bool) (j : Nat) : List (List Int) := (fsts n f j).map fun a => li (lst n (f a))
end Go.Proofs.YtolbpjjjoafkkaaDoor

namespace Go.Proofs.YtolbpjjjoafkkaaDoor
open Go Go.RowKit Go.Maps

theorem below_grown {w w' : World} (h : Below w.heap.size w w') (row : Option Nat) : w.grownBy w' row := ⟨h.os, h.tape, h.output, h.size, fun b hb _ => h.block b hb⟩
theorem own_slice' {w : World} {base n : Nat} {e : TypeId} {v : Value} {xs : List Value} (h : w.ownsRow base e 1 v n xs) : ∃ a cap, v = .slice a n cap := by
  rcases h.2 with ⟨rfl, rfl⟩ | ⟨g, cap, cur, rfl, _⟩
  · exact ⟨none, 0, rfl⟩
  · exact ⟨_, cap, rfl⟩
theorem map_more {P : Program} {k : TypeId} {R : Value → Option (DataW Unit × List MemPlace)} {w : World} {b n : Nat} {D : DataW Unit} (h : w.ownsMap P k R b n D) : w.ownsMap P k R b (n + 1) D := by
  obtain ⟨es, clock, hb, F, hs, hD⟩ := h
  exact ⟨es, clock, hb, F, Nat.le_succ_of_le hs, hD⟩
theorem map_is {P : Program} {k : TypeId} {R : Value → Option (DataW Unit × List MemPlace)} {w : World} {b n : Nat} {D : DataW Unit} (h : w.ownsMap P k R b n D) : IsMap D := by
  obtain ⟨es, clock, hb, F, hs, hD⟩ := h
  exact ⟨_, hD⟩
end Go.Proofs.YtolbpjjjoafkkaaDoor

namespace Go.Proofs.YtolbpjjjoafkkaaDoor
open Go Go.RowKit

/-- The first fault of subgroups, one after the other. -/
def wfault (N : Int) (zs : List Int) : List (List Int) → Int × Int
  | [] => (0, 0)
  | l :: ls => if (ufault N zs l).1 ≠ 0 then ufault N zs l else wfault N zs ls
theorem wfault_skip {N : Int} {zs : List Int} : ∀ (ls : List (List Int)) (k : Nat), (∀ t, t < k → (ufault N zs (ls[t]?.getD [])).1 = 0) → k ≤ ls.length → wfault N zs ls = wfault N zs (ls.drop k)
  | ls, 0, _, _ => by simp
  | [], k + 1, _, h => by simp at h
  | l :: ls, k + 1, h, hk => by
    have h0 : (ufault N zs l).1 = 0 := by simpa using h 0 (by omega)
    rw [List.drop_succ_cons, ← wfault_skip ls k (fun t ht => by simpa using h (t + 1) (by omega)) (by simpa using hk)]
    show (if _ then _ else _) = _
    rw [if_neg (by simpa using h0)]
theorem wfault_at {N : Int} {zs : List Int} {ls : List (List Int)} {k : Nat} (h : ∀ t, t < k → (ufault N zs (ls[t]?.getD [])).1 = 0) (hk : k < ls.length) (hc : (ufault N zs (ls[k]?.getD [])).1 ≠ 0) : wfault N zs ls = ufault N zs (ls[k]?.getD []) := by
  rw [wfault_skip ls k h (Nat.le_of_lt hk), List.drop_eq_getElem_cons hk]
  have e : ls[k]?.getD [] = ls[k] := by simp [hk]
  rw [e] at hc ⊢
  show (if _ then _ else _) = _
  rw [if_pos hc]
theorem wfault_ok {N : Int} {zs : List Int} {ls : List (List Int)} (h : ∀ t, t < ls.length → (ufault N zs (ls[t]?.getD [])).1 = 0) : wfault N zs ls = (0, 0) := by
  rw [wfault_skip ls ls.length h (Nat.le_refl _), List.drop_length]; rfl
end Go.Proofs.YtolbpjjjoafkkaaDoor

namespace Go.Proofs.YtolbpjjjoafkkaaDoor
open Go Go.RowKit

theorem own_keep' {W W' : World} {B n : Nat} {e : TypeId} {v : Value} {xs : List Value} (h : W.ownsRow B e 1 v n xs) (hk : ∀ g, B ≤ g → g < W.heap.size → W'.heap[g]? = W.heap[g]?) : W'.ownsRow B e 1 v n xs := by
  refine ⟨h.1, ?_⟩
  rcases h.2 with h0 | ⟨g, cap, cur, hv, hg, hh, rest⟩
  · exact .inl h0
  · exact .inr ⟨g, cap, cur, hv, hg, (hk g hg (Array.getElem?_eq_some_iff.1 hh).1).trans hh, rest⟩
theorem Lsts.mono {W : World} {B B' : Nat} {r : Value} {vs : List Value} {ls : List (List Int)} (h : Lsts W B r vs ls) (hb : B' ≤ B) : Lsts W B' r vs ls :=
  ⟨h.1, fun t x l h1 h2 => by
    obtain ⟨a, cap, pb, po, rfl, h3, h4, h5, h6, h7, h8⟩ := h.2 t x l h1 h2
    exact ⟨a, cap, pb, po, rfl, h3, h4, h5, h6, Nat.le_trans hb h7, h8⟩⟩
theorem wfault_one (N : Int) (zs l : List Int) : wfault N zs [l] = ufault N zs l := by
  show (if (ufault N zs l).1 ≠ 0 then ufault N zs l else (0, 0)) = ufault N zs l
  by_cases h : (ufault N zs l).1 ≠ 0
  · rw [if_pos h]
  · rw [if_neg h]
    obtain ⟨_, _, _, _, _, _, h9⟩ := ufault_zero (by simpa using h)
    exact h9.symm
/-- Three boxes: a group, a list, and a fault that is answered. -/
structure Beg3 (w w0 : World) (N : Int) (v u : Value) : Prop where
  eq : w0 = ((w.alloc (.cells #[.int .i64 N, v] 24)).alloc (.cells #[u] 22)).alloc (.cells #[.int .i64 0, .int .i64 0] 27)
  bel : Below w.heap.size w w0
  box : BoxG w0 w.heap.size N v
  lis : Boxed w0 (w.heap.size + 1) 22 u
  res : Blk w0 (w.heap.size + 1 + 1) 27 [.int .i64 0, .int .i64 0]
theorem Beg3.new (w : World) (N : Int) (v u : Value) : ∃ w0, Beg3 w w0 N v u := by
  refine ⟨_, rfl, ((balloc w _).alloc (by simp) _).alloc (by simp; omega) _, ((blk0 (w := w) (T := 24) _ _).alloc _).alloc _, ?_, ?_⟩
  · have h := (Boxed.new (w.alloc (.cells #[.int .i64 N, v] 24)) 22 u).alloc (.cells #[.int .i64 0, .int .i64 0] 27)
    rw [World.size_alloc] at h
    exact h
  · have h := blk0 (w := (w.alloc (.cells #[.int .i64 N, v] 24)).alloc (.cells #[u] 22)) (T := 27) (.int .i64 0) (.int .i64 0)
    rw [World.size_alloc, World.size_alloc] at h
    exact h
end Go.Proofs.YtolbpjjjoafkkaaDoor

namespace Go.Proofs.YtolbpjjjoafkkaaDoor
open Go Go.RowKit

/-- A slice of slices reads as these lists. -/
def SlL (w : World) (v : Value) (rs : List (List Int)) : Prop := ∃ a cap pb po, v = .slice a rs.length cap ∧ (0 < rs.length → a = some ⟨pb, po, none⟩) ∧ (∀ j, j < rs.length → ∃ x, w.cell? ⟨pb, po + j, none⟩ = some x ∧ Sl w x (rs[j]?.getD [])) ∧ pb < w.heap.size ∧ rs.length ≤ cap ∧ cap ≤ maxLen
theorem SlL.below {w w' : World} {v : Value} {rs : List (List Int)} (h : SlL w v rs) (hb : Below w.heap.size w w') : SlL w' v rs := by
  obtain ⟨a, cap, pb, po, rfl, h1, h2, h3, h4, h5⟩ := h
  exact ⟨a, cap, pb, po, rfl, h1, fun j hj => by
    obtain ⟨x, hx, hs⟩ := h2 j hj
    exact ⟨x, below_cell hb hx, hs.below hb⟩, Nat.lt_of_lt_of_le h3 hb.size, h4, h5⟩
theorem SlL.isSlice {w : World} {v : Value} {rs : List (List Int)} (h : SlL w v rs) : ∃ a l c, v = .slice a l c := by
  obtain ⟨a, cap, _, _, rfl, _⟩ := h
  exact ⟨a, _, cap, rfl⟩
end Go.Proofs.YtolbpjjjoafkkaaDoor

namespace Go.Proofs.YtolbpjjjoafkkaaDoor
open Go Go.RowKit

theorem SlL.of_own {w : World} {base B : Nat} {v : Value} {vs : List Value} {rs : List (List Int)} (h : w.ownsRow base 22 1 v vs.length vs) (hl : Lsts w B v vs rs) (h0 : 0 < w.heap.size) : SlL w v rs := by
  have hlen := hl.1
  rcases h.2 with ⟨rfl, hz⟩ | ⟨g, cap, cur, rfl, _, hh, h1, h2, _⟩
  · have : rs = [] := List.length_eq_zero_iff.1 (by omega)
    subst this
    exact ⟨none, 0, 0, 0, rfl, by simp, by simp, h0, by simp, by unfold maxLen; omega⟩
  · refine ⟨some ⟨g, 0, none⟩, cap, g, 0, by rw [hlen], fun _ => rfl, fun j hj => ?_, (Array.getElem?_eq_some_iff.1 hh).1, by omega, h2⟩
    have hjv : j < vs.length := by omega
    have h3 := h.cells (g := g) rfl j vs[j] (by simp [hjv])
    rw [show (⟨g, 0, none⟩ : Addr).add j = ⟨g, j, none⟩ by unfold Addr.add; split <;> simp_all] at h3
    obtain ⟨a, c, pb, po, hx, hr, hp, hq1, hq2, _, _⟩ := hl.2 j vs[j] rs[j] (List.getElem?_eq_getElem hjv) (List.getElem?_eq_getElem hj)
    refine ⟨vs[j], by rw [Nat.zero_add]; exact h3, ?_⟩
    rw [List.getElem?_eq_getElem hj]
    exact ⟨a, c, pb, po, hx, hr, hp, hq1, hq2⟩
theorem csl_len (n : Nat) (f : Nat → Nat → Bool) (j : Nat) : (csl n f j).length = (fsts n f j).length := by unfold csl; rw [List.length_map]
/-- What Right and Left answer, read. -/
theorem lists_sl {k : Nat} {args : Array Value} {w : World} {rs : List (List Int)} (h0 : 0 < w.heap.size) (h : Calls Tryd.prog k args w fun x w' => ∃ r vs, x = .returned (.tuple #[r, .agg #[.int .i64 0, .int .i64 0]]) ∧ w'.ownsRow w.heap.size 22 1 r vs.length vs ∧ Lsts w' w.heap.size r vs rs ∧ Below w.heap.size w w') :
    Calls Tryd.prog k args w fun x w' => ∃ r1 r2 r3, x = .returned (.tuple #[.slice r1 r2 r3, .agg #[.int .i64 0, .int .i64 0]]) ∧ SlL w' (.slice r1 r2 r3) rs ∧ Below w.heap.size w w' := by
  refine h.mono ?_
  rintro x w' ⟨r, vs, rfl, hrow, hls, hb⟩
  have hs := SlL.of_own hrow hls (Nat.lt_of_lt_of_le h0 hb.size)
  obtain ⟨a, l, c, rfl⟩ := hs.isSlice
  exact ⟨a, l, c, rfl, hs, hb⟩
end Go.Proofs.YtolbpjjjoafkkaaDoor

namespace Go.Proofs.YtolbpjjjoafkkaaDoor
open Go Go.RowKit

def z4 : List Int := [0, 1, 2, 3, 1, 2, 3, 0, 2, 3, 0, 1, 3, 0, 1, 2]
theorem z4_grp : IsGrp 4 z4 0 := by
  obtain ⟨n, e, hn, hg, _⟩ := gfault_grp (N := 4) (zs := z4) (by decide +kernel)
  obtain rfl : n = 4 := by omega
  have h1 := hg.one
  have h2 : one 4 z4 = 0 := by decide +kernel
  obtain rfl : e = 0 := by rw [h2] at h1; omega
  exact hg
theorem z4_lf : lfault 4 [0, 2] = (0, 0) := by decide +kernel
theorem z4_sub : subT 4 z4 0 (pset [0, 2]) = true := by decide +kernel
theorem z4_csl : csl 4 (rgtq 4 z4 (lst 4 (pset [0, 2]))) 4 = [[0, 2], [1, 3]] := by decide +kernel
end Go.Proofs.YtolbpjjjoafkkaaDoor

namespace Go.Proofs.YtolbpjjjoafkkaaDoor
open Go Go.RowKit

end Go.Proofs.YtolbpjjjoafkkaaDoor

namespace Go.Proofs.YtolbpjjjoafkkaaDoor
open Go Go.RowKit

end Go.Proofs.YtolbpjjjoafkkaaDoor

namespace Go.Proofs.YtolbpjjjoafkkaaDoor
open Go Go.RowKit

/-- The document's sets: of each thing its set, where it is the least one of it. -/
def rcs (n : Nat) (q : Nat → Nat → Bool) (j : Nat) : List (List Int) := ((List.range j).filter fun a => decide ((lst n (q a)).head? = some a)).map fun a => li (lst n (q a))
theorem rcs_yes {n j : Nat} {q : Nat → Nat → Bool} (h : (lst n (q j)).head? = some j) : rcs n q (j + 1) = rcs n q j ++ [li (lst n (q j))] := by
  unfold rcs
  rw [List.range_succ, List.filter_append, List.filter_cons, if_pos (by simpa using h), List.filter_nil, List.map_append]
  rfl
theorem rcs_no {n j : Nat} {q : Nat → Nat → Bool} (h : (lst n (q j)).head? ≠ some j) : rcs n q (j + 1) = rcs n q j := by
  unfold rcs
  rw [List.range_succ, List.filter_append, List.filter_cons, if_neg (by simpa using h), List.filter_nil, List.append_nil]
theorem rcs_len (n : Nat) (q : Nat → Nat → Bool) (j : Nat) : (rcs n q j).length ≤ j := by
  unfold rcs
  rw [List.length_map]
  exact Nat.le_trans (List.length_filter_le _ _) (by simp)
/-- The number that lies in a box. -/
def boxN (w : World) (i : Value) : Nat := match i with
  | .pointer (some a) => (intOf ((w.cell? a).getD (.int .i64 0))).toNat
  | _ => 0
theorem boxN_eq {w : World} {b j : Nat} (h : Boxed w b 3 (.int .i64 j)) : boxN w (.pointer (some ⟨b, 0, none⟩)) = j := by simp [boxN, h.cell, intOf]
theorem Lsts.ext {W : World} {B : Nat} {r : Value} {vs : List Value} {ls ms : List (List Int)} (h : Lsts W B r vs ls) (e : ms = ls) : Lsts W B r vs ms := by rw [e]; exact h
end Go.Proofs.YtolbpjjjoafkkaaDoor

namespace Go.Proofs.YtolbpjjjoafkkaaDoor
open Go Go.RowKit

/-- A box that is made anew, for the next round. -/
theorem newbox (W : World) (j : Nat) : Boxed (W.alloc (.cells #[.int .i64 ((j : Int) + 1)] 3)) W.heap.size 3 (.int .i64 ((j + 1 : Nat) : Int)) ∧ Below W.heap.size W (W.alloc (.cells #[.int .i64 ((j : Int) + 1)] 3)) :=
  ⟨Boxed.new W 3 (.int .i64 ((j : Int) + 1)), balloc W _⟩
end Go.Proofs.YtolbpjjjoafkkaaDoor

namespace Go.Proofs.YtolbpjjjoafkkaaDoor
open Go Go.RowKit

end Go.Proofs.YtolbpjjjoafkkaaDoor

namespace Go.Proofs.YtolbpjjjoafkkaaDoor
open Go Go.RowKit

/-- Sets, one for each thing: each has its thing, and is that of each of its things. -/
structure Prts (n : Nat) (f : Nat → Nat → Bool) : Prop where
  refl : ∀ a, a < n → f a a = true
  same : ∀ a b, a < n → b < n → f a b = true → ∀ c, c < n → f a c = f b c
theorem Prts.symm {n a b : Nat} {f : Nat → Nat → Bool} (h : Prts n f) (ha : a < n) (hb : b < n) (hf : f a b = true) : f b a = true := by
  rw [← h.same a b ha hb hf a ha]; exact h.refl a ha
theorem head_lst {n a : Nat} {p : Nat → Bool} : (lst n p).head? = some a ↔ a < n ∧ p a = true ∧ ∀ b, b < a → p b = false := by
  unfold lst
  rw [List.head?_filter, List.find?_range_eq_some]
  simp only [List.mem_range, Bool.not_eq_true']
  exact ⟨fun ⟨h1, h2, h3⟩ => ⟨h2, h1, h3⟩, fun ⟨h1, h2, h3⟩ => ⟨h2, h1, h3⟩⟩
theorem Prts.first {n a : Nat} {f : Nat → Nat → Bool} (h : Prts n f) (ha : a < n) : ((List.range a).all fun b => decide (bs (f b) n ≠ bs (f a) n)) = decide ((lst n (f a)).head? = some a) := by
  rw [Bool.eq_iff_iff, decide_eq_true_eq, head_lst]
  simp only [List.all_eq_true, List.mem_range, decide_eq_true_eq]
  constructor
  · intro hne
    refine ⟨ha, h.refl a ha, fun b hb => ?_⟩
    cases hab : f a b with
    | false => rfl
    | true => exact absurd (bs_ext fun c hc => (h.same a b ha (by omega) hab c hc).symm) (hne b hb)
  · rintro ⟨_, _, h3⟩ b hb he
    have h4 := bs_inj he b (by omega)
    rw [h.refl b (by omega), h3 b hb] at h4
    exact absurd h4 (by decide)
theorem Prts.fsts {n : Nat} {f : Nat → Nat → Bool} (h : Prts n f) : fsts n f n = (List.range n).filter fun a => decide ((lst n (f a)).head? = some a) := by
  unfold Go.Proofs.YtolbpjjjoafkkaaDoor.fsts
  exact List.filter_congr fun a ha => h.first (List.mem_range.1 ha)
theorem Prts.csl_rcs {n : Nat} {f q : Nat → Nat → Bool} (h : Prts n f) (hq : ∀ a b, a < n → b < n → q a b = f a b) : csl n f n = rcs n q n := by
  have hl : ∀ a, a < n → lst n (q a) = lst n (f a) := fun a ha => lst_congr fun b hb => hq a b ha hb
  unfold csl rcs
  rw [h.fsts]
  have hf : ((List.range n).filter fun a => decide ((lst n (f a)).head? = some a)) = (List.range n).filter fun a => decide ((lst n (q a)).head? = some a) := List.filter_congr fun a ha => by rw [hl a (List.mem_range.1 ha)]
  rw [hf]
  exact List.map_congr_left fun a ha => by rw [hl a (List.mem_range.1 (List.mem_filter.1 ha).1)]
theorem Prts.card {n m : Nat} {f : Nat → Nat → Bool} (h : Prts n f) (hm : ∀ a, a < n → (lst n (f a)).length = m) : n = (csl n f n).length * m := by
  have hK : ∀ a, a ∈ Go.Proofs.YtolbpjjjoafkkaaDoor.fsts n f n ↔ a < n ∧ (lst n (f a)).head? = some a := fun a => by
    rw [h.fsts, List.mem_filter, List.mem_range, decide_eq_true_eq]
  have hd : ∀ a, a < n → ∃ r, (lst n (f a)).head? = some r ∧ r < n ∧ f a r = true ∧ (lst n (f r)).head? = some r := fun a ha => by
    have hne : lst n (f a) ≠ [] := List.ne_nil_of_mem (mem_lst.2 ⟨ha, h.refl a ha⟩)
    obtain ⟨r, t, ht⟩ := List.exists_cons_of_ne_nil hne
    have hr : (lst n (f a)).head? = some r := by rw [ht]; rfl
    obtain ⟨h1, h2, h3⟩ := head_lst.1 hr
    refine ⟨r, hr, h1, h2, head_lst.2 ⟨h1, h.refl r h1, fun b hb => ?_⟩⟩
    rw [← h.same a r ha h1 h2 b (by omega)]
    exact h3 b hb
  have := Fin.fib_len (fun a => (lst n (f a)).head?.getD 0) m (Go.Proofs.YtolbpjjjoafkkaaDoor.fsts n f n) (List.range n) (List.nodup_range.sublist List.filter_sublist) (fun x hx => by
    obtain ⟨r, hr, h1, _, h3⟩ := hd x (List.mem_range.1 hx)
    rw [hr]
    exact (hK r).2 ⟨h1, h3⟩) (fun k hk => by
    obtain ⟨hkn, hkh⟩ := (hK k).1 hk
    rw [← hm k hkn]
    unfold lst
    congr 1
    refine List.filter_congr fun x hx => ?_
    have hxn := List.mem_range.1 hx
    rw [Bool.eq_iff_iff, decide_eq_true_eq]
    constructor
    · intro he
      obtain ⟨r, hr, h1, h2, _⟩ := hd x hxn
      have hrk : r = k := by
        have h9 : (lst n (f x)).head?.getD 0 = k := he
        rw [hr] at h9
        exact h9
      subst hrk
      exact h.symm hxn h1 h2
    · intro he
      have : lst n (f x) = lst n (f k) := lst_congr fun c hc => (h.same k x hkn hxn he c hc).symm
      show (lst n (f x)).head?.getD 0 = k
      rw [this, hkh]; rfl)
  rw [List.length_range] at this
  rw [csl_len]
  exact this

section
variable {n e : Nat} {zs : List Int} {q : Nat → Bool}
theorem mem_rgt {xs : List Nat} {a y : Nat} : rgtq n zs xs a y = true ↔ ∃ x, x ∈ xs ∧ tm n zs x a = y := by
  unfold rgtq; simp only [List.any_eq_true, decide_eq_true_eq]
theorem mem_lft {xs : List Nat} {a y : Nat} : lftq n zs xs a y = true ↔ ∃ x, x ∈ xs ∧ tm n zs a x = y := by
  unfold lftq; simp only [List.any_eq_true, decide_eq_true_eq]
theorem sub_iv (g : IsGrp n zs e) (hs : subT n zs e q = true) {x : Nat} (hx : x < n) (hq : q x = true) : iv n zs e x < n ∧ q (iv n zs e x) = true := by
  obtain ⟨h1, h2, _, _⟩ := iv_spec g hx
  exact ⟨h1, (subT_iff.1 hs).inv (grp_fg g) (List.mem_range.2 hx) (List.mem_range.2 h1) h2 hq⟩
theorem sub_mul (hs : subT n zs e q = true) {x y : Nat} (hx : x < n) (hy : y < n) (h1 : q x = true) (h2 : q y = true) : q (tm n zs x y) = true :=
  (subT_iff.1 hs).mul x y (List.mem_range.2 hx) (List.mem_range.2 hy) h1 h2
/-- A right coset by what its things, by an inverse, are. -/
theorem rgt_iff (g : IsGrp n zs e) {a b : Nat} (ha : a < n) (hb : b < n) : rgtq n zs (lst n q) a b = decide (tm n zs b (iv n zs e a) ∈ lst n q) := by
  obtain ⟨h1, h2, h3, _⟩ := iv_spec g ha
  rw [Bool.eq_iff_iff, mem_rgt, decide_eq_true_eq]
  constructor
  · rintro ⟨x, hx, rfl⟩
    obtain ⟨hxn, _⟩ := mem_lst.1 hx
    rw [g.ass x a _ hxn ha h1, h2, g.right x hxn]
    exact hx
  · intro h
    exact ⟨_, h, by rw [g.ass b _ a hb h1 ha, h3, g.right b hb]⟩
theorem lft_iff (g : IsGrp n zs e) {a b : Nat} (ha : a < n) (hb : b < n) : lftq n zs (lst n q) a b = decide (tm n zs (iv n zs e a) b ∈ lst n q) := by
  obtain ⟨h1, h2, h3, _⟩ := iv_spec g ha
  rw [Bool.eq_iff_iff, mem_lft, decide_eq_true_eq]
  constructor
  · rintro ⟨x, hx, rfl⟩
    obtain ⟨hxn, _⟩ := mem_lst.1 hx
    rw [← g.ass _ a x h1 ha hxn, h3, g.left x hxn]
    exact hx
  · intro h
    exact ⟨_, h, by rw [← g.ass a _ b ha h1 hb, h2, g.left b hb]⟩
theorem rgt_parts (g : IsGrp n zs e) (hs : subT n zs e q = true) : Prts n (rgtq n zs (lst n q)) where
  refl := fun a ha => mem_rgt.2 ⟨e, mem_lst.2 ⟨g.elt, (subT_iff.1 hs).one⟩, g.left a ha⟩
  same := fun a b ha hb hab c hc => by
    obtain ⟨x, hx, rfl⟩ := mem_rgt.1 hab
    obtain ⟨hxn, hqx⟩ := mem_lst.1 hx
    obtain ⟨i1, i2⟩ := sub_iv g hs hxn hqx
    obtain ⟨_, i3, i4, _⟩ := iv_spec g hxn
    rw [Bool.eq_iff_iff, mem_rgt, mem_rgt]
    constructor
    · rintro ⟨y, hy, rfl⟩
      obtain ⟨hyn, hqy⟩ := mem_lst.1 hy
      refine ⟨tm n zs y (iv n zs e x), mem_lst.2 ⟨tm_lt g.tab hyn i1, sub_mul hs hyn i1 hqy i2⟩, ?_⟩
      rw [g.ass y _ _ hyn i1 hb, ← g.ass _ x a i1 hxn ha, i4, g.left a ha]
    · rintro ⟨y, hy, rfl⟩
      obtain ⟨hyn, hqy⟩ := mem_lst.1 hy
      exact ⟨tm n zs y x, mem_lst.2 ⟨tm_lt g.tab hyn hxn, sub_mul hs hyn hxn hqy hqx⟩, g.ass y x a hyn hxn ha⟩
theorem lft_parts (g : IsGrp n zs e) (hs : subT n zs e q = true) : Prts n (lftq n zs (lst n q)) where
  refl := fun a ha => mem_lft.2 ⟨e, mem_lst.2 ⟨g.elt, (subT_iff.1 hs).one⟩, g.right a ha⟩
  same := fun a b ha hb hab c hc => by
    obtain ⟨x, hx, rfl⟩ := mem_lft.1 hab
    obtain ⟨hxn, hqx⟩ := mem_lst.1 hx
    obtain ⟨i1, i2⟩ := sub_iv g hs hxn hqx
    obtain ⟨_, i3, i4, _⟩ := iv_spec g hxn
    rw [Bool.eq_iff_iff, mem_lft, mem_lft]
    constructor
    · rintro ⟨y, hy, rfl⟩
      obtain ⟨hyn, hqy⟩ := mem_lst.1 hy
      refine ⟨tm n zs (iv n zs e x) y, mem_lst.2 ⟨tm_lt g.tab i1 hyn, sub_mul hs i1 hyn i2 hqy⟩, ?_⟩
      rw [← g.ass _ _ y hb i1 hyn, g.ass a x _ ha hxn i1, i3, g.right a ha]
    · rintro ⟨y, hy, rfl⟩
      obtain ⟨hyn, hqy⟩ := mem_lst.1 hy
      exact ⟨tm n zs x y, mem_lst.2 ⟨tm_lt g.tab hxn hyn, sub_mul hs hxn hyn hqx hqy⟩, (g.ass a x y ha hxn hyn).symm⟩
theorem rgt_size (g : IsGrp n zs e) {a : Nat} (ha : a < n) : (lst n (rgtq n zs (lst n q) a)).length = (lst n q).length := by
  symm
  refine Fin.bij_len (fun x => tm n zs x a) (List.nodup_range.sublist List.filter_sublist) (List.nodup_range.sublist List.filter_sublist) (fun x hx => ?_) (fun x y hx hy h => ?_) (fun y hy => ?_)
  · exact mem_lst.2 ⟨tm_lt g.tab (mem_lst.1 hx).1 ha, mem_rgt.2 ⟨x, hx, rfl⟩⟩
  · obtain ⟨h1, h2, _, _⟩ := iv_spec g ha
    have h9 : tm n zs (tm n zs x a) (iv n zs e a) = tm n zs (tm n zs y a) (iv n zs e a) := by
      have h8 : tm n zs x a = tm n zs y a := h
      rw [h8]
    rw [g.ass x a _ (mem_lst.1 hx).1 ha h1, g.ass y a _ (mem_lst.1 hy).1 ha h1, h2, g.right x (mem_lst.1 hx).1, g.right y (mem_lst.1 hy).1] at h9
    exact h9
  · obtain ⟨x, hx, he⟩ := mem_rgt.1 (mem_lst.1 hy).2
    exact ⟨x, hx, he⟩
theorem lft_size (g : IsGrp n zs e) {a : Nat} (ha : a < n) : (lst n (lftq n zs (lst n q) a)).length = (lst n q).length := by
  symm
  refine Fin.bij_len (fun x => tm n zs a x) (List.nodup_range.sublist List.filter_sublist) (List.nodup_range.sublist List.filter_sublist) (fun x hx => ?_) (fun x y hx hy h => ?_) (fun y hy => ?_)
  · exact mem_lst.2 ⟨tm_lt g.tab ha (mem_lst.1 hx).1, mem_lft.2 ⟨x, hx, rfl⟩⟩
  · exact (grp_fg g).can (List.mem_range.2 ha) (List.mem_range.2 (mem_lst.1 hx).1) (List.mem_range.2 (mem_lst.1 hy).1) h
  · obtain ⟨x, hx, he⟩ := mem_lft.1 (mem_lst.1 hy).2
    exact ⟨x, hx, he⟩
end
end Go.Proofs.YtolbpjjjoafkkaaDoor

namespace Go.Proofs.YtolbpjjjoafkkaaDoor
open Go Go.RowKit Go.Maps

/-- The number of a thing's set. -/
def num (n : Nat) (f : Nat → Nat → Bool) (a : Nat) : Nat := (fsts n f (((List.range n).find? fun b => decide (bs (f b) n = bs (f a) n)).getD 0)).length
theorem num_same {n a b : Nat} {f : Nat → Nat → Bool} (h : bs (f a) n = bs (f b) n) : num n f a = num n f b := by unfold num; rw [h]
theorem num_new {n j : Nat} {f : Nat → Nat → Bool} (hj : j < n) (h : (List.range j).all (fun b => decide (bs (f b) n ≠ bs (f j) n)) = true) : num n f j = (fsts n f j).length := by
  unfold num
  have : ((List.range n).find? fun b => decide (bs (f b) n = bs (f j) n)) = some j := by
    rw [List.find?_range_eq_some]
    refine ⟨by simp, List.mem_range.2 hj, fun b hb => ?_⟩
    have := List.all_eq_true.1 h b (List.mem_range.2 hb)
    simpa using this
  rw [this]; rfl
/-- The numbers that the map has. -/
def MNum (n : Nat) (f : Nat → Nat → Bool) (j : Nat) (D : DataW Unit) : Prop := ∀ a, a < j → D.atKey (.int .u64 (bs (f a) n : Nat)) (.lit (.int .i64 0)) = .lit (.int .i64 (num n f a : Nat))
theorem mnum_step {n j : Nat} {f : Nat → Nat → Bool} {D : DataW Unit} (h : MNum n f j D) (hD : IsMap D) (hj : j < n) (hnew : (List.range j).all (fun b => decide (bs (f b) n ≠ bs (f j) n)) = true) : MNum n f (j + 1) (D.put (.int .u64 (bs (f j) n : Nat)) (.lit (.int .i64 ((fsts n f j).length : Nat)))) := by
  intro a ha
  by_cases e : a = j
  · subst e
    rw [atKey_put_same hD (by trivial), num_new hj hnew]
  · have hne := List.all_eq_true.1 hnew a (List.mem_range.2 (by omega))
    rw [atKey_put_other (fun h9 => by injection h9 with _ h9; simp at hne; omega)]
    exact h a (by omega)
theorem mnum_same {n j : Nat} {f : Nat → Nat → Bool} {D : DataW Unit} (h : MNum n f j D) (hs : ∃ a, a < j ∧ bs (f a) n = bs (f j) n) : MNum n f (j + 1) D := by
  obtain ⟨b, hb, e⟩ := hs
  intro a ha
  by_cases e9 : a = j
  · subst e9
    have := h b hb
    rw [e, num_same e] at this
    exact this
  · exact h a (by omega)
end Go.Proofs.YtolbpjjjoafkkaaDoor

namespace Go.Proofs.YtolbpjjjoafkkaaDoor
open Go Go.RowKit

/-- Which of the lists has a number first. -/
def whichI (rs : List (List Int)) (a : Int) : Int := if rs.findIdx (fun y => decide (a ∈ y)) < rs.length then (rs.findIdx (fun y => decide (a ∈ y)) : Int) else -1
theorem whichI_at {rs : List (List Int)} {a : Int} {k : Nat} (hk : k < rs.length) (h : a ∈ rs[k]?.getD []) (hno : ∀ t, t < k → ¬ a ∈ rs[t]?.getD []) : whichI rs a = k := by
  have h1 : rs.findIdx (fun y => decide (a ∈ y)) = k := by
    rw [List.findIdx_eq hk]
    rw [List.getElem?_eq_getElem hk] at h
    refine ⟨by simpa using h, fun t ht => ?_⟩
    have := hno t ht
    rw [List.getElem?_eq_getElem (by omega)] at this
    simpa using this
  unfold whichI
  rw [h1, if_pos hk]
theorem whichI_no {rs : List (List Int)} {a : Int} (hno : ∀ t, t < rs.length → ¬ a ∈ rs[t]?.getD []) : whichI rs a = -1 := by
  unfold whichI
  rw [if_neg]
  intro h
  have h2 := List.findIdx_getElem (w := h)
  have := hno _ h
  rw [List.getElem?_eq_getElem h] at this
  simp at this h2
  exact this h2
end Go.Proofs.YtolbpjjjoafkkaaDoor
