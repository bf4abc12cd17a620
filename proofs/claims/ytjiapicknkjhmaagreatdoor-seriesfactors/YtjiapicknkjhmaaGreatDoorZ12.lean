/- What the document's test of a step says, as mathematics: it is what the program's test says. No condition. Factors and the document's factorsOf answer the same at every series of a group. Condition: the library's table of places lies as its text lays it. The law's listAs, and SeriesFactors' closure: what it holds. The law SeriesFactors: its walk, what it calls as premises. Condition: the library's table of places lies as its text lays it. The law SeriesFactors: at every table and every list of lists it returns true. Condition: the library's table of places lies as its text lays it. -/
import Derived.Test.YtjiapicknkjhmaaGreatDoorZ10
import Derived.Test.YtjiapicknkjhmaaGreatDoorZ11
import Derived.Test.YtjiapicknkjhmaaGreatDoorZ6
import Derived.Laws.EntriesVeiled
import Derived.Test.YtjiapicknkjhmaaGreatDoorZ9
namespace Go.Proofs.YtjiapicknkjhmaaGreatDoor
open Go Go.RowKit

section
variable {n e : Nat} {zs : List Int} {A B : Nat → Bool}
theorem parted_in : ((li (lst n B)).all fun a => decide (a ∈ li (lst n A))) = true ↔ Fin.In (List.range n) B A := by
  rw [List.all_eq_true]
  constructor
  · intro h x hx h1
    have hx := List.mem_range.1 hx
    have h2 := of_decide_eq_true (h (x : Int) (mem_li.2 (mem_lst.2 ⟨hx, h1⟩)))
    exact (mem_lst.1 (mem_li.1 h2)).2
  · intro h x hx
    obtain ⟨a, ha, rfl⟩ := List.mem_map.1 hx
    obtain ⟨ha, h1⟩ := mem_lst.1 ha
    exact decide_eq_true (mem_li.2 (mem_lst.2 ⟨ha, h a (List.mem_range.2 ha) h1⟩))
theorem nb_stay (g : IsGrp n zs e) (h : Fin.Nb (List.range n) (tm n zs) (iv n zs e) B A) (SA : subT n zs e A = true) {a : Nat} (ha : a ∈ lst n A) : lst n (cjl n zs e (lst n B) a) = lst n B := by
  obtain ⟨ha, h1⟩ := mem_lst.1 ha
  have F := grp_fg g
  have V := grp_iv g
  have ha' := List.mem_range.2 ha
  have hi := (V a ha').1
  have h2 : A (iv n zs e a) = true := Fin.Sg.inv F (subT_iff.1 SA) ha' hi (V a ha').2.1 h1
  refine lst_congr fun y hy => ?_
  show cjq n zs e B a y = B y
  rw [Bool.eq_iff_iff, cjq_iff]
  constructor
  · rintro ⟨x, hx, h3, rfl⟩
    exact h x a hx ha' h3 h1
  · intro h3
    exact ⟨_, Fin.cj_mem F V (List.mem_range.2 hy) hi, h y _ (List.mem_range.2 hy) hi h3 h2, (Fin.cj_back F V (List.mem_range.2 hy) ha').2⟩
theorem stay_nb (g : IsGrp n zs e) (h : ∀ a, a ∈ lst n A → lst n (cjl n zs e (lst n B) a) = lst n B) : Fin.Nb (List.range n) (tm n zs) (iv n zs e) B A := fun x a hx ha h1 h2 => by
  have h3 := h a (mem_lst.2 ⟨List.mem_range.1 ha, h2⟩)
  have h4 : Fin.cj (tm n zs) (iv n zs e) x a ∈ lst n (cjl n zs e (lst n B) a) := mem_lst.2 ⟨List.mem_range.1 (Fin.cj_mem (grp_fg g) (grp_iv g) hx ha), by
    show cjq n zs e B a _ = true
    exact cjq_iff.2 ⟨x, hx, h1, rfl⟩⟩
  rw [h3] at h4
  exact (mem_lst.1 h4).2
theorem fill_mxg (SB : subT n zs e B = true) (h1 : Fin.In (List.range n) B A) (h2 : Fin.Nb (List.range n) (tm n zs) (iv n zs e) B A) (h3 : (lst n B).length ≠ (lst n A).length)
    (h4 : ∀ a, a ∈ lst n A → a ∉ lst n B → (lst n (spq n zs e (lst n B ++ (lst n A).map (Fin.cj (tm n zs) (iv n zs e) a)))).length = (lst n A).length) : Mxg n zs e A B where
  sg := subT_iff.1 SB
  sub := h1
  nm := h2
  less := Classical.byContradiction fun h => h3 (Fin.sz_same h1 fun x hx hA => Classical.byContradiction fun hB => h ⟨x, hx, hA, hB⟩)
  top := fun C SC hBC hCA hN => by
    by_cases hCB : Fin.In (List.range n) C B
    · exact .inl hCB
    · refine .inr ?_
      obtain ⟨a, ha⟩ := Classical.not_forall.1 hCB
      obtain ⟨ha, h5⟩ := Classical.not_imp.1 ha
      obtain ⟨h5, h6⟩ := Classical.not_imp.1 h5
      have han := List.mem_range.1 ha
      have hA := hCA a ha h5
      have h7 := h4 a (mem_lst.2 ⟨han, hA⟩) (fun h => h6 (mem_lst.1 h).2)
      generalize hxs : lst n B ++ (lst n A).map (Fin.cj (tm n zs) (iv n zs e) a) = xs at h7
      have hin : Fin.In (List.range n) (spq n zs e xs) C := fun x hx h8 => by
        have h9 := (spq_iff n zs e xs x (List.mem_range.1 hx)).1 h8
        refine Fin.Gen.least (P := fun y => C y = true) SC (fun y hy h10 => ?_) h9
        have h10 := of_decide_eq_true h10
        rw [← hxs, List.mem_append, mem_lst, List.mem_map] at h10
        rcases h10 with h10 | ⟨b, hb, rfl⟩
        · exact hBC y hy h10.2
        · exact hN a b ha (List.mem_range.2 (mem_lst.1 hb).1) h5 (mem_lst.1 hb).2
      have h8 : Fin.sz (List.range n) (spq n zs e xs) ≤ Fin.sz (List.range n) C := Fin.sz_le hin
      have h9 : Fin.sz (List.range n) C ≤ Fin.sz (List.range n) A := Fin.sz_le hCA
      have h10 : Fin.sz (List.range n) (spq n zs e xs) = Fin.sz (List.range n) A := h7
      exact Fin.in_of_sz hCA (by omega)
end
section
variable {n e : Nat} {zs : List Int} {ls : List (List Int)}
/-- What factorsOf reads of a series. -/
abbrev foU (n : Nat) (ls : List (List Int)) : Nat → List Nat := fun t => lst n (pset (ls[t]?.getD []))
abbrev foS (n : Nat) (zs : List Int) (e : Nat) (ls : List (List Int)) : Nat → Nat → List Int := fun t a => li (lst n (cjl n zs e (lst n (pset (ls[t]?.getD []))) a))
abbrev foC (n : Nat) (zs : List Int) (e : Nat) : Nat → Nat → Nat := fun a x => Fin.cj (tm n zs) (iv n zs e) a x
noncomputable abbrev foP (n : Nat) (zs : List Int) (e : Nat) : List Nat → List Nat := fun xs => lst n (spq n zs e xs)
theorem oks_mxg (g : IsGrp n zs e) {t : Nat} (SB : subT n zs e (pset (ls[t]?.getD [])) = true) (h : OKS (foU n ls) (foS n zs e ls) (foC n zs e) (foP n zs e) t) : stpc n zs e (pset (ls[t - 1]?.getD [])) (pset (ls[t]?.getD [])) = 0 :=
  stpc_zero.2 (fill_mxg SB (parted_in.1 h.pt) (stay_nb g fun a ha => li_inj (h.sl a ha)) h.ne h.sq)
theorem bds_stp (g : IsGrp n zs e) {t : Nat} {c : Int} (SA : subT n zs e (pset (ls[t - 1]?.getD [])) = true) (h : BDS (foU n ls) (foS n zs e ls) (foC n zs e) (foP n zs e) t c) : stpc n zs e (pset (ls[t - 1]?.getD [])) (pset (ls[t]?.getD [])) = c ∧ c ≠ 0 := by
  unfold stpc
  rcases h with ⟨h1, rfl⟩ | ⟨h1, ⟨a, ha, h2⟩, rfl⟩ | ⟨h1, h2, h3, rfl⟩
  · rw [if_pos (fun h => by rw [parted_in.2 h] at h1; cases h1)]
    exact ⟨rfl, by decide⟩
  · rw [if_neg (Classical.not_not.2 (parted_in.1 h1)), if_pos (fun h => h2 (congrArg li (nb_stay g h SA ha)))]
    exact ⟨rfl, by decide⟩
  · rw [if_neg (Classical.not_not.2 (parted_in.1 h1)), if_neg (Classical.not_not.2 (stay_nb g fun a ha => li_inj (h2 a ha))), if_pos (fun h => ?_)]
    · exact ⟨rfl, by decide⟩
    · rcases h3 with h3 | ⟨a, ha, hb, h3⟩
      · exact Nat.ne_of_lt (Fin.sz_lt h.sub h.less) h3
      · exact h3 (mxg_fill g SA h ha hb)
end
end Go.Proofs.YtjiapicknkjhmaaGreatDoor

namespace Go.Proofs.YtjiapicknkjhmaaGreatDoor
open Go Go.RowKit

/-- Both tell the same fault. -/
structure FBad (n : Nat) (zs : List Int) (ls : List (List Int)) (c i : Int) : Prop where
  ne : c ≠ 0
  fac : ∀ (W : World) (u lu : Value), Sl W u zs → Tab W → SlL W lu ls → Calls Tryz.prog 6 #[.agg #[.int .i64 n, u], lu] W fun x W' => x = .returned (.tuple #[.slice none 0 0, .agg #[.int .i64 c, .int .i64 i]]) ∧ Below W.heap.size W W'
  doc : ∀ (W : World) (u lu : Value), Sl W u zs → Tab W → SlL W lu ls → Calls Tryz.prog 9 #[.agg #[.int .i64 n, u], lu] W fun x W' => x = .returned (.tuple #[.slice none 0 0, .agg #[.int .i64 c, .int .i64 i]]) ∧ Below W.heap.size W W'
/-- Both tell the same list. -/
structure FGood (n : Nat) (zs : List Int) (ls : List (List Int)) (SL : List Int) : Prop where
  fac : ∀ (W : World) (u lu : Value), Sl W u zs → Tab W → SlL W lu ls → Calls Tryz.prog 6 #[.agg #[.int .i64 n, u], lu] W fun x W' => ∃ y, x = .returned (.tuple #[y, .agg #[.int .i64 0, .int .i64 0]]) ∧ Row W' W.heap.size y SL ∧ Below W.heap.size W W'
  doc : ∀ (W : World) (u lu : Value), Sl W u zs → Tab W → SlL W lu ls → Calls Tryz.prog 9 #[.agg #[.int .i64 n, u], lu] W fun x W' => ∃ y, x = .returned (.tuple #[y, .agg #[.int .i64 0, .int .i64 0]]) ∧ Row W' W.heap.size y SL ∧ Below W.heap.size W W'
section
variable {n e : Nat} {zs : List Int} {ls : List (List Int)}
/-- The document's factorsOf of subgroups. -/
theorem fo_sub (hg : IsGrp n zs e) (l1 : 1 ≤ ls.length) (l2 : ls.length ≤ 10) (s0 : (ls[0]?.getD []).length = n) (s1 : (ls[ls.length - 1]?.getD []).length = 1) (hgd : ∀ t, t < ls.length → gdB n zs e (ls[t]?.getD []) = true)
    (W : World) (u lu : Value) (hv : Sl W u zs) (hT : Tab W) (hL : SlL W lu ls) :
    Calls Tryz.prog 9 #[.agg #[.int .i64 n, u], lu] W fun x w' => ∃ (y : Value) (c i : Int), x = .returned (.tuple #[y, .agg #[.int .i64 c, .int .i64 i]]) ∧ FoR ls.length (foU n ls) (foS n zs e ls) (foC n zs e) (foP n zs e) (fun t => (((foU n ls t).length / (foU n ls (t + 1)).length : Nat) : Int)) W.heap.size y c i w' ∧ Below W.heap.size W w' := by
  have hn := hg.tab.le
  obtain ⟨v1, v2, v3, rfl⟩ := hv.isSlice
  have hU : ∀ t, t < ls.length → ls[t]?.getD [] = li (lst n (pset (ls[t]?.getD []))) := fun t ht => (gd_lst (hgd t ht)).1
  have hlen : ∀ t, t < ls.length → (ls[t]?.getD []).length = (lst n (pset (ls[t]?.getD []))).length := fun t ht => gd_len (hgd t ht)
  have hS : ∀ t, t < ls.length → subT n zs e (pset (ls[t]?.getD [])) = true := fun t ht => (gd_lst (hgd t ht)).2
  refine fo_all n v1 v2 v3 ls (foU n ls) (foS n zs e ls) (foC n zs e) (foP n zs e) lu W hL l1 l2 hU ⟨fun t ht => ?_, fun t ht => ?_, fun t ht x hx => (mem_lst.1 hx).1⟩ ?_ ?_ (hide fun W h => ?_) (hide fun W u t h ht hu => ?_) (hide fun W u t h ht hu => ?_) (hide fun W u t a h ht ha hu => ?_) (hide fun W x y h hx hy => ?_) (hide fun x y hx hy => rcj_lt hg hx hy) (hide fun W u xs h hx hxl hu => ?_) _ rfl
  · exact Fin.sz_pos (grp_fg hg) (subT_iff.1 (hS t ht))
  · have := lst_len n (pset (ls[t]?.getD []))
    show (lst n (pset (ls[t]?.getD []))).length ≤ 60
    omega
  · show (lst n (pset (ls[0]?.getD []))).length = n
    rw [← hlen 0 l1]; exact s0
  · show (lst n (pset (ls[ls.length - 1]?.getD []))).length = 1
    rw [← hlen _ (by omega)]; exact s1
  · have := groupFault_any n (.slice v1 v2 v3) zs W (hv.below h)
    rw [gfault_of_grp hg] at this
    exact this
  · have := rlist_any n (.slice v1 v2 v3) u _ W hn hu
    rw [lst_fault] at this
    exact this
  · have := closed_ok n e (.slice v1 v2 v3) u zs _ W (hv.below h) hg hu (fun x hx => (mem_lst.1 hx).1) (by have := lst_len n (pset (ls[t]?.getD [])); show (lst n (pset (ls[t]?.getD []))).length ≤ 100000; omega)
    rw [subT_congr hg (lst_dec (pset (ls[t]?.getD []))), hS t ht] at this
    exact this
  · refine (shf_ok n e a (.slice v1 v2 v3) u zs _ W hg (hv.below h) ha hu (fun x hx => (mem_lst.1 hx).1)).mono ?_
    rintro x W' ⟨r, rfl, hr, hb⟩
    obtain ⟨r1, r3, rfl, hs⟩ := row_slice hr (Nat.lt_of_lt_of_le (hT.below h).lt hb.size)
    exact ⟨_, _, _, rfl, hs, hb⟩
  · exact rcj_ok n e x y (.slice v1 v2 v3) zs W hg (hv.below h) hx hy
  · refine (span_ok n e (.slice v1 v2 v3) u zs xs (spq n zs e xs) W (hv.below h) hg hu hx (by omega) (spq_iff n zs e xs)).mono ?_
    rintro x W' ⟨r, rfl, hr, hb⟩
    obtain ⟨r1, r3, rfl, hs⟩ := row_slice hr (Nat.lt_of_lt_of_le (hT.below h).lt hb.size)
    rw [li_len]
    exact ⟨_, _, rfl, hb⟩
theorem fac_sub (hg : IsGrp n zs e) (l1 : 1 ≤ ls.length) (l2 : ls.length ≤ 10) (s0 : (ls[0]?.getD []).length = n) (s1 : (ls[ls.length - 1]?.getD []).length = 1) (h1 : ∀ t, t < ls.length → gdB n zs e (ls[t]?.getD []) = true)
    (w : World) (u lu : Value) (hv : Sl w u zs) (hT : Tab w) (hL : SlL w lu ls) :
    Calls Tryz.prog 6 #[.agg #[.int .i64 n, u], lu] w fun x w' => ∃ y c i, x = .returned (.tuple #[y, .agg #[.int .i64 c, .int .i64 i]]) ∧ ((∃ t : Nat, 1 ≤ t ∧ t < ls.length ∧ (∀ s, 1 ≤ s → s < t → stpc n zs e (pset (ls[s - 1]?.getD [])) (pset (ls[s]?.getD [])) = 0) ∧ stpc n zs e (pset (ls[t - 1]?.getD [])) (pset (ls[t]?.getD [])) ≠ 0 ∧ c = stpc n zs e (pset (ls[t - 1]?.getD [])) (pset (ls[t]?.getD [])) ∧ i = t ∧ y = .slice none 0 0) ∨ ((∀ s, 1 ≤ s → s < ls.length → stpc n zs e (pset (ls[s - 1]?.getD [])) (pset (ls[s]?.getD [])) = 0) ∧ c = 0 ∧ i = 0 ∧ Row w' w.heap.size y (srtI (qts ls ls.length)))) ∧ Below w.heap.size w w' := by
  obtain ⟨v1, v2, v3, rfl⟩ := hv.isSlice
  have HC0 := hide (fun W (h : Below w.heap.size w W) => check_any n (.slice v1 v2 v3) zs W (hv.below h))
  rw [gfault_of_grp hg] at HC0
  have hn := hg.tab.le
  refine fac_go n v1 v2 v3 ls (fun t => stpc n zs e (pset (ls[t - 1]?.getD [])) (pset (ls[t]?.getD []))) lu w hL l1 l2 (fun t ht => ?_) HC0 (hide fun W h => checked_go n e (.slice v1 v2 v3) lu zs ls W (hv.below h) hg (hT.below h) (hL.below h) l1 l2 s0 s1 0 0 (.inl ⟨h1, rfl, rfl⟩)) (hide fun W t a b h ht1 ht2 ha hb => ?_)
  · have h3 := h1 t ht
    have h4 := gd_len h3
    have h5 := Fin.sz_pos (grp_fg hg) (subT_iff.1 (gd_lst h3).2)
    have h6 := lst_len n (pset (ls[t]?.getD []))
    have h7 : Fin.sz (List.range n) (pset (ls[t]?.getD [])) = (lst n (pset (ls[t]?.getD []))).length := rfl
    omega
  · have g1 := gd_lst (h1 (t - 1) (by omega))
    have g2 := gd_lst (h1 t ht2)
    exact cstep_ok n e (.slice v1 v2 v3) a b zs (pset (ls[t - 1]?.getD [])) (pset (ls[t]?.getD [])) W (hv.below h) (by rw [← g1.1]; exact ha) (by rw [← g2.1]; exact hb) hg (hT.below h) g1.2 g2.2
theorem gd_false {l : List Int} (h : gdB n zs e l = false) : (lfault n l).1 ≠ 0 ∨ ((lfault n l).1 = 0 ∧ (lfault n l).2 = 0 ∧ subT n zs e (pset l) = false) := by
  by_cases h0 : (lfault n l).1 = 0
  · obtain ⟨h1, _, _⟩ := lfault_zero h0
    unfold gdB at h
    rw [decide_eq_true h1, Bool.true_and] at h
    exact .inr ⟨h0, by rw [h1], h⟩
  · exact .inl h0
theorem closed_l {l : List Int} (hg : IsGrp n zs e) (h0 : (lfault n l).1 = 0) (v u : Value) (W : World) (hv : Sl W v zs) (hu : Sl W u l) :
    Calls Tryz.prog 29 #[.agg #[.int .i64 n, v], u] W fun x W' => x = .returned (.bool (subT n zs e (pset l))) ∧ Below W.heap.size W W' := by
  obtain ⟨h1, h2, _⟩ := lfault_zero h0
  have hl : l = li (lst n (pset l)) := set_lst h0
  rw [hl] at hu
  have := closed_ok n e v u zs _ W hv hg hu (fun x hx => (mem_lst.1 hx).1) (by have := lst_len n (pset l); have := hg.tab.le; omega)
  rw [subT_congr hg (lst_dec (pset l))] at this
  exact this
theorem fboth (hg : IsGrp n zs e) : (∃ c i, FBad n zs ls c i) ∨ FGood n zs ls (srtI (qts ls ls.length)) := by
  have hn := hg.tab.le
  have HCK : ∀ (w : World) (u : Value), Sl w u zs → Hid (∀ W, Below w.heap.size w W → Calls Tryz.prog 22 #[.agg #[.int .i64 n, u]] W fun x W' => x = .returned (.agg #[.int .i64 0, .int .i64 0]) ∧ Below W.heap.size W W') := fun w u hv => by
    have := hide (fun W (h : Below w.heap.size w W) => check_any n u zs W (hv.below h))
    rw [gfault_of_grp hg] at this
    exact this
  have HGF : ∀ (w : World) (u : Value), Sl w u zs → Hid (∀ W, Below w.heap.size w W → Calls Tryz.prog 14 #[.agg #[.int .i64 n, u]] W fun x W' => x = .returned (.agg #[.int .i64 0, .int .i64 0]) ∧ Below W.heap.size W W') := fun w u hv => by
    have := hide (fun W (h : Below w.heap.size w W) => groupFault_any n u zs W (hv.below h))
    rw [gfault_of_grp hg] at this
    exact this
  by_cases hm : ls.length < 1 ∨ 10 < ls.length
  · exact .inl ⟨2, 0, by decide, fun W u lu hu hT hL => fac_chk n u lu W 2 0 (by decide) (HCK W u hu) (hide fun W' h => checked_many n u lu ls W' (hL.below h) hm), fun W u lu hu hT hL => fo_many n u lu ls W hL hm (HGF W u hu)⟩
  · have l1 : 1 ≤ ls.length := by omega
    have l2 : ls.length ≤ 10 := by omega
    by_cases hs : (ls[0]?.getD []).length ≠ n ∨ (ls[ls.length - 1]?.getD []).length ≠ 1
    · exact .inl ⟨8, 0, by decide, fun W u lu hu hT hL => fac_chk n u lu W 8 0 (by decide) (HCK W u hu) (hide fun W' h => checked_size n u lu ls W' (hL.below h) l1 l2 hs), fun W u lu hu hT hL => fo_size n u lu ls W hL l1 l2 hs (HGF W u hu)⟩
    · have s0 : (ls[0]?.getD []).length = n := Classical.byContradiction fun h => hs (.inl h)
      have s1 : (ls[ls.length - 1]?.getD []).length = 1 := Classical.byContradiction fun h => hs (.inr h)
      rcases least_cases ls.length (fun i => !gdB n zs e (ls[i]?.getD [])) with ⟨k, hk, h1, h2, _⟩ | ⟨h1, _⟩
      · have h1 : gdB n zs e (ls[k]?.getD []) = false := by simpa using h1
        have h2 : ∀ t, t < k → gdB n zs e (ls[t]?.getD []) = true := fun t ht => by simpa using h2 t ht
        refine .inl ⟨5, k, by decide, fun W u lu hu hT hL => fac_chk n u lu W 5 k (by decide) (HCK W u hu) (hide fun W' h => checked_go n e u lu zs ls W' (hu.below h) hg (hT.below h) (hL.below h) l1 l2 s0 s1 5 k (.inr ⟨k, hk, h2, h1, rfl, rfl⟩)), fun W u lu hu hT hL => ?_⟩
        obtain ⟨v1, v2, v3, rfl⟩ := hu.isSlice
        refine fo_five n v1 v2 v3 ls (fun t => (lfault n (ls[t]?.getD [])).1) (fun t => (lfault n (ls[t]?.getD [])).2) (fun t => subT n zs e (pset (ls[t]?.getD []))) k lu W hL l1 l2 s0 s1 hk (fun t ht => ?_) (gd_false h1) (HGF W _ hu) (hide fun W' u' t h ht hu' => rlist_any n (.slice v1 v2 v3) u' _ W' hn hu') (hide fun W' u' t h ht h0 hu' => closed_l hg h0 _ _ W' (hu.below h) hu')
        have h3 := h2 t ht
        unfold gdB at h3
        rw [Bool.and_eq_true, decide_eq_true_eq] at h3
        exact ⟨by rw [h3.1], by rw [h3.1], h3.2⟩
      · have h1 : ∀ t, t < ls.length → gdB n zs e (ls[t]?.getD []) = true := fun t ht => by simpa using h1 t ht
        have hS : ∀ t, t < ls.length → subT n zs e (pset (ls[t]?.getD [])) = true := fun t ht => (gd_lst (h1 t ht)).2
        obtain ⟨st, hst⟩ : ∃ st : Nat → Int, st = fun t => stpc n zs e (pset (ls[t - 1]?.getD [])) (pset (ls[t]?.getD [])) := ⟨_, rfl⟩
        have hok : ∀ t, t < ls.length → OKS (foU n ls) (foS n zs e ls) (foC n zs e) (foP n zs e) t → st t = 0 := fun t ht h => by rw [hst]; exact oks_mxg hg (hS t ht) h
        have hbd : ∀ t c, t < ls.length → BDS (foU n ls) (foS n zs e ls) (foC n zs e) (foP n zs e) t c → st t = c ∧ c ≠ 0 := fun t c ht h => by rw [hst]; exact bds_stp hg (hS (t - 1) (by omega)) h
        rcases least_cases ls.length (fun t => @decide (1 ≤ t ∧ st t ≠ 0) (Classical.propDecidable _)) with ⟨t, ht, h3, h4, _⟩ | ⟨h3, _⟩
        · have h3 : 1 ≤ t ∧ st t ≠ 0 := @of_decide_eq_true _ (Classical.propDecidable _) h3
          have h4 : ∀ s, 1 ≤ s → s < t → st s = 0 := fun s hs1 hs2 => Classical.byContradiction fun h => (@of_decide_eq_false _ (Classical.propDecidable _) (h4 s hs2)) ⟨hs1, h⟩
          have first : ∀ t', 1 ≤ t' → (∀ s, 1 ≤ s → s < t' → st s = 0) → st t' ≠ 0 → t' = t := fun t' a1 a2 a3 => by
            rcases Nat.lt_trichotomy t' t with h | h | h
            · exact absurd (h4 t' a1 h) a3
            · exact h
            · exact absurd (a2 t h3.1 h) h3.2
          refine .inl ⟨st t, t, h3.2, fun W u lu hu hT hL => (fac_sub hg l1 l2 s0 s1 h1 W u lu hu hT hL).mono ?_, fun W u lu hu hT hL => (fo_sub hg l1 l2 s0 s1 h1 W u lu hu hT hL).mono ?_⟩
          · rintro x W' ⟨y, c, i, rfl, ⟨t', b1, b2, b3, b4, rfl, rfl, rfl⟩ | ⟨b1, _⟩, hb⟩
            · have := first t' b1 (fun s a1 a2 => by rw [hst]; exact b3 s a1 a2) (by rw [hst]; exact b4)
              subst this
              exact ⟨by rw [hst], hb⟩
            · exact absurd (by rw [hst]; exact b1 t h3.1 ht) h3.2
          · rintro x W' ⟨y, c, i, rfl, ⟨t', b1, b2, b3, b4, rfl, rfl⟩ | ⟨b1, _⟩, hb⟩
            · obtain ⟨b5, b6⟩ := hbd t' c b2 b4
              have := first t' b1 (fun s a1 a2 => hok s (by omega) (b3 s a1 a2)) (by rw [b5]; exact b6)
              subst this
              exact ⟨by rw [b5], hb⟩
            · exact absurd (hok t ht (b1 t h3.1 ht)) h3.2
        · have h3 : ∀ s, 1 ≤ s → s < ls.length → st s = 0 := fun s a1 a2 => Classical.byContradiction fun h => (@of_decide_eq_false _ (Classical.propDecidable _) (h3 s a2)) ⟨a1, h⟩
          refine .inr ⟨fun W u lu hu hT hL => (fac_sub hg l1 l2 s0 s1 h1 W u lu hu hT hL).mono ?_, fun W u lu hu hT hL => (fo_sub hg l1 l2 s0 s1 h1 W u lu hu hT hL).mono ?_⟩
          · rintro x W' ⟨y, c, i, rfl, ⟨t', b1, b2, b3, b4, _⟩ | ⟨_, rfl, rfl, hr⟩, hb⟩
            · exact absurd (by have := h3 t' b1 b2; rw [hst] at this; exact this) b4
            · exact ⟨y, rfl, hr, hb⟩
          · rintro x W' ⟨y, c, i, rfl, ⟨t', b1, b2, b3, b4, _⟩ | ⟨_, rfl, rfl, hr⟩, hb⟩
            · obtain ⟨b5, b6⟩ := hbd t' c b2 b4
              exact absurd (by rw [← b5]; exact h3 t' b1 b2) b6
            · refine ⟨y, rfl, ?_, hb⟩
              have e1 : insF (fun t => (((foU n ls t).length / (foU n ls (t + 1)).length : Nat) : Int)) (ls.length - 1) = srtI (qts ls ls.length) := by
                rw [insF_srt]
                unfold qts
                refine congrArg srtI (List.map_congr_left fun t ht => ?_)
                have ht := List.mem_range.1 ht
                have e2 : (ls[t]?.getD []).length = (foU n ls t).length := gd_len (h1 t (by omega))
                have e3 : (ls[t + 1]?.getD []).length = (foU n ls (t + 1)).length := gd_len (h1 (t + 1) (by omega))
                rw [e2, e3]
              rw [← e1]
              exact hr
end
end Go.Proofs.YtjiapicknkjhmaaGreatDoor

namespace Go.Proofs.YtjiapicknkjhmaaGreatDoor
open Go Go.RowKit

set_option maxRecDepth 100000 in
set_option maxHeartbeats 8000000 in
theorem las_bad (k : Nat) (caps : Array Value) (c i : Int) (w : World) (hc : c ≠ 0) :
    Calls Tryz.prog 10 #[.slice none 0 0, .agg #[.int .i64 c, .int .i64 i], .agg #[.int .i64 c, .int .i64 i], .func (.func k) #[] caps] w fun x w' => x = .returned (.bool true) ∧ Below w.heap.size w w' := by
  have hcb : (c != 0) = true := by simpa using hc
  have hF1 : Blk ((w.alloc (.cells #[.int .i64 c, .int .i64 i] 28)).alloc (.cells #[.int .i64 c, .int .i64 i] 28)) w.heap.size 28 [.int .i64 c, .int .i64 i] := (blk0 _ _).alloc _
  have hF2 := blk0 (w := w.alloc (.cells #[.int .i64 c, .int .i64 i] 28)) (T := 28) (.int .i64 c) (.int .i64 i)
  rw [World.size_alloc] at hF2
  have hb : Below w.heap.size w ((w.alloc (.cells #[.int .i64 c, .int .i64 i] 28)).alloc (.cells #[.int .i64 c, .int .i64 i] 28)) := (balloc w _).alloc (by simp) _
  obtain ⟨f0, f1, _, _⟩ := hF1.two
  obtain ⟨g0, g1, _, _⟩ := hF2.two
  go_enter Tryz.func10, Tryz.ntmps10
  go_wp2
  go_ret
  exact ⟨rfl, hb⟩
set_option maxRecDepth 100000 in
set_option maxHeartbeats 8000000 in
theorem las_good (k : Nat) (caps : Array Value) (sv : Value) (xs ys : List Int) (w : World) (hs : Sl w sv xs)
    (hcall : ∀ W, Sem.run Tryz.prog (callFunc k caps) W = .ok (.enter k caps) W)
    (hk : ∀ W, Below w.heap.size w W → Calls Tryz.prog k caps W fun x w' => ∃ r, x = .returned r ∧ Sl w' r ys ∧ Below W.heap.size W w') :
    Calls Tryz.prog 10 #[sv, .agg #[.int .i64 0, .int .i64 0], .agg #[.int .i64 0, .int .i64 0], .func (.func k) #[] caps] w fun x w' => x = .returned (.bool (decide (xs = ys))) ∧ Below w.heap.size w w' := by
  have hF1 : Blk ((w.alloc (.cells #[.int .i64 0, .int .i64 0] 28)).alloc (.cells #[.int .i64 0, .int .i64 0] 28)) w.heap.size 28 [.int .i64 0, .int .i64 0] := (blk0 _ _).alloc _
  have hF2 := blk0 (w := w.alloc (.cells #[.int .i64 0, .int .i64 0] 28)) (T := 28) (.int .i64 0) (.int .i64 0)
  rw [World.size_alloc] at hF2
  have hb : Below w.heap.size w ((w.alloc (.cells #[.int .i64 0, .int .i64 0] 28)).alloc (.cells #[.int .i64 0, .int .i64 0] 28)) := (balloc w _).alloc (by simp) _
  obtain ⟨f0, f1, _, _⟩ := hF1.two
  obtain ⟨g0, g1, _, _⟩ := hF2.two
  have HK := hide hk
  clear hk
  go_enter Tryz.func10, Tryz.ntmps10
  go_wp2_with fail
  generalize (w.alloc (.cells #[.int .i64 0, .int .i64 0] 28)).alloc (.cells #[.int .i64 0, .int .i64 0] 28) = w0 at *
  refine (HK.out w0 hb).mono ?_
  rintro x w1 ⟨r, rfl, hr, hb1⟩
  go_wp2_with fail
  refine (ints_any sv r xs ys w1 (hs.below (bcat2 hb hb1)) hr).mono ?_
  rintro x w2 ⟨rfl, hb2⟩
  go_wp2
  go_ret
  exact ⟨rfl, bcat2 (bcat2 hb hb1) hb2⟩
set_option maxRecDepth 100000 in
theorem sfc_ok (xb : Nat) (v : Value) (w : World) (hx : Boxed w xb 22 v) : Calls Tryz.prog 11 #[.pointer (some ⟨xb, 0, none⟩)] w fun y w' => y = .returned v ∧ Below w.heap.size w w' := by
  have c0 := hx.cell
  go_enter Tryz.func11, Tryz.ntmps11
  go_wp2
  go_ret
  exact ⟨rfl, Below.refl _ _⟩
end Go.Proofs.YtjiapicknkjhmaaGreatDoor

namespace Go.Proofs.YtjiapicknkjhmaaGreatDoor
open Go Go.RowKit

set_option maxRecDepth 100000 in
set_option maxHeartbeats 4000000 in
theorem sfac_many (N : Int) (v : Value) (l1 : Option Addr) (L l3 : Nat) (w : World) (hT : Tab w) (hm : 100 < L) :
    Calls Tryz.prog 3 #[.agg #[.int .i64 N, v], .slice l1 L l3] w fun e w' => e = .returned (.bool true) ∧ Below w.heap.size w w' := by
  have hB0 : Below w.heap.size w (w.alloc (.cells #[.int .i64 N, v] 24)) := balloc w _
  have hmi : (L : Int) > 100 := by omega
  go_enter Tryz.func3, Tryz.ntmps3
  go_wp2_with fail
  generalize w.alloc (.cells #[.int .i64 N, v] 24) = w0 at *
  refine (seriesBegun_any _ (hT.below hB0)).mono ?_
  rintro x w1 ⟨rfl, hb1⟩
  go_wp2
  go_ret
  exact ⟨rfl, bcat2 hB0 hb1⟩
set_option maxRecDepth 100000 in
set_option maxHeartbeats 8000000 in
theorem sfac_walk (N : Int) (v1 : Option Addr) (v2 v3 : Nat) (l1 : Option Addr) (L l3 : Nat) (zs : List Int) (ls : List (List Int)) (c i : Int) (YP : World → Value → Prop) (w : World) (hT : Tab w) (hm : L ≤ 100)
    (HOG : Hid (∀ W, Below w.heap.size w W → Calls Tryz.prog 7 #[.agg #[.int .i64 N, .slice v1 v2 v3]] W fun x W' => ∃ u1 u2 u3, x = .returned (.agg #[.int .i64 N, .slice u1 u2 u3]) ∧ Sl W' (.slice u1 u2 u3) zs ∧ Below W.heap.size W W'))
    (HOL : Hid (∀ W, Below w.heap.size w W → Calls Tryz.prog 8 #[.slice l1 L l3] W fun x W' => ∃ u1 u2 u3, x = .returned (.slice u1 u2 u3) ∧ SlL W' (.slice u1 u2 u3) ls ∧ Below W.heap.size W W'))
    (HFA : Hid (∀ W u lu, Below w.heap.size w W → Sl W u zs → SlL W lu ls → Calls Tryz.prog 6 #[.agg #[.int .i64 N, u], lu] W fun x W' => ∃ y1 y2 y3, x = .returned (.tuple #[.slice y1 y2 y3, .agg #[.int .i64 c, .int .i64 i]]) ∧ YP W' (.slice y1 y2 y3) ∧ Below W.heap.size W W'))
    (HFO : Hid (∀ W, Below w.heap.size w W → Calls Tryz.prog 9 #[.agg #[.int .i64 N, .slice v1 v2 v3], .slice l1 L l3] W fun x W' => ∃ y1 y2 y3, x = .returned (.tuple #[.slice y1 y2 y3, .agg #[.int .i64 c, .int .i64 i]]) ∧ YP W' (.slice y1 y2 y3) ∧ Below W.heap.size W W'))
    (HYP : Hid (∀ W W' y, YP W y → Below W.heap.size W W' → YP W' y))
    (HLA : Hid (∀ W y q xb, Below w.heap.size w W → YP W y → YP W q → Boxed W xb 22 q → Calls Tryz.prog 10 #[y, .agg #[.int .i64 c, .int .i64 i], .agg #[.int .i64 c, .int .i64 i], .func (.func 11) #[] #[.pointer (some ⟨xb, 0, none⟩)]] W fun x W' => x = .returned (.bool true) ∧ Below W.heap.size W W')) :
    Calls Tryz.prog 3 #[.agg #[.int .i64 N, .slice v1 v2 v3], .slice l1 L l3] w fun e w' => e = .returned (.bool true) ∧ Below w.heap.size w w' := by
  have hB0 : Below w.heap.size w (w.alloc (.cells #[.int .i64 N, .slice v1 v2 v3] 24)) := balloc w _
  have hX0 : BoxG (w.alloc (.cells #[.int .i64 N, .slice v1 v2 v3] 24)) w.heap.size N (.slice v1 v2 v3) := blk0 (w := w) (T := 24) _ _
  have hmi : ¬ (L : Int) > 100 := by omega
  go_enter Tryz.func3, Tryz.ntmps3
  go_wp2_with fail
  generalize w.alloc (.cells #[.int .i64 N, .slice v1 v2 v3] 24) = w0 at *
  refine (seriesBegun_any _ (hT.below hB0)).mono ?_
  rintro x w1 ⟨rfl, hb1⟩
  have hB1 := bcat2 hB0 hb1
  have hX1 := blk_below hX0 hb1
  obtain ⟨c0, c1, _, _⟩ := hX1.two
  go_wp2_with fail
  clear c0 c1
  refine (HOG.out _ hB1).mono ?_
  rintro x w2 ⟨u1, u2, u3, rfl, hu2, hb2⟩
  have hB2 := bcat2 hB1 hb2
  go_wp2_with fail
  refine (HOL.out _ hB2).mono ?_
  rintro x w3 ⟨k1, k2, k3, rfl, hk3, hb3⟩
  have hB3 := bcat2 hB2 hb3
  have hu3 := hu2.below hb3
  go_wp2_with fail
  refine (HFA.out _ _ _ hB3 hu3 hk3).mono ?_
  rintro x w4 ⟨y1, y2, y3, rfl, hy4, hb4⟩
  obtain ⟨w5, hw5⟩ : ∃ w5, w5 = w4.alloc (.cells #[.int .i64 c, .int .i64 i] 28) := ⟨_, rfl⟩
  have hb5 : Below w4.heap.size w4 w5 := by rw [hw5]; exact balloc w4 _
  have hF5 : Blk w5 w4.heap.size 28 [.int .i64 c, .int .i64 i] := by rw [hw5]; exact blk0 _ _
  have hB5 := bcat2 hB3 (bcat2 hb4 hb5)
  have hX5 := blk_below hX1 (bcat2 hb2 (bcat2 hb3 (bcat2 hb4 hb5)))
  have HY5 := hide (HYP.out _ _ _ hy4 hb5)
  clear hy4 hX0 hX1 HFA HOG HOL hu2 hu3 hk3
  obtain ⟨c0, c1, _, _⟩ := hX5.two
  rw [hw5] at c0 c1
  go_wp2_with fail
  rw [← hw5]
  clear c0 c1 hw5
  refine (HFO.out _ hB5).mono ?_
  rintro x w6 ⟨q1, q2, q3, rfl, hq6, hb6⟩
  obtain ⟨w7, hw7⟩ : ∃ w7, w7 = (w6.alloc (.cells #[.slice q1 q2 q3] 22)).alloc (.cells #[.int .i64 c, .int .i64 i] 28) := ⟨_, rfl⟩
  have hb7 : Below w6.heap.size w6 w7 := by rw [hw7]; exact (balloc w6 _).alloc (by simp) _
  have hW7 : Blk w7 (w6.heap.size + 1) 28 [.int .i64 c, .int .i64 i] := by
    rw [hw7]
    have := blk0 (w := w6.alloc (.cells #[.slice q1 q2 q3] 22)) (T := 28) (.int .i64 c) (.int .i64 i)
    rwa [World.size_alloc] at this
  have hQ7 : Boxed w7 w6.heap.size 22 (.slice q1 q2 q3) := by rw [hw7]; exact (Boxed.new _ _ _).alloc _
  have hF7 := blk_below hF5 (bcat2 hb6 hb7)
  have hB7 := bcat2 hB5 (bcat2 hb6 hb7)
  have HY7 := hide (HYP.out _ _ _ HY5.out (bcat2 hb6 hb7))
  have HQ7 := hide (HYP.out _ _ _ hq6 hb7)
  obtain ⟨f0, f1, _, _⟩ := hF7.two
  obtain ⟨g0, g1, _, _⟩ := hW7.two
  rw [hw7] at f0 f1 g0 g1
  clear hq6
  go_wp2_with fail
  rw [← hw7]
  clear f0 f1 g0 g1 hw7
  refine (HLA.out _ _ _ _ hB7 HY7.out HQ7.out hQ7).mono ?_
  rintro x w8 ⟨rfl, hb8⟩
  go_wp2
  go_ret
  exact ⟨rfl, bcat2 hB7 hb8⟩
end Go.Proofs.YtjiapicknkjhmaaGreatDoor

namespace Go.Proofs.YtjiapicknkjhmaaGreatDoor
open Go Go.RowKit

theorem call11 (x : Value) (W : World) : Sem.run Tryz.prog (callFunc 11 #[x]) W = .ok (.enter 11 #[x]) W := by kernel_rfl
theorem sfac_law (N : Int) (v lv : Value) (zs : List Int) (ls : List (List Int)) (w : World) (hv : Sl w v zs) (hL : SlL w lv ls) (hT : Tab w) (hb : zs.length * 8 ≤ 140737488355328) (hbl : ∀ j, j < ls.length → (ls[j]?.getD []).length * 8 ≤ 140737488355328) :
    Calls Tryz.prog 3 #[.agg #[.int .i64 N, v], lv] w fun e w' => e = .returned (.bool true) ∧ Below w.heap.size w w' := by
  obtain ⟨v1, v2, v3, rfl⟩ := hv.isSlice
  obtain ⟨l1, l3, lb, lo, rfl, hr1, hr2, hr3, hr4, hr5⟩ := id hL
  by_cases hm : 100 < ls.length
  · exact sfac_many N (.slice v1 v2 v3) l1 ls.length l3 w hT hm
  · have HOG : Hid (∀ W, Below w.heap.size w W → Calls Tryz.prog 7 #[.agg #[.int .i64 N, .slice v1 v2 v3]] W fun x W' => ∃ u1 u2 u3, x = .returned (.agg #[.int .i64 N, .slice u1 u2 u3]) ∧ Sl W' (.slice u1 u2 u3) zs ∧ Below W.heap.size W W') := hide fun W h => by
      refine (ownGroup_any N (.slice v1 v2 v3) zs W (hv.below h) hb).mono ?_
      rintro x W' ⟨u, rfl, hu, hb⟩
      obtain ⟨u1, u2, u3, rfl⟩ := hu.isSlice
      exact ⟨_, _, _, rfl, hu, hb⟩
    have HOL := hide (fun W (h : Below w.heap.size w W) => ownLists_any (.slice l1 ls.length l3) ls W (hL.below h) (by omega) hbl)
    have bad : ∀ c i : Int, c ≠ 0 → (∀ W u lu, Below w.heap.size w W → Sl W u zs → SlL W lu ls → Calls Tryz.prog 6 #[.agg #[.int .i64 N, u], lu] W fun x W' => x = .returned (.tuple #[.slice none 0 0, .agg #[.int .i64 c, .int .i64 i]]) ∧ Below W.heap.size W W') →
        (∀ W, Below w.heap.size w W → Calls Tryz.prog 9 #[.agg #[.int .i64 N, .slice v1 v2 v3], .slice l1 ls.length l3] W fun x W' => x = .returned (.tuple #[.slice none 0 0, .agg #[.int .i64 c, .int .i64 i]]) ∧ Below W.heap.size W W') →
        Calls Tryz.prog 3 #[.agg #[.int .i64 N, .slice v1 v2 v3], .slice l1 ls.length l3] w fun e w' => e = .returned (.bool true) ∧ Below w.heap.size w w' := fun c i hc hF hD => by
      refine sfac_walk N v1 v2 v3 l1 ls.length l3 zs ls c i (fun _ y => y = .slice none 0 0) w hT (by omega) HOG HOL (hide fun W u lu h hu hl => ?_) (hide fun W h => ?_) (hide fun W W' y hy _ => hy) (hide fun W y q xb h hy _ _ => ?_)
      · refine (hF W u lu h hu hl).mono ?_
        rintro x W' ⟨rfl, hb⟩
        exact ⟨_, _, _, rfl, rfl, hb⟩
      · refine (hD W h).mono ?_
        rintro x W' ⟨rfl, hb⟩
        exact ⟨_, _, _, rfl, rfl, hb⟩
      · rw [hy]
        exact las_bad 11 _ c i W hc
    by_cases hc : (gfault N zs).1 = 0
    · obtain ⟨n, e, rfl, hg, _⟩ := gfault_grp hc
      rcases fboth (ls := ls) hg with ⟨c, i, B⟩ | G
      · exact bad c i B.ne (fun W u lu h hu hl => B.fac W u lu hu (hT.below h) hl) (fun W h => B.doc W _ _ (hv.below h) (hT.below h) (hL.below h))
      · refine sfac_walk n v1 v2 v3 l1 ls.length l3 zs ls 0 0 (fun W y => Sl W y (srtI (qts ls ls.length))) w hT (by omega) HOG HOL (hide fun W u lu h hu hl => ?_) (hide fun W h => ?_) (hide fun W W' y hy hb => hy.below hb) (hide fun W y q xb h hy hq hx => ?_)
        · refine (G.fac W u lu hu (hT.below h) hl).mono ?_
          rintro x W' ⟨y, rfl, hr, hb⟩
          obtain ⟨r1, r3, rfl, hs⟩ := row_slice hr (Nat.lt_of_lt_of_le (hT.below h).lt hb.size)
          exact ⟨_, _, _, rfl, hs, hb⟩
        · refine (G.doc W _ _ (hv.below h) (hT.below h) (hL.below h)).mono ?_
          rintro x W' ⟨y, rfl, hr, hb⟩
          obtain ⟨r1, r3, rfl, hs⟩ := row_slice hr (Nat.lt_of_lt_of_le (hT.below h).lt hb.size)
          exact ⟨_, _, _, rfl, hs, hb⟩
        · have := las_good 11 #[.pointer (some ⟨xb, 0, none⟩)] y _ _ W hy (fun W' => call11 _ W') (fun W' h' => (sfc_ok xb q W' (Boxed.below hx h')).mono (fun x W'' h9 => ⟨q, h9.1, hq.below (bcat2 h' h9.2), h9.2⟩))
          rw [decide_eq_true (show srtI (qts ls ls.length) = srtI (qts ls ls.length) from rfl)] at this
          exact this
    · refine bad _ _ hc (fun W u lu h hu hl => fac_bad N u lu W _ _ hc (hide fun W' h' => check_any N u zs W' (hu.below h'))) (fun W h => fo_bad N (.slice v1 v2 v3) (.slice l1 ls.length l3) W _ _ hc (hide fun W' h' => groupFault_any N (.slice v1 v2 v3) zs W' (hv.below (bcat2 h h'))))
end Go.Proofs.YtjiapicknkjhmaaGreatDoor
