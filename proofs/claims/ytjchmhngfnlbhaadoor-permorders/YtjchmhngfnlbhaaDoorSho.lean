/- What the document's ShapeOf gives at permutations: the shape. -/
import Derived.Test.YtjchmhngfnlbhaaDoorCyo
import Derived.Test.YtjchmhngfnlbhaaDoorShp
namespace Go.Proofs.YtjchmhngfnlbhaaDoor
open Go Go.RowKit

/-- The numbers of a list that are greater than N less j, falling. -/
def fallTo (L : List Nat) (N : Nat) : Nat → List Nat
  | 0 => []
  | j + 1 => fallTo L N j ++ List.replicate (L.count (N - j)) (N - j)
theorem fallTo_mem (L : List Nat) (N : Nat) : ∀ j, j ≤ N → ∀ k, k ∈ fallTo L N j → N - j < k
  | 0, _, k, h => by simp [fallTo] at h
  | j + 1, hj, k, h => by
    rw [fallTo, List.mem_append] at h
    rcases h with h | h
    · have := fallTo_mem L N j (by omega) k h; omega
    · have := (List.mem_replicate.1 h).2; omega
theorem fallTo_fall (L : List Nat) (N : Nat) : ∀ j, j ≤ N → (fallTo L N j).Pairwise (fun a b => b ≤ a)
  | 0, _ => by simp [fallTo]
  | j + 1, hj => by
    rw [fallTo, List.pairwise_append]
    refine ⟨fallTo_fall L N j (by omega), List.pairwise_replicate.2 (.inr (Nat.le_refl _)), fun a ha b hb => ?_⟩
    have h1 := fallTo_mem L N j (by omega) a ha
    have h2 := (List.mem_replicate.1 hb).2
    omega
theorem fallTo_count (L : List Nat) (N : Nat) : ∀ j, j ≤ N → ∀ k, (fallTo L N j).count k = if N - j < k ∧ k ≤ N then L.count k else 0
  | 0, _, k => by
    rw [if_neg (by omega)]; simp [fallTo]
  | j + 1, hj, k => by
    rw [fallTo, List.count_append, fallTo_count L N j (by omega) k, List.count_replicate]
    by_cases h1 : N - j = k
    · subst h1
      rw [if_neg (by omega), if_pos (by simp), if_pos (by omega)]; simp
    · have h2 : (N - j == k) = false := by simpa using h1
      rw [h2]
      simp only [Bool.false_eq_true, if_false, Nat.add_zero]
      by_cases h3 : N - j < k ∧ k ≤ N
      · rw [if_pos h3, if_pos (by omega)]
      · rw [if_neg h3, if_neg (by omega)]
theorem fallTo_len (L : List Nat) (N : Nat) : ∀ j, (fallTo L N j).length ≤ j * L.length
  | 0 => by simp [fallTo]
  | j + 1 => by
    have h1 := fallTo_len L N j
    have h2 := List.count_le_length (a := N - j) (l := L)
    rw [fallTo, List.length_append, List.length_replicate, Nat.add_mul, Nat.one_mul]; omega
theorem fallTo_shape {zs : List Int} (hp : IsPerm zs) : fallTo (lens zs) zs.length zs.length = shape zs := by
  refine shL_of ?_ (fallTo_fall _ _ _ (Nat.le_refl _))
  rw [List.perm_iff_count]
  intro k
  rw [fallTo_count _ _ _ (Nat.le_refl _)]
  by_cases h : zs.length - zs.length < k ∧ k ≤ zs.length
  · rw [if_pos h]
  · rw [if_neg h, List.count_eq_zero.2]
    intro hk
    have := lens_pos hp hk
    omega
theorem pts_app (l m : List Nat) : pts (l ++ m) = pts l ++ pts m := by simp [pts]

set_option maxRecDepth 100000 in
set_option maxHeartbeats 4000000 in
theorem shapeOf_ok (u : Value) (zs : List Int) (w : World) (hu : Sl w u zs) (hperm : IsPerm zs) (hl : zs.length ≤ 1000) :
    Calls Tryd.prog 18 #[u] w fun e w' => ∃ r, e = .returned r ∧ w'.ownsRow w.heap.size 3 1 r (shape zs).length (pts (shape zs)) ∧ Below w.heap.size w w' := by
  obtain ⟨i3, hi3, hy0, hy1, hy2⟩ := info_parts info3
  have hcy := cyclesOf_ok u zs true w hu hperm hl
  rw [← cyc_ocs hperm] at hcy
  have hfs := fallTo_shape hperm
  have hcl := cyc_len zs
  have hll := lens_len zs
  obtain ⟨a, cap, pb, po, rfl, hr, hp, hq3, hq4⟩ := hu
  have HCY := hide hcy
  clear hcy hperm
  go_enter Tryd.func18, Tryd.ntmps18
  go_wp2_with fail
  refine HCY.out.mono ?_
  rintro e w1 ⟨v, vs, rfl, hO, hC, hB⟩
  have hBs := hB.size
  obtain ⟨⟨av, nv, cv, hve⟩, hbk⟩ := row_block hO
  have hlen : ∀ i, i < (cyc zs).length → ∃ g c, vs[i]? = some (.slice (some ⟨g, 0, none⟩) ((lens zs)[i]?.getD 0) c) := fun i hi => by
    obtain ⟨g, c, h1, _⟩ := hC.2 i hi
    refine ⟨g, c, ?_⟩
    rw [h1]
    congr 3
    unfold lens
    rw [List.getElem?_map, List.getElem?_eq_getElem hi]; rfl
  have hrd : ∀ (W : World), Below w1.heap.size w1 W → ∀ i, i < (cyc zs).length → ∃ g c, av = some ⟨g, 0, none⟩ ∧ ∃ g2 c2, c = c ∧ W.cell? ⟨g, i, none⟩ = some (.slice (some ⟨g2, 0, none⟩) ((lens zs)[i]?.getD 0) c2) := fun W hW i hi => by
    obtain ⟨k, hk⟩ : ∃ k, (cyc zs).length = k + 1 := ⟨(cyc zs).length - 1, by omega⟩
    have hO' := row_below hO hW
    rw [hk] at hO'
    obtain ⟨g, c, hgv⟩ := ownsRow_succ hO'
    obtain ⟨g2, c2, h2⟩ := hlen i hi
    rw [hgv] at hO' hve
    cases hve
    have h3 := hO'.cells (g := g) rfl i _ h2
    rw [show (⟨g, 0, none⟩ : Addr).add i = ⟨g, i, none⟩ by unfold Addr.add; split <;> simp_all] at h3
    exact ⟨g, c2, rfl, g2, c2, rfl, h3⟩
  have hnv : nv = (cyc zs).length := by
    rcases hO.2 with ⟨h, h0⟩ | ⟨g, c, cur, h, _⟩
    · rw [h] at hve; cases hve; omega
    · rw [h] at hve; cases hve; rfl
  subst hve
  have HFS := hide hfs
  have HLL := hide hll
  have HRD := hide hrd
  have HNV := hide hnv
  clear hfs hll hrd hnv hlen hC hO hbk HCY
  generalize lens zs = L at *
  generalize (cyc zs).length = q at *
  obtain rfl := HNV.out
  have hn1 : (zs.length : Int) ≤ 1000 := by omega
  go_wp2
  go_loopw [4, 5] (fun ov nvv wo => ∃ j : Nat, j ≤ zs.length ∧ nvv = .int .i64 ((zs.length - j : Nat) : Int) ∧ wo.ownsRow w1.heap.size 3 1 ov (fallTo L zs.length j).length (pts (fallTo L zs.length j)) ∧ Below w1.heap.size w1 wo)
    (fun _ nvv _ => (intOf nvv).toNat)
  case atStart => exact ⟨0, Nat.zero_le _, rfl, World.ownsRow_nil _ _ _ _, Below.refl _ _⟩
  case round =>
    obtain ⟨j, hj, rfl, hOo, hBo⟩ := hrel
    obtain ⟨ov, rfl⟩ : ∃ v, v = u4 := ⟨_, rfl⟩
    obtain ⟨wo, rfl⟩ : ∃ wo, wo = wr := ⟨_, rfl⟩
    have hfl := fallTo_len L zs.length j
    have hml : j * L.length ≤ 1000 * 1000 := Nat.mul_le_mul (by omega) (by have := HLL.out; omega)
    by_cases hlt : j < zs.length
    · obtain ⟨n, hn⟩ : ∃ n, zs.length - j = n := ⟨_, rfl⟩
      have hn0 : 0 < n := by omega
      have hn2 : n ≤ 1000 := by omega
      have hft : fallTo L zs.length (j + 1) = fallTo L zs.length j ++ List.replicate (L.count n) n := by rw [fallTo, hn]
      rw [hn]
      have HN := hide hn
      have HFT := hide hft
      clear hn hft
      generalize fallTo L zs.length j = F at *
      go_wp2
      go_loopw [4, 6] (fun iv i wi => ∃ k : Nat, k ≤ nv ∧ i = .int .i64 k ∧ wi.ownsRow w1.heap.size 3 1 iv (F ++ List.replicate ((L.take k).count n) n).length (pts (F ++ List.replicate ((L.take k).count n) n)) ∧ Below w1.heap.size w1 wi)
        (fun _ i _ => nv - (intOf i).toNat)
      case atStart => exact ⟨0, Nat.zero_le _, rfl, by simpa using hOo, hBo⟩
      case round =>
        obtain ⟨k, hk, rfl, hOi, hBi⟩ := hrel
        obtain ⟨iv, rfl⟩ : ∃ v, v = u4 := ⟨_, rfl⟩
        clear hOo hBo
        by_cases hkl : k < nv
        · obtain ⟨g, c, hav, g2, c2, _, hcx⟩ := HRD.out _ hBi k hkl
          subst hav
          have hts : L.take (k + 1) = L.take k ++ [L[k]?.getD 0] := by rw [List.take_succ_eq_append_getElem (by rw [HLL.out]; exact hkl), List.getElem?_eq_getElem (by rw [HLL.out]; exact hkl)]; rfl
          have hcc : (L.take k).count n ≤ k := Nat.le_trans List.count_le_length (List.length_take_le _ _)
          obtain ⟨y, hy⟩ : ∃ y, L[k]?.getD 0 = y := ⟨_, rfl⟩
          rw [hy] at hcx hts
          have HTS := hide hts
          clear hts hy
          obtain ⟨z, hz⟩ : ∃ z, (L.take k).count n = z := ⟨_, rfl⟩
          rw [hz] at hOi hcc
          have HZ := hide hz
          clear hz
          by_cases hyn : y = n
          · subst hyn
            have hlenF : (F ++ List.replicate z y).length = F.length + z := by simp
            have HLF := hide hlenF
            have hbk := (row_block hOi).2
            have hbs := hBi.size
            have hpa : pts (F ++ List.replicate (z + 1) y) = pts (F ++ List.replicate z y) ++ [.int .i64 (y : Int)] := by
              rw [List.replicate_succ', ← List.append_assoc, pts_app]; rfl
            have hla : (F ++ List.replicate (z + 1) y).length = (F ++ List.replicate z y).length + 1 := by simp; omega
            have HPA := hide hpa
            have HLA := hide hla
            have hbd : (F ++ List.replicate z y).length ≤ 2000000 := by rw [hlenF]; omega
            clear hlenF hpa hla
            generalize F ++ List.replicate z y = G at *
            go_wp2_with (first
              | (at_builtin; refine wpList_append_own _ rfl _ _ 22 rfl w1.heap.size 3 i3 (.int .i64 0) 1 8 under22b hi3 hy0 hy1 hy2 rfl (by decide) _ _ _ rfl (World.ownsRow.alloc hOi _) ⟨wr.heap.size, 0, none⟩ 1 1 [.int .i64 y] rfl rfl ?e1 ?e2 ?e3 ?e4 ?e5 ?_))
            case e1 => exact cell_one_new _ _ _
            case e2 => simp [Value.oneCell']
            case e3 => unfold maxLen; omega
            case e4 => omega
            case e5 => simp; omega
            intro v' w2 hown' hgrow _
            have hB2 : Below w1.heap.size w1 w2 := (hBi.alloc hbs _).grown hgrow (by simp; omega) (fun j e => (hbk j e).1)
            obtain ⟨g', cap', rfl⟩ := ownsRow_succ hown'
            clear hgrow hbk hOi
            go_wp2
            go_roundw
            case rel => exact ⟨k + 1, by omega, by go_num, by rw [HTS.out, List.count_append, List.count_singleton, HZ.out]; simp only [beq_self_eq_true, if_true]; rw [HPA.out, HLA.out]; exact hown', hB2⟩
            case measure => simp [intOf]; omega
          · have hyi : ¬ ((y : Int) = (n : Int)) := by omega
            have hyb : ((y : Int) == (n : Int)) = false := by simpa using hyi
            have hyb2 : (y == n) = false := by simpa using hyn
            go_wp2
            go_roundw
            case rel => exact ⟨k + 1, by omega, by go_num, by rw [HTS.out, List.count_append, List.count_singleton, HZ.out, hyb2]; exact hOi, hBi⟩
            case measure => simp [intOf]; omega
        · have hkk : k = nv := by omega
          subst hkk
          have htl : L.take k = L := by rw [← HLL.out, List.take_length]
          rw [htl] at hOi
          go_wp2
          go_roundw
          case rel => exact ⟨j + 1, by omega, by have := HN.out; go_num, by rw [HFT.out]; exact hOi, hBi⟩
          case measure => (simp [intOf] <;> omega)
    · have hjj : j = zs.length := by omega
      subst hjj
      rw [Nat.sub_self, HFS.out] at *
      go_wp2
      go_ret
      exact ⟨_, rfl, owns_mono hOo hBs, hB.trans (hBo.mono hBs)⟩
end Go.Proofs.YtjchmhngfnlbhaaDoor
