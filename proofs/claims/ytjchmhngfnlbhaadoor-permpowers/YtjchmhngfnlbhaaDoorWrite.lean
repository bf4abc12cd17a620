/- What perm.writeCycle does: it writes a cycle's points, in brackets, a blank between, onto the builder; conditions: points of at most 1000, a text that stays far below the limit of memory, the library's table of powers of ten as the program lays it. -/
import Derived.Test.YtjchmhngfnlbhaaDoorCyc
import Derived.Test.YtjchmhngfnlbhaaDoorShelf
import Derived.Lib.ItoaMem
import Derived.Lib.OthersKept
import Derived.WalkSmall
namespace Go.Proofs.YtjchmhngfnlbhaaDoor
open Go Go.RowKit Go.Sort

theorem gb_grow (w : World) (k : Nat) (os : Array Obj) : w.grownBy (grow (w.drewN k) os) none :=
  ⟨rfl, rfl, rfl, by simp [grow, World.drewN], fun b hb _ => by
    show (w.heap ++ os)[b]? = w.heap[b]?
    rw [Array.getElem?_append_left hb]⟩
theorem isB_grown {T e : TypeId} {B b : Nat} {bs : List Value} {w w' : World} (h : Lib.IsBuilderF T e B b bs w) (hg : w.grownBy w' none) : Lib.IsBuilderF T e B b bs w' := by
  rcases h with ⟨hB, v, hh, ho, hn⟩ | ⟨hB, v, hh, ho, hn⟩
  · exact .inl ⟨hB, v, (hg.block b (Array.getElem?_eq_some_iff.1 hh).1 (by simp)).trans hh, ho.kept hg (by cases hv : v.ownBlock <;> simp), hn⟩
  · exact .inr ⟨hB, v, (hg.block b (Array.getElem?_eq_some_iff.1 hh).1 (by simp)).trans hh, ho.kept hg (by cases hv : v.ownBlock <;> simp), hn⟩
theorem ok_grown {e : TypeId} {b : Option Nat} {a w w' : World} (h : Lib.OthersKept e b a w) (hg : w.grownBy w' none) : Lib.OthersKept e b a w' := h.grown hg (fun _ h => by cases h)

/-- The table of powers of ten lies as the program lays it, in a block below B. -/
def Tab (B : Nat) (w : World) : Prop := Lib.TabIs Tryd.prog w "internal/strconv.uint64pow10" .u64 Lib.pow10Tab ∧ ∃ g, Tryd.prog.globalNamed "internal/strconv.uint64pow10" = some g ∧ g < B
theorem Tab.below {B : Nat} {w w' : World} (h : Tab B w) (hb : Below B w w') : Tab B w' := by
  obtain ⟨h1, g, hg, hB⟩ := h
  exact ⟨var?_below hb hg hB h1, g, hg, hB⟩

theorem dec_len : ∀ (u : Nat), (Lib.decDigits u).length ≤ u + 1 := by
  intro u
  induction u using Nat.strongRecOn with
  | _ u ih =>
    rw [Lib.decDigits]
    split
    · simp
    · rename_i h
      have := ih (u / 10) (by omega)
      simp; omega

/-- The bytes of the first k points of a cycle, a blank between. -/
def part (c : List Nat) : Nat → List UInt8
  | 0 => []
  | k + 1 => part c k ++ (if 0 < k then [32] else []) ++ Lib.itoa (((c[k]?.getD 0 : Nat)) : Int)
/-- The text of a cycle. -/
def ctext (c : List Nat) : List UInt8 := [40] ++ part c c.length ++ [41]
theorem part_len {c : List Nat} (h : ∀ j, j < c.length → c[j]?.getD 0 ≤ 1000) : ∀ k, k ≤ c.length → (part c k).length ≤ k * 1002
  | 0, _ => by simp [part]
  | k + 1, hk => by
    have h1 := part_len h k (by omega)
    have h2 := h k (by omega)
    have h3 := dec_len (c[k]?.getD 0)
    rw [part, Lib.itoa_nonneg]
    simp only [List.length_append]
    split <;> simp <;> omega
theorem cells_app (a b : List UInt8) : Lib.byteCells a ++ Lib.byteCells b = Lib.byteCells (a ++ b) := by simp [Lib.byteCells]
theorem strCells_list (l : List UInt8) : Lib.strCells ⟨l.toArray⟩ = Lib.byteCells l := by simp [Lib.strCells, Lib.byteCells]
theorem cells_len (l : List UInt8) : (Lib.byteCells l).length = l.length := Lib.byteCells_length l

theorem own_cell {w : World} {base g cap : Nat} {c : List Nat} (h : w.ownsRow base 3 1 (.slice (some ⟨g, 0, none⟩) c.length cap) c.length (pts c)) {j : Nat} (hj : j < c.length) :
    w.cell? ⟨g, j, none⟩ = some (.int .i64 ((c[j]?.getD 0 : Nat) : Int)) := by
  have h1 := h.cells (g := g) rfl j (.int .i64 ((c[j]?.getD 0 : Nat) : Int)) (by simp [pts, hj])
  rw [show (⟨g, 0, none⟩ : Addr).add j = ⟨g, j, none⟩ by unfold Addr.add; split <;> simp_all] at h1
  exact h1
theorem own_kept {w w' : World} {base : Nat} {v : Value} {n : Nat} {xs : List Value} {b : Nat} (h : w.ownsRow base 3 1 v n xs) (ho : Lib.OthersKept 5 (some b) w w') (hb : v.ownBlock ≠ some b) : w'.ownsRow base 3 1 v n xs := by
  refine ⟨h.1, ?_⟩
  rcases h.2 with h0 | ⟨g, cap, cur, hv, hg, hh, r⟩
  · exact .inl h0
  · refine .inr ⟨g, cap, cur, hv, hg, ho g _ hh (fun e => hb (by rw [hv]; simpa [Value.ownBlock] using e)) (fun c fz e => by cases e), r⟩

/-- A slice that holds the points of a cycle, in a row of ints of its own, or no point. -/
structure Holds3 (w : World) (a : Option Addr) (g : Nat) (c : List Nat) : Prop where
  at_ : 0 < c.length → a = some ⟨g, 0, none⟩
  kind : 0 < c.length → ∃ cur, w.heap[g]? = some (.cells cur 3 (0, 0))
  cell : ∀ j, j < c.length → w.cell? ⟨g, j, none⟩ = some (.int .i64 ((c[j]?.getD 0 : Nat) : Int))
theorem Holds3.of_own {w : World} {base g cap : Nat} {c : List Nat} (h : w.ownsRow base 3 1 (.slice (some ⟨g, 0, none⟩) c.length cap) c.length (pts c)) : Holds3 w (some ⟨g, 0, none⟩) g c :=
  ⟨fun _ => rfl, fun _ => by
    rcases h.2 with ⟨hv, _⟩ | ⟨g', cap', cur, hv, _, hh, _⟩
    · cases hv
    · cases hv; exact ⟨cur, hh⟩, fun j hj => own_cell h hj⟩
theorem Holds3.kept {w w' : World} {a : Option Addr} {g b : Nat} {c : List Nat} (h : Holds3 w a g c) (ho : Lib.OthersKept 5 (some b) w w') (hb : 0 < c.length → g ≠ b) : Holds3 w' a g c := by
  refine ⟨h.at_, fun h0 => ?_, fun j hj => ?_⟩
  · obtain ⟨cur, hc⟩ := h.kind h0
    exact ⟨cur, ho g _ hc (by simpa using hb h0) (fun c fz e => by cases e)⟩
  · obtain ⟨cur, hc⟩ := h.kind (by omega)
    have := ho g _ hc (by simpa using hb (by omega)) (fun c fz e => by cases e)
    exact (World.cell?_of_block (a := ⟨g, j, none⟩) (this.trans hc.symm)).trans (h.cell j hj)

set_option maxRecDepth 100000 in
set_option maxHeartbeats 4000000 in
theorem writeCycle_any (B b g cap : Nat) (a : Option Addr) (c : List Nat) (bs : List UInt8) (w : World) (h : Lib.IsBuilderF 70 5 B b (Lib.byteCells bs) w) (hBw : B ≤ w.heap.size) (hlen : bs.length ≤ 1000000000000)
    (hc : Holds3 w a g c) (hcl : c.length ≤ 1000) (hcp : ∀ j, j < c.length → c[j]?.getD 0 ≤ 1000) (htab : Tab B w) :
    Calls Tryd.prog 46 #[.pointer (some ⟨b, 0, none⟩), .slice a c.length cap] w fun e w' => e = .returned (.tuple #[]) ∧ Lib.IsBuilderF 70 5 B b (Lib.byteCells (bs ++ ctext c)) w' ∧ Below B w w' ∧ Lib.OthersKept 5 (some b) w w' := by
  have hgb : 0 < c.length → g ≠ b := fun h0 e => by
    obtain ⟨cur, hk⟩ := hc.kind h0
    rcases h with ⟨_, v, hh, _⟩ | ⟨_, v, hh, _⟩ <;> (rw [e, hh] at hk; cases hk)
  have hpl := part_len hcp
  go_enter Tryd.func46, Tryd.ntmps46
  go_wp2_with fail
  refine (Tryd.Builder_WriteByte_k B b _ 40 _ h (by rw [cells_len]; omega) hBw).mono ?_
  rintro e w1 ⟨rfl, hb1, hl1, ho1⟩
  have hb1' : Lib.IsBuilderF 70 5 B b (Lib.byteCells (bs ++ [40] ++ part c 0)) w1 := by
    rw [part, List.append_nil, ← cells_app]; exact .inr hb1
  have HC := hide hc
  have HPL := hide hpl
  have HCP := hide hcp
  have HT := hide htab
  clear hc hpl hcp htab hb1
  go_wp2_with fail
  go_loopw [10] (fun i wr => ∃ k : Nat, k ≤ c.length ∧ i = .int .i64 k ∧ Lib.IsBuilderF 70 5 B b (Lib.byteCells (bs ++ [40] ++ part c k)) wr ∧ Below B w wr ∧ Lib.OthersKept 5 (some b) w wr)
    (fun i _ => c.length - (intOf i).toNat)
  case atStart => exact ⟨0, Nat.zero_le _, rfl, hb1', hl1, ho1⟩
  case round =>
    obtain ⟨k, hk, rfl, hbk, hlk, hok⟩ := hrel
    clear hb1' hl1 ho1
    have hpk := HPL.out k hk
    have hBk : B ≤ wr.heap.size := Nat.le_trans hBw hlk.size
    by_cases hlt : k < c.length
    · have hx := (HC.out.kept hok hgb).cell k hlt
      have hx1000 := HCP.out k hlt
      obtain rfl := HC.out.at_ (by omega)
      generalize hxe : c[k]?.getD 0 = x at hx hx1000
      have HX := hide hxe
      clear hxe
      by_cases hk0 : 0 < k
      · have hki : (0 : Int) < (k : Int) := by omega
        go_wp2_with fail
        refine (Tryd.Builder_WriteByte_k B b _ 32 _ hbk (by rw [cells_len]; simp; omega) hBk).mono ?_
        rintro e w2 ⟨rfl, hb2, hl2, ho2⟩
        have hb2' : Lib.IsBuilderF 70 5 B b (Lib.byteCells (bs ++ [40] ++ part c k ++ [32])) w2 := by rw [← cells_app]; exact .inr hb2
        clear hb2
        go_wp2_with fail
        refine (Tryd.strconv_Itoa (x : Int) (by omega) (by omega) _ (HT.out.below (hlk.trans hl2)).1).mono ?_
        rintro e w3 ⟨rfl, kk, os, rfl⟩
        have hg3 := gb_grow w2 kk os
        have hb3 := isB_grown hb2' hg3
        have hl3 : Below B w (grow (World.drewN w2 kk) os) := (hlk.trans hl2).grown hg3 (Nat.le_trans hBw (hlk.trans hl2).size) (fun _ h => by cases h)
        have ho3 := ok_grown (hok.trans ho2) hg3
        generalize grow (World.drewN w2 kk) os = w3 at hb3 hl3 ho3
        clear hg3
        go_wp2_with fail
        refine (Tryd.Builder_WriteString_k B b _ _ _ hb3 (by
          have hdl := dec_len x
          rw [cells_len, Lib.itoa_nonneg]; simp [ByteArray.size]; omega) (Nat.le_trans hBw hl3.size)).mono ?_
        rintro e w4 ⟨rfl, hb4, hl4, ho4⟩
        go_wp2
        go_roundw
        case rel =>
          refine ⟨k + 1, by omega, by go_num, ?_, hl3.trans hl4, ho3.trans ho4⟩
          rw [strCells_list, cells_app] at hb4
          have e : bs ++ [40] ++ part c (k + 1) = (bs ++ [40] ++ part c k ++ [32]) ++ Lib.itoa (x : Int) := by
            rw [part, HX.out]; simp [hk0]
          rw [e]; exact .inr hb4
        case measure => simp [intOf]; omega
      · have hki : (k : Int) ≤ 0 := by omega
        go_wp2_with fail
        refine (Tryd.strconv_Itoa (x : Int) (by omega) (by omega) _ (HT.out.below (hlk)).1).mono ?_
        rintro e w3 ⟨rfl, kk, os, rfl⟩
        have hg3 := gb_grow wr kk os
        have hb3 := isB_grown hbk hg3
        have hl3 : Below B w (grow (World.drewN wr kk) os) := (hlk).grown hg3 (Nat.le_trans hBw (hlk).size) (fun _ h => by cases h)
        have ho3 := ok_grown (hok) hg3
        generalize grow (World.drewN wr kk) os = w3 at hb3 hl3 ho3
        clear hg3
        go_wp2_with fail
        refine (Tryd.Builder_WriteString_k B b _ _ _ hb3 (by
          have hdl := dec_len x
          rw [cells_len, Lib.itoa_nonneg]; simp [ByteArray.size]; omega) (Nat.le_trans hBw hl3.size)).mono ?_
        rintro e w4 ⟨rfl, hb4, hl4, ho4⟩
        go_wp2
        go_roundw
        case rel =>
          refine ⟨k + 1, by omega, by go_num, ?_, hl3.trans hl4, ho3.trans ho4⟩
          rw [strCells_list, cells_app] at hb4
          have e : bs ++ [40] ++ part c (k + 1) = (bs ++ [40] ++ part c k) ++ Lib.itoa (x : Int) := by
            rw [part, HX.out]; simp [hk0]
          rw [e]; exact .inr hb4
        case measure => simp [intOf]; omega
    · go_wp2_with fail
      refine (Tryd.Builder_WriteByte_k B b _ 41 _ hbk (by rw [cells_len]; simp; omega) hBk).mono ?_
      rintro e w2 ⟨rfl, hb2, hl2, ho2⟩
      go_wp2
      go_end0
      refine ⟨rfl, ?_, hlk.trans hl2, hok.trans ho2⟩
      have e : bs ++ ctext c = bs ++ [40] ++ part c k ++ [41] := by
        rw [ctext, show k = c.length by omega]; simp
      rw [e, ← cells_app]; exact .inr hb2
end Go.Proofs.YtjchmhngfnlbhaaDoor
