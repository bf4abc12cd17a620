/- What PermRanks asks, contract by contract. -/
import Derived.Test.YtjchmhngfnlbhaaDoorRkg
import Derived.Test.YtjchmhngfnlbhaaDoorNx6
import Derived.Test.YtjchmhngfnlbhaaDoorBz
import Derived.Test.YtjchmhngfnlbhaaDoorOwn
import Derived.Test.YtjchmhngfnlbhaaDoorBegun
namespace Go.Proofs.YtjchmhngfnlbhaaDoor
open Go Go.RowKit Go.Shelf

theorem own_r (u : Value) (zs : List Int) (w : World) (hu : Sl w u zs) (hb : zs.length * 8 ≤ 140737488355328) :
    Calls Tryd.prog 9 #[u] w fun e w' => (∃ r, e = .returned r ∧ Sl w' r zs) ∧ Below w.heap.size w w' := by
  refine (own_any u zs w hu hb).mono ?_
  rintro e w' ⟨r, rfl, h1, h2⟩
  exact ⟨⟨r, rfl, h1⟩, h2⟩
set_option maxRecDepth 100000 in
set_option maxHeartbeats 1000000 in
theorem string_l (b m n : Nat) (w : World) (hb : BigZ w b (n : Int) m) (hm : m ≤ 1000000) :
    Calls Tryd.prog 23 #[.pointer (some ⟨b, 0, none⟩)] w fun e w' => e = .returned (.string ⟨(Lib.decDigits n).toArray⟩) ∧ Below w.heap.size w w' := by
  go_enter Tryd.func23, Tryd.ntmps23
  go_wp2_with fail
  refine (text_ok9 b m n _ hb hm).mono ?_
  rintro e w1 ⟨rfl, hB⟩
  go_wp2
  go_ret
  exact ⟨rfl, hB⟩
/-- The numbers fall throughout. -/
def Falls (zs : List Int) : Prop := ∀ j, 0 < j → j < zs.length → zs[j]?.getD 0 < zs[j - 1]?.getD 0
theorem next_none (u : Value) (zs : List Int) (w : World) (hu : Sl w u zs) (hperm : IsPerm zs) (hl : zs.length ≤ 1000) (hf : Falls zs) :
    Calls Tryd.prog 30 #[u] w fun e w' => e = .returned (.tuple #[.slice none 0 0, .agg #[.int .i64 6, .int .i64 0]]) ∧ Below w.heap.size w w' := by
  refine (next_ok u zs w hu hperm hl).mono ?_
  rintro e w' ⟨⟨rfl, _⟩ | ⟨s, o, r, M, rfl, h1, h2⟩, hb⟩
  · exact ⟨rfl, hb⟩
  · have := hf s h2.s0 (by have := h2.so; have := h2.on; omega)
    have := h2.up
    omega
theorem next_some (u : Value) (zs : List Int) (w : World) (hu : Sl w u zs) (hperm : IsPerm zs) (hl : zs.length ≤ 1000) (hf : ¬ Falls zs) :
    Calls Tryd.prog 30 #[u] w fun e w' => (∃ s o a c M, e = .returned (.tuple #[.slice a zs.length c, .agg #[.int .i64 0, .int .i64 0]]) ∧ Sl w' (.slice a zs.length c) M ∧ Nxt zs M s o) ∧ Below w.heap.size w w' := by
  refine (next_ok u zs w hu hperm hl).mono ?_
  rintro e w' ⟨⟨rfl, h⟩ | ⟨s, o, r, M, rfl, h1, h2⟩, hb⟩
  · exact absurd h hf
  · obtain ⟨a, c, rfl⟩ := h1.shp
    rw [h2.len] at h1 ⊢
    exact ⟨⟨s, o, a, c, M, rfl, h1, h2⟩, hb⟩
theorem Sl.rd {w : World} {a : Option Addr} {n c : Nat} {zs : List Int} (h : Sl w (.slice a n c) zs) : ∃ pb po, Reads w a pb po zs ∧ pb < w.heap.size := by
  obtain ⟨a', cap, pb, po, he, hr, hp, _⟩ := h
  cases he
  exact ⟨pb, po, hr, hp⟩

end Go.Proofs.YtjchmhngfnlbhaaDoor
