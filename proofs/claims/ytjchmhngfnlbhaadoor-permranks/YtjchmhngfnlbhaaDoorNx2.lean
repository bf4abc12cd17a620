/- What slices.Clone answers at a list that is not empty: a list of the same numbers, in memory of its own. No condition. -/
import Derived.Test.YtjchmhngfnlbhaaDoorNx1
import Derived.ArgAppend
namespace Go.Proofs.YtjchmhngfnlbhaaDoor
open Go Go.RowKit

set_option maxRecDepth 100000 in
set_option maxHeartbeats 8000000 in
theorem clone_ok (u : Value) (zs : List Int) (w : World) (hu : Sl w u zs) (h0 : 0 < zs.length) (hl : zs.length ≤ 1000) :
    Calls Tryd.prog 62 #[u] w fun e w' => (∃ g cap, e = .returned (.slice (some ⟨g, 0, none⟩) zs.length cap) ∧ w'.ownsRow w.heap.size 3 1 (.slice (some ⟨g, 0, none⟩) zs.length cap) zs.length (zs.map (Value.int .i64))) ∧ Below w.heap.size w w' := by
  obtain ⟨i3, hi3, hz0, hz1, hz2⟩ := info_parts info3
  obtain ⟨a, cap, pb, po, rfl, hrd, hpb, hcap, hcm⟩ := hu
  obtain rfl := hrd.at_ h0
  have hcmp : ∀ W : World, Sem.run Tryd.prog (binOp BinOp.eql 22 (.slice (some ⟨pb, po, none⟩) zs.length cap) (.slice none 0 0)) W = .ok (.bool false) W := fun W => by rfl
  go_enter Tryd.func62, Tryd.ntmps62
  have hrow : (w.alloc (.cells #[] 3)).ownsRow w.heap.size 3 1 (.slice (some ⟨w.heap.size, 0, none⟩) 0 0) 0 [] :=
    ⟨rfl, .inr ⟨w.heap.size, 0, #[], rfl, Nat.le_refl _, World.alloc_heap_new w _, Nat.le_refl _, by unfold maxLen; omega, rfl, rfl⟩⟩
  have hal : Below w.heap.size w (w.alloc (.cells #[] 3)) := balloc w _
  go_wp2_with (first
    | (at_builtin; refine wpList_append_own _ rfl _ _ 22 rfl w.heap.size 3 i3 (.int .i64 0) 1 8 under22 hi3 hz0 hz1 hz2 rfl (by decide) _ _ _ rfl hrow ⟨pb, po, none⟩ zs.length cap (zs.map (Value.int .i64)) rfl (by simp) ?c1 ?c2 ?c3 ?c4 ?c5 ?_))
  case c1 =>
    intro j v hj
    rw [List.getElem?_map] at hj
    obtain ⟨z, hz, rfl⟩ := Option.map_eq_some_iff.1 hj
    have hjl := (List.getElem?_eq_some_iff.1 hz).1
    have := (hrd.below hal hpb).cell j hjl
    rw [hz] at this
    rw [show (⟨pb, po, none⟩ : Addr).add j = ⟨pb, po + j, none⟩ by unfold Addr.add; split <;> simp_all]
    exact this
  case c2 => intro v hv; obtain ⟨z, _, rfl⟩ := List.mem_map.1 hv; rfl
  case c3 => unfold maxLen; omega
  case c4 => omega
  case c5 => simp
  intro v' w' hown hg _
  obtain ⟨q, hq⟩ : ∃ q, zs.length = q + 1 := ⟨zs.length - 1, by omega⟩
  have hown' := hown
  rw [hq] at hown'
  obtain ⟨g, c9, rfl⟩ := ownsRow_succ hown'
  have hB : Below w.heap.size w w' := hal.grown hg (by simp) (fun j e => by simp [Value.ownBlock] at e; omega)
  rw [← hq] at hown ⊢
  go_wp2
  go_ret
  exact ⟨⟨g, c9, rfl, hown⟩, hB⟩
end Go.Proofs.YtjchmhngfnlbhaaDoor
