/- What package sub's all, central and commutator answer, and Central, Centre: at every table and every list. Condition: the library's table of places lies as its text lays it. -/
import Derived.Test.YtmgengplfebmjaaDoorApi1
namespace Go.Proofs.YtmgengplfebmjaaDoor
open Go Go.RowKit

theorem list_at (n g : Nat) (p : Nat → Bool) (w : World) (hn : n ≤ 60) (hT : Tab w) (hg : g ≤ w.heap.size) :
    Calls Tryd.prog 50 #[.int .u64 (bs p n)] w fun e w' => ∃ r, e = .returned r ∧ SlF g w' r (li (lst n p)) ∧ Below w.heap.size w w' := by
  refine (list_ok n p w hn hT).mono ?_
  rintro e w' ⟨r, h1, h2, h3⟩
  exact ⟨r, h1, h2.mono hg, h3⟩
theorem call107 (a : Int) (W : World) : Sem.run Tryd.prog (callFunc 90 (#[.int .i64 a] ++ #[])) W = .ok (.enter 90 (#[.int .i64 a] ++ #[])) W := by kernel_rfl
set_option maxRecDepth 100000 in
theorem all1_ok (a : Int) (w : World) : Calls Tryd.prog 90 (#[.int .i64 a] ++ #[]) w fun e w' => e = .returned (.bool true) ∧ Below w.heap.size w w' := by
  show Calls Tryd.prog 90 #[.int .i64 a] w _
  go_enter Tryd.func90, Tryd.ntmps90
  go_wp2
  go_ret
  exact ⟨rfl, Below.refl _ _⟩
set_option maxRecDepth 100000 in
set_option maxHeartbeats 1000000 in
theorem all_ok (n : Nat) (v u : Value) (e : Nat) (w : World) (hn : n ≤ 60) :
    Calls Tryd.prog 56 #[.agg #[.int .i64 n, v, .int .i64 e, u]] w fun x w' => x = .returned (.int .u64 (bs (fun _ => true) n)) ∧ Below w.heap.size w w' := by
  have hB0 : Below w.heap.size w (w.alloc (.cells #[.int .i64 n, v, .int .i64 e, u] 67)) := balloc w _
  obtain ⟨c0, c1, c2, c3⟩ := (Box4.new w n e v u).cells
  go_enter Tryd.func56, Tryd.ntmps56
  go_wp2_with fail
  refine (those_ok n 90 v u e #[] (fun _ => true) _ hn (fun a W => call107 a W) (fun W a _ _ => all1_ok a W)).mono ?_
  rintro x w1 ⟨rfl, hb1⟩
  go_wp2
  go_ret
  exact ⟨rfl, bcat2 hB0 hb1⟩

/-- What commutes with each thing of a set. -/
def cenq (n : Nat) (zs : List Int) (q : Nat → Bool) (a : Nat) : Bool := (lst n q).all fun x => decide (tm n zs a x = tm n zs x a)
end Go.Proofs.YtmgengplfebmjaaDoor
