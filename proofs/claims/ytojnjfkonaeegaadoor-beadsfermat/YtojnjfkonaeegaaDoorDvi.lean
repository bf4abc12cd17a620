/- What the iterator of beads' divisors tells. -/
import Derived.Test.YtojnjfkonaeegaaDoorPwr
import Derived.TacticsInMore
import Derived.LoopNIn
import Derived.LoopIn
namespace Go.Proofs.YtojnjfkonaeegaaDoor
open Go Go.RowKit

attribute [local go_sem] Oper.semAt_some

/-- What divides n, from d on, rising. -/
def dvf (n : Nat) : Nat → Nat → List Nat
  | 0, _ => []
  | k + 1, d => if n % d = 0 then d :: dvf n k (d + 1) else dvf n k (d + 1)
theorem dvf_hit {n k d : Nat} (h : n % d = 0) : dvf n (k + 1) d = d :: dvf n k (d + 1) := if_pos h
theorem dvf_miss {n k d : Nat} (h : ¬n % d = 0) : dvf n (k + 1) d = dvf n k (d + 1) := if_neg h
def dvs (n : Nat) : List Nat := dvf n n 1

set_option maxRecDepth 100000 in
set_option maxHeartbeats 4000000 in
theorem div_it (bx n : Nat) (hn : n ≤ 1000000) :
    ItLaw 91 #[.pointer (some ⟨bx, 0, none⟩)] (dvs n) (fun _ d args _ => args = #[.int .i64 (d : Nat)]) (fun W => Boxed W bx 3 (.int .i64 n)) NoC NoK := by
  intro l J W hF hJ h0 hY
  refine (callsIn_wide (n := 1)).1 ?_
  refine callsIn_of_wp Tryd.func91 rfl trivial ?_ rfl
  simp only [Tryd.ntmps91, List.size_toArray, List.length_cons, List.length_nil, Nat.reduceAdd, Nat.reduceSub, Array.replicate_succ, Array.replicate_zero, List.push_toArray, List.append_toArray, List.nil_append, List.cons_append]
  gi_wp2
  gi_loopw [3] (fun i wr => ∃ (d k : Nat) (pre : List Nat), i = .int .i64 d ∧ 1 ≤ d ∧ d + k = n + 1 ∧ J pre wr ∧ pre ++ dvf n k d = dvs n)
    (fun i _ => n + 1 - (intOf i).toNat)
  case atStart => exact ⟨1, n, [], rfl, by omega, by omega, h0, rfl⟩
  case round =>
    obtain ⟨d, k, pre, rfl, hd, hdk, hJp, hpre⟩ := hrel
    have HP := hide hpre
    clear hpre
    have hbx := hF _ _ hJp
    have hcb := hbx.cell
    have hnz : ¬ (d : Int) = 0 := by omega
    have hnz2 : ¬ d = 0 := by omega
    have hrm := Int.tmod_eq_emod_of_nonneg (a := (n : Int)) (b := (d : Int)) (by omega)
    rw [← Int.natCast_emod] at hrm
    obtain ⟨r, hre⟩ : ∃ r, n % d = r := ⟨_, rfl⟩
    rw [hre] at hrm
    have hrl : r < d := by rw [← hre]; exact Nat.mod_lt _ (by omega)
    have HR := hide hre
    clear hre
    by_cases hlt : d ≤ n
    · have hli : (d : Int) ≤ (n : Int) := by omega
      obtain ⟨k', rfl⟩ : ∃ k', k = k' + 1 := ⟨k - 1, by omega⟩
      by_cases hr0 : r = 0
      · subst hr0
        have hpq : pre ++ d :: dvf n k' (d + 1) = dvs n := by
          rw [← HP.out, dvf_hit HR.out]
        obtain ⟨fn, tmps, assign, body, hyy, hRR⟩ := hY _ _ _ _ _ hpq hJp rfl
        have HPQ := hide hpq
        clear hpq
        gi_wp2
        refine hRR.mono ?_
        rintro e W3 ⟨rfl, hJ3, _⟩
        gi_wp2
        go_roundw
        case rel => exact ⟨d + 1, k', pre ++ [d], by go_num, by omega, by omega, hJ3, by rw [List.append_assoc]; exact HPQ.out⟩
        case measure => simp [intOf]; omega
      · have hrb : ((r : Int) == 0) = false := by simp; omega
        have hpq : pre ++ dvf n k' (d + 1) = dvs n := by
          rw [← HP.out, dvf_miss (by rw [HR.out]; exact hr0)]
        have HPQ := hide hpq
        clear hpq
        gi_wp2
        refine ⟨fun f h => (by cases h), ?_⟩
        gi_wp2
        go_roundw
        case rel => exact ⟨d + 1, k', pre, by go_num, by omega, by omega, hJp, HPQ.out⟩
        case measure => simp [intOf]; omega
    · have hk0 : k = 0 := by omega
      have hli : ¬ (d : Int) ≤ (n : Int) := by omega
      subst hk0
      have hpe : pre = dvs n := by
        have := HP.out
        rw [dvf, List.append_nil] at this
        exact this
      have HPE := hide hpe
      clear hpe
      gi_wp2
      go_end0
      exact ⟨⟨_, rfl⟩, HPE.out ▸ hJp⟩

theorem divisors_ok (n : Nat) (w : World) :
    Calls Tryd.prog 74 #[.int .i64 n] w fun e w' => e = .returned (.func (.func 91) #[] #[.pointer (some ⟨w.heap.size, 0, none⟩)]) ∧ w' = w.alloc (.cells #[.int .i64 n] 3) := by
  go_enter Tryd.func74, Tryd.ntmps74
  go_wp2
  go_ret
  exact ⟨rfl, rfl⟩

end Go.Proofs.YtojnjfkonaeegaaDoor
