/- What the iterator of beads.falls tells: where the pieces begin, and how long they are. -/
import Derived.Test.YtojnjfkonaeegaaDoorFst
import Derived.Test.YtojnjfkonaeegaaDoorIt
import Derived.TacticsInMore
import Derived.LoopNIn
import Derived.LoopIn
namespace Go.Proofs.YtojnjfkonaeegaaDoor
open Go Go.RowKit

attribute [local go_sem] Oper.semAt_some

theorem scan_pos {v : Nat → Int} {n p r : Nat} (h0 : 0 < n) (h : scan v n n 1 1 = (p, r)) : 0 < p ∧ p ≤ r ∧ r ≤ n ∧ 0 < r / p ∧ r / p * p ≤ r := by
  have := scan_spec v n n 1 1 (Duv.one _) (by omega) (by omega)
  rw [h] at this
  exact ⟨this.1.lyn.1, this.1.le, this.2.1, Nat.div_pos this.1.le this.1.lyn.1, Nat.div_mul_le_self _ _⟩
theorem fls_end (x : Nat → Int) (n f : Nat) : fls x n f n = [] := by
  cases f with
  | zero => rfl
  | succ f => unfold fls; rw [if_neg (by omega)]
theorem X_drop (zs : List Int) (b : Nat) : (fun t => X zs (b + t)) = X (zs.drop b) := by
  funext t; unfold X; rw [List.getElem?_drop]

set_option maxRecDepth 100000 in
set_option maxHeartbeats 4000000 in
theorem falls_it (bx cap : Nat) (a0 : Option Addr) (zs : List Int) (hl : zs.length ≤ 1000000) :
    ItLaw 46 #[.pointer (some ⟨bx, 0, none⟩)] (fls (X zs) zs.length zs.length 0) (fun _ q args _ => args = #[.int .i64 (q.1 : Int), .int .i64 (q.2 : Int)]) (fun W => Boxed W bx 22 (.slice a0 zs.length cap) ∧ Sl W (.slice a0 zs.length cap) zs) NoC NoK := by
  intro l J W hF hJ h0 hY
  generalize hL : fls (X zs) zs.length zs.length 0 = L at *
  refine (callsIn_wide (n := 1)).1 ?_
  refine callsIn_of_wp Tryd.func46 rfl trivial ?_ rfl
  simp only [Tryd.ntmps46, List.size_toArray, List.length_cons, List.length_nil, Nat.reduceAdd, Nat.reduceSub, Array.replicate_succ, Array.replicate_zero, List.push_toArray, List.append_toArray, List.nil_append, List.cons_append]
  have HL := hide hL
  clear hL
  gi_wp2
  gi_loopw [3] (fun i wr => ∃ (b f : Nat) (pre : List (Nat × Nat)), i = .int .i64 b ∧ b ≤ zs.length ∧ zs.length - b ≤ f ∧ J pre wr ∧ pre ++ fls (X zs) zs.length f b = L)
    (fun i _ => zs.length - (intOf i).toNat)
  case atStart => exact ⟨0, zs.length, [], rfl, by omega, by omega, h0, HL.out⟩
  case round =>
    obtain ⟨b, f, pre, rfl, hb, hf, hJp, hpre⟩ := hrel
    have HP := hide hpre
    clear hpre
    obtain ⟨hbx, hsl⟩ := hF _ _ hJp
    have hcb := hbx.cell
    by_cases hlt : b < zs.length
    · obtain ⟨f', rfl⟩ : ∃ f', f = f' + 1 := ⟨f - 1, by omega⟩
      obtain ⟨⟨p, r⟩, hS⟩ : ∃ s, scan (X (zs.drop b)) (zs.drop b).length (zs.drop b).length 1 1 = s := ⟨_, rfl⟩
      obtain ⟨s1, s2, s3, s4, s5⟩ := scan_pos (by simp; omega) hS
      obtain ⟨ac, capc, pb, po, hv, hr, hp, hc1, hm1⟩ := id hsl
      cases hv
      obtain rfl := hr.at_ (by omega)
      have hpc : Sl wr (.slice (some ⟨pb, po + b, none⟩) (zs.length - b) (cap - b)) (zs.drop b) := by
        have := (hr.piece (i := b) (m := zs.length - b) (b := some ⟨pb, po + b, none⟩) (by omega) (fun _ => rfl)).sl (cap := cap - b) (n := zs.length - b) (by simp) hp (by omega) (by omega)
        rwa [List.take_of_length_le (by simp)] at this
      have hcall := first_ok _ _ wr hpc (by simp; omega) (by simp; omega) p r hS
      have HC := hide hcall
      have HSL := hide hsl
      have hcn : ¬ cap = b := by omega
      have hb1 : (b : Int) ≤ (zs.length : Int) := by omega
      have hb2 : (zs.length : Int) ≤ (cap : Int) := by omega
      have hb3 : (zs.length : Int) - (b : Int) = ((zs.length - b : Nat) : Int) := by omega
      have hb4 : (b : Int) < (zs.length : Int) := by omega
      have HL' := hide hlt
      clear hcall hpc hsl hr
      gi_wp2_with fail
      refine ⟨trivial, ?_⟩
      refine (callsIn_wide.2 HC.out).mono ?_
      rintro e w2 ⟨rfl, m, rfl⟩
      have hJ2 : J pre (wr.drewN m) := hJ _ _ _ hJp (Chg.of_below (bdrewN (Below.refl _ wr) m))
      obtain ⟨k, hk⟩ : ∃ k, r / p = k := ⟨_, rfl⟩
      rw [hk] at s4 s5
      have hfl : fls (X zs) zs.length (f' + 1) b = (List.range k).map (fun i => (b + i * p, p)) ++ fls (X zs) zs.length f' (b + k * p) := by
        conv => lhs; unfold fls
        rw [if_pos HL'.out, X_drop, show zs.length - b = (zs.drop b).length by simp, hS, ← hk]
      have HFL := hide hfl
      have HK := hide hk
      have hkb : b + k * p ≤ zs.length := by have := HL'.out; simp at s3; omega
      have hkz : k ≤ zs.length := by have := Nat.le_mul_of_pos_right k s1; omega
      have hk1 : 1 * p ≤ k * p := Nat.mul_le_mul_right _ (by omega)
      have HSC := hide hS
      clear hfl hk hS hcb HC HSL hbx hJp
      rw [HK.out]
      gi_wp2
      gi_loopw [3, 18] (fun i c wr => ∃ j d : Nat, c = .int .i64 j ∧ j ≤ k ∧ i = .int .i64 (d : Int) ∧ b + j * p = d ∧ J (pre ++ (List.range j).map (fun i => (b + i * p, p))) wr) (fun _ c _ => k - (intOf c).toNat)
      case atStart => exact ⟨0, b, rfl, by omega, rfl, by simp, by simpa using hJ2⟩
      case round =>
        obtain ⟨j, d, rfl, hj, rfl, hd, hJj⟩ := hrel
        by_cases hjk : j < k
        · have hjp : (j + 1) * p ≤ k * p := Nat.mul_le_mul_right _ (by omega)
          rw [Nat.add_mul, Nat.one_mul] at hjp
          have hpq : (pre ++ (List.range j).map (fun i => (b + i * p, p))) ++ (d, p) :: ((List.range (k - (j + 1))).map (fun i => (b + (j + 1 + i) * p, p)) ++ fls (X zs) zs.length f' (b + k * p)) = L := by
            rw [← HP.out, HFL.out, List.append_assoc]
            congr 1
            have : List.range k = List.range j ++ j :: (List.range (k - (j + 1))).map (fun i => j + 1 + i) := by
              have e : k = j + (1 + (k - (j + 1))) := by omega
              conv => lhs; rw [e, List.range_add, List.range_add]
              simp [Nat.add_assoc]
            rw [this, ← hd]
            simp [List.map_append, List.map_map, Function.comp_def]
          obtain ⟨fn, tmps, assign, body, hyy, hRR⟩ := hY _ _ _ _ _ hpq hJj rfl
          have hpost : (pre ++ (List.range j).map (fun i => (b + i * p, p))) ++ [(d, p)] = pre ++ (List.range (j + 1)).map (fun i => (b + i * p, p)) := by
            rw [List.append_assoc, List.range_succ, List.map_append, ← hd]; rfl
          rw [hpost] at hRR
          have hce : b + (j + 1) * p = d + p := by rw [Nat.add_mul, Nat.one_mul]; omega
          have hcl : d + p ≤ zs.length := by omega
          have hcw : IntKind.i64.wrap ((d : Int) + (p : Int)) = ((d + p : Nat) : Int) := by rw [IntKind.wrap_i64]; omega
          have HPQ := hide hpq
          have HPO := hide hpost
          have HCC := hide hd
          have HCE := hide hce
          clear hpq hpost hce hd
          gi_wp2
          refine hRR.mono ?_
          rintro e W3 ⟨rfl, hJ3, _⟩
          gi_wp2
          go_roundw
          case rel => exact ⟨j + 1, d + p, by go_num, by omega, by go_num, HCE.out, hJ3⟩
          case measure => simp [intOf]; omega
        · have hje : j = k := by omega
          subst hje
          have hnew : zs.length - d ≤ f' := by omega
          have hdl : d ≤ zs.length := by omega
          have hbd : b < d := by omega
          have hpr : (pre ++ (List.range j).map (fun i => (b + i * p, p))) ++ fls (X zs) zs.length f' d = L := by
            rw [← hd, List.append_assoc, ← HFL.out]; exact HP.out
          have HPR := hide hpr
          clear hd hpr
          gi_wp2
          go_roundw
          case rel => exact ⟨d, f', _, rfl, hdl, hnew, hJj, HPR.out⟩
          case measure => simp [intOf]; omega
    · have hbe : b = zs.length := by omega
      have hpe : pre = L := by
        have := HP.out
        rw [hbe, fls_end, List.append_nil] at this
        exact this
      subst hbe
      gi_wp2
      go_end0
      exact ⟨⟨_, rfl⟩, hpe ▸ hJp⟩

end Go.Proofs.YtojnjfkonaeegaaDoor
