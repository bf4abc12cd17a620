/- What period, Grow, Concat and turn answer. -/
import Derived.Test.YtakmfhnigpmngaaFi
import Derived.Lib.AppendZerosOnto
namespace Go.Proofs.Ytakmfhnigpmngaa
open Go Go.RowKit

theorem perOf_least {c : List Int} {n : Nat} (hc : 0 < c.length) (h0 : 0 < n) (hp : Per c n) (h : ∀ d, 0 < d → d < n → d ∣ c.length → ¬ Per c d) : PerOf c n := by
  obtain ⟨m, hm⟩ := perOf_exists hc
  have hd := hm.dvd (per_len c)
  refine ⟨h0, hp, fun d h1 h2 h3 => ?_⟩
  have h4 := Nat.le_of_dvd h1 (hm.dvd h3)
  exact h m hm.pos (by omega) hd hm.per

theorem Sl.piece {w : World} {pb po : Nat} {a : Option Addr} {zs : List Int} {i m c : Nat} {b : Option Addr} (h : Reads w a pb po zs) (hp : pb < w.heap.size) (hm : i + m ≤ zs.length) (hb : 0 < m → b = some ⟨pb, po + i, none⟩) (h1 : m ≤ c) (h2 : c ≤ maxLen) : Sl w (.slice b m c) ((zs.drop i).take m) :=
  (h.piece hm hb).sl (by simp; omega) hp h1 h2

set_option maxRecDepth 100000 in
set_option maxHeartbeats 2000000 in
theorem period_ok (v : Value) (zs : List Int) (w : World) (hv : Sl w v zs) (h0 : 0 < zs.length) (hsm : zs.length ≤ 1000000) :
    Calls Try.prog 43 #[v] w fun e w' => ∃ n : Nat, e = .returned (.int .i64 n) ∧ PerOf zs n ∧ n ≤ zs.length ∧ Below w.heap.size w w' := by
  obtain ⟨a, cap, pb, po, rfl, hr, hp, hcap, hcm⟩ := hv
  have hcm' := hcm
  unfold maxLen at hcm
  obtain rfl := hr.at_ h0
  have HR := hide hr
  clear hr
  go_enter Try.func43, Try.ntmps43
  go_wp2
  go_loopw [3] (fun i wr => ∃ n j : Nat, 0 < n ∧ n ≤ zs.length ∧ i = .int .i64 n ∧ wr = w.drewN j ∧ ∀ d, 0 < d → d < n → d ∣ zs.length → ¬ Per zs d) (fun i _ => zs.length - (intOf i).toNat)
  case atStart => exact ⟨1, 0, by omega, h0, rfl, rfl, fun d h1 h2 => by omega⟩
  case round =>
    obtain ⟨n, j, hn0, hn, rfl, rfl, hall⟩ := hrel
    have HA := hide hall
    clear hall
    by_cases hlt : n < zs.length
    · have hli : (n : Int) < (zs.length : Int) := by omega
      have hnz : ¬ (n : Int) = 0 := by omega
      have hnz2 : ¬ n = 0 := by omega
      have hrm := Int.tmod_eq_emod_of_nonneg (a := (zs.length : Int)) (b := (n : Int)) (by omega)
      rw [← Int.natCast_emod] at hrm
      have hrb : zs.length % n < n := Nat.mod_lt _ hn0
      obtain ⟨rm, hrme⟩ : ∃ rm : Nat, zs.length % n = rm := ⟨_, rfl⟩
      rw [hrme] at hrm hrb
      have HRM := hide hrme
      clear hrme
      by_cases hd : rm = 0
      · have hdv : n ∣ zs.length := Nat.dvd_of_mod_eq_zero (by rw [HRM.out]; exact hd)
        subst hd
        have hpi := per_iff hdv hn0 hlt
        have HDV := hide hdv
        have hcn : ¬ cap = n := by omega
        have hc1 : (n : Int) ≤ (zs.length : Int) := by omega
        have hc2 : (zs.length : Int) ≤ (cap : Int) := by omega
        have hc3 : (zs.length : Int) - (n : Int) = ((zs.length - n : Nat) : Int) := by omega
        have hw3 : IntKind.i64.wrap ((zs.length - n : Nat) : Int) = ((zs.length - n : Nat) : Int) := by rw [IntKind.wrap_i64]; omega
        have hc4 : ((zs.length - n : Nat) : Int) ≤ (cap : Int) := by omega
        have hs1 := fun (W : World) (h : W.heap = w.heap) => Sl.piece (i := n) (m := zs.length - n) (c := cap - n) (b := some ⟨pb, po + n, none⟩) (HR.out.of_eq (w' := W) (by rw [h])) (by rw [h]; exact hp) (by omega) (fun _ => rfl) (by omega) (by omega)
        have hs2 := fun (W : World) (h : W.heap = w.heap) => Sl.piece (i := 0) (m := zs.length - n) (c := cap) (b := some ⟨pb, po, none⟩) (HR.out.of_eq (w' := W) (by rw [h])) (by rw [h]; exact hp) (by omega) (fun _ => rfl) (by omega) hcm'
        have e1 : (zs.drop n).take (zs.length - n) = zs.drop n := by rw [List.take_of_length_le (by simp)]
        rw [e1] at hs1
        rw [List.drop_zero] at hs2
        have HE := hide (fun m => equal_q (.slice (some ⟨pb, po + n, none⟩) (zs.length - n) (cap - n)) (.slice (some ⟨pb, po, none⟩) (zs.length - n) cap) _ _ (w.drewN m) (hs1 _ rfl) (hs2 _ rfl))
        clear hs1 hs2 e1 hdv
        by_cases hP : Per zs n
        · have hb := hpi.1 hP
          rw [decide_eq_true hb] at HE
          have HF := hide (perOf_least h0 hn0 hP (fun d h1 h2 h3 => HA.out d h1 h2 h3))
          clear hb hpi hP
          go_wp2
          go_quiet ((go_at_call 39; rename_i x0; refine (HE.out _).mono ?_; rintro _ _ ⟨rfl, m, rfl⟩; exact ⟨rfl, x0 + m, by rw [World.drewN_drewN, Nat.add_assoc]⟩))
          go_wp2
          go_ret
          exact ⟨n, rfl, HF.out, hn, bdrewN (bdrewN (Below.refl _ w) _) _⟩
        · have hb : ¬ _ := fun h => hP (hpi.2 h)
          rw [decide_eq_false hb] at HE
          have HF := hide hP
          clear hb hpi hP
          go_wp2
          go_quiet ((go_at_call 39; rename_i x0; refine (HE.out _).mono ?_; rintro _ _ ⟨rfl, m, rfl⟩; exact ⟨rfl, x0 + m, by rw [World.drewN_drewN, Nat.add_assoc]⟩))
          go_wp2
          go_roundw
          case rel => exact ⟨n + 1, _, by omega, by omega, by go_num, rfl, fun d h1 h2 h3 => by
            by_cases e : d = n
            · rw [e]; exact HF.out
            · exact HA.out d h1 (by omega) h3⟩
          case measure => simp [intOf]; omega
      · have HD := hide hd
        have hrb0 : ((rm : Int) == 0) = false := by simpa using hd
        have hrb1 : ¬ (rm : Int) = 0 := by omega
        clear hd
        go_wp2
        go_quiet (fail)
        go_wp2
        go_roundw
        case rel => exact ⟨n + 1, _, by omega, by omega, by go_num, rfl, fun d h1 h2 h3 => by
          by_cases e : d = n
          · rw [e] at h3
            exact absurd (Nat.mod_eq_zero_of_dvd h3) (by rw [HRM.out]; exact HD.out)
          · exact HA.out d h1 (by omega) h3⟩
        case measure => simp [intOf]; omega
    · have hnn : n = zs.length := by omega
      have HF := hide (perOf_least h0 hn0 (by rw [hnn]; exact per_len zs) (fun d h1 h2 h3 => HA.out d h1 h2 h3))
      have hnl : ¬ ((n : Int) < (zs.length : Int)) := by omega
      rw [hnn] at HF
      have HN := hide hnn
      clear hnn
      go_wp2
      go_ret
      exact ⟨zs.length, rfl, HF.out, Nat.le_refl _, bdrewN (Below.refl _ w) _⟩

end Go.Proofs.Ytakmfhnigpmngaa
