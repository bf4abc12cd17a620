/- What the iterator of beads.lyndonWords tells: word behind word, in one memory. -/
import Derived.Test.YtojnjfkonaeegaaDoorNxw
import Derived.Test.YtojnjfkonaeegaaDoorIt
import Derived.TacticsInMore
import Derived.LoopIn
import Derived.Sort.LoopGhostIn
namespace Go.Proofs.YtojnjfkonaeegaaDoor
open Go Go.RowKit

attribute [local go_sem] Oper.semAt_some

theorem own_at {W W' : World} {B g n cap : Nat} {e : TypeId} {xs : List Value} (h : W.ownsRow B e 1 (.slice (some ⟨g, 0, none⟩) n cap) n xs) (hk : W'.heap[g]? = W.heap[g]?) : W'.ownsRow B e 1 (.slice (some ⟨g, 0, none⟩) n cap) n xs := by
  refine ⟨h.1, ?_⟩
  rcases h.2 with ⟨hv, _⟩ | ⟨g', cap', cur, hv, hg, hh, rest⟩
  · cases hv
  · cases hv
    exact .inr ⟨g, cap, cur, rfl, hg, hk.trans hh, rest⟩
theorem own_lt {W : World} {B g n cap : Nat} {e : TypeId} {xs : List Value} (h : W.ownsRow B e 1 (.slice (some ⟨g, 0, none⟩) n cap) n xs) : g < W.heap.size := by
  rcases h.2 with ⟨hv, _⟩ | ⟨g', cap', cur, hv, hg, hh, rest⟩
  · cases hv
  · cases hv
    exact (Array.getElem?_eq_some_iff.1 hh).1
theorem chg_row {s : Nat} {W W' : World} (h : W.grownBy W' (some s)) : Chg (fun _ b => b = s) W W' := ⟨h.os, h.tape, h.output, h.size, fun b hb hn => h.block b hb (fun e => hn (Option.some.inj e))⟩

set_option maxRecDepth 100000 in
set_option maxHeartbeats 4000000 in
theorem words_it (bn bk n k f : Nat) (hn0 : 0 < n) (hn : n ≤ 1000) (hk0 : 0 < k) (hk : k ≤ 1000) (hend : ends n k f [0] = true) :
    ItLaw 71 #[.pointer (some ⟨bn, 0, none⟩), .pointer (some ⟨bk, 0, none⟩)] (lws n k f [0]) (fun s ws args W => args = #[.slice (some ⟨s, 0, none⟩) ws.length n] ∧ W.ownsRow 0 3 1 (.slice (some ⟨s, 0, none⟩) ws.length n) ws.length (ws.map (Value.int .i64)) ∧ 0 < ws.length)
      (fun W => Boxed W bn 3 (.int .i64 n) ∧ Boxed W bk 3 (.int .i64 k)) (fun s _ b => b = s) (fun s b => b = s) := by
  intro l J W hF hJ h0 hY
  obtain ⟨hbn, hbk⟩ := hF _ _ h0
  obtain ⟨i3, hi3, hy0, hy1, hy2⟩ := info_parts info3b
  obtain ⟨s, hs⟩ : ∃ s, W.heap.size = s := ⟨_, rfl⟩
  rw [hs] at hJ hY
  have hcn := hbn.cell
  have HS := hide hs
  have HE := hide hend
  clear hs hend
  refine (callsIn_wide (n := 1)).1 ?_
  refine callsIn_of_wp Tryd.func71 rfl trivial ?_ rfl
  simp only [Tryd.ntmps71, List.size_toArray, List.length_cons, List.length_nil, Nat.reduceAdd, Nat.reduceSub, Array.replicate_succ, Array.replicate_zero, List.push_toArray, List.append_toArray, List.nil_append, List.cons_append]
  gi_wp2_with (first
    | (gi_at_make; refine wpListIn_make_own _ rfl _ _ 22 rfl s 3 i3 (.int .i64 0) 1 under22b hi3 hy0 hy1 _ _ _ n rfl rfl ?m1 ?m2 ?m3 ?m4 ?_))
  case m1 => rfl
  case m2 => omega
  case m3 => unfold maxLen; omega
  case m4 => rw [HS.out]; exact Nat.le_refl _
  intro w1 how1 hg1
  rw [HS.out] at how1 ⊢
  have hB1 : Below W.heap.size W w1 := (Below.refl _ W).grown hg1 (Nat.le_refl _) (by simp)
  gi_wp2_with (first
    | (gi_at_builtin; refine wpListIn_append_fits _ rfl _ _ 22 rfl s 3 i3 1 under22b hi3 hy1 s 0 n [] rfl (how1.alloc _) ⟨w1.heap.size, 0, none⟩ 1 1 [.int .i64 0] rfl rfl ?c1 ?c2 ?c3 ?_))
  case c1 => exact cell_one_new _ _ _
  case c2 => simp [Value.oneCell']
  case c3 => omega
  intro w2 how2 hg2
  have hJ2 : J [] w2 := by
    refine hJ _ _ _ (hJ _ _ _ (hJ _ _ _ h0 (Chg.of_below hB1)) (Chg.of_below (balloc w1 (.cells #[.int .i64 0] 3)))) ?_
    exact chg_row hg2
  have how3 : w2.ownsRow s 3 1 (.slice (some ⟨s, 0, none⟩) ([0] : List Int).length n) ([0] : List Int).length (([0] : List Int).map (Value.int .i64)) := how2
  clear how1 hg1 hB1 how2 hg2 hcn
  gi_wp2
  gi_loopg [4] f (fun gk v wr => ∃ (pre : List (List Int)) (ws : List Int), v = .slice (some ⟨s, 0, none⟩) ws.length n ∧ 0 < ws.length ∧ ws.length ≤ n ∧ Low k ws ∧ ends n k gk ws = true ∧ pre ++ lws n k gk ws = lws n k f [0] ∧ J pre wr ∧ wr.ownsRow s 3 1 (.slice (some ⟨s, 0, none⟩) ws.length n) ws.length (ws.map (Value.int .i64)))
  case atStart => exact ⟨[], [0], rfl, by simp, by simp; omega, fun x hx => by simp at hx; omega, HE.out, rfl, hJ2, how3⟩
  case round =>
    obtain ⟨pre, ws, rfl, hw0, hwl, hlo, hen, hpre, hJp, how⟩ := hrel
    cases gk with
    | zero => cases hen
    | succ gk =>
      obtain ⟨fn, tmps, assign, body, hyy, hRR⟩ := hY pre ws _ wr _ hpre hJp ⟨rfl, owns_mono how (Nat.zero_le _), hw0⟩
      have HP := hide hpre
      have HEN := hide hen
      clear hpre hen hJ2 how3
      gi_wp2
      refine hRR.mono ?_
      rintro e W3 ⟨rfl, hJ3, hsz3, hk3⟩
      have how3 := own_at how (hk3 s rfl (own_lt how))
      obtain ⟨hbn3, hbk3⟩ := hF _ _ hJ3
      have hcn3 := hbn3.cell
      have hck3 := hbk3.cell
      have HNX := hide (next_ok s s n k ws W3 hw0 hwl hn hk hlo how3)
      have hnl := nxt_len (k := (k : Int)) hwl
      have hnlo := nxt_low (n := n) hw0 hlo
      clear how how3 hyy hRR
      gi_wp2_with fail
      refine ⟨trivial, ?_⟩
      refine (callsIn_wide.2 HNX.out).mono ?_
      rintro e w4 ⟨rfl, how4, hg4⟩
      have hJ4 := hJ _ _ _ hJ3 (chg_row hg4)
      have hl : lws n k (gk + 1) ws = ws :: (if nxt n k ws = [] then [] else lws n k gk (nxt n k ws)) := rfl
      have he : ends n k (gk + 1) ws = (decide (nxt n k ws = []) || ends n k gk (nxt n k ws)) := rfl
      have hP := HP.out
      have hEN := HEN.out
      rw [hl] at hP
      rw [he] at hEN
      clear HNX hcn3 hck3 hl he
      generalize nxt n k ws = nx at *
      cases nx with
      | nil =>
        rw [if_pos rfl] at hP
        have HPP := hide hP
        clear hP hEN
        gi_wp2
        refine bodyPost_ret (results_none rfl _ _ _) rfl ?_
        exact ⟨⟨_, rfl⟩, HPP.out ▸ hJ4⟩
      | cons x r =>
        have hb : (((x :: r).length : Int) == 0) = false := by simp; omega
        rw [if_neg (by simp)] at hP
        have hen2 : ends n k gk (x :: r) = true := by simpa using hEN
        have HPP := hide hP
        have HE2 := hide hen2
        have HLO := hide hnlo
        obtain ⟨nx, hnx⟩ : ∃ nx, x :: r = nx := ⟨_, rfl⟩
        have hn0' : 0 < nx.length := by rw [← hnx]; simp
        rw [hnx] at hb how4 HPP HE2 HLO hnl ⊢
        clear hP hEN hen2 hnlo hnx
        gi_wp2
        gi_roundg gk
        case rel => exact ⟨pre ++ [ws], nx, rfl, hn0', hnl, HLO.out, HE2.out, by rw [List.append_assoc]; exact HPP.out, hJ4, how4⟩
        case measure => omega

end Go.Proofs.YtojnjfkonaeegaaDoor
