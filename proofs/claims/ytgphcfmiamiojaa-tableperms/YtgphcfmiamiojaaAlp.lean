/- What allProducts of package table answers: all products, in their order, or more than sixty of them. No condition. -/
import Derived.Test.YtgphcfmiamiojaaTak
import Derived.Deep.LoopGhost
namespace Go.Proofs.Ytgphcfmiamiojaa
open Go Go.RowKit
open Pm

theorem call32 (a b c : Value) (W : World) : Sem.run Try.prog (callFunc 32 #[a, b, c]) W = .ok (.enter 32 #[a, b, c]) W := by kernel_rfl
/-- What holds all along: d things have been gone through. -/
structure Inv (l T F : List (List Int)) (d : Nat) : Prop where
  rise : RiseL T
  gen : ∀ p, p ∈ T → Gen l p
  sub : ∀ p, p ∈ F → p ∈ T
  cnt : d + F.length = T.length
theorem Inv.take {l T F : List (List Int)} {d i : Nat} {p : List Int} (h : Inv l T F d) (hg : Gen l p) (hi : AtL T p i) (hp : ¬ p ∈ T) : Inv l (insL T i p) (F ++ [p]) d :=
  ⟨h.rise.ins hi hp, fun q hq => by rcases insL_mem.1 hq with rfl | hq
                                    · exact hg
                                    · exact h.gen q hq,
    fun q hq => by
      rcases List.mem_append.1 hq with hq | hq
      · exact insL_mem.2 (.inr (h.sub q hq))
      · simp at hq; exact insL_mem.2 (.inl hq),
    by rw [insL_len _ hi.1, List.length_append, List.length_singleton]; have := h.cnt; omega⟩

set_option maxRecDepth 100000 in
set_option maxHeartbeats 8000000 in
theorem allP_ok (v : Value) (l : List (List Int)) (n : Nat) (w : World) (hv : SlL w v l) (hl : Prms l n) (hne : l ≠ []) (h20 : l.length ≤ 20) (hn : n ≤ 1000) :
    Calls Try.prog 18 #[v] w fun e w' => ∃ r vs T, e = .returned r ∧ Qs w' w.heap.size r vs ∧ Rws w' vs T ∧ RiseL T ∧ (∀ p, p ∈ T → Gen l p) ∧ T.length ≤ 80 ∧ (T.length ≤ 60 → AllP l n T) ∧ Below w.heap.size w w' := by
  have hvl := hv
  obtain ⟨a, cap, pb, po, rfl, h0, hc, hpl, hc1, hc2⟩ := hv
  have HV := hide hvl
  have HL := hide hl
  have HNE := hide hne
  have H0 := hide h0
  have hll : (l.length : Int) ≤ 20 := by omega
  have hc32 := fun (x : Value) (W : World) => call32 x (.pointer (some ⟨w.heap.size, 0, none⟩)) (.pointer (some ⟨w.heap.size + 1, 0, none⟩)) W
  have hN1 : Boxed ((w.alloc (.cells #[.slice none 0 0] 22)).alloc (.cells #[.slice none 0 0] 22)) w.heap.size 22 (.slice none 0 0) := (Boxed.new w 22 _).alloc _
  have hN2 : Boxed ((w.alloc (.cells #[.slice none 0 0] 22)).alloc (.cells #[.slice none 0 0] 22)) (w.heap.size + 1) 22 (.slice none 0 0) := by
    have := Boxed.new (w.alloc (.cells #[.slice none 0 0] 22)) 22 (.slice none 0 0)
    rwa [World.size_alloc] at this
  have hB0 : Below w.heap.size w ((w.alloc (.cells #[.slice none 0 0] 22)).alloc (.cells #[.slice none 0 0] 22)) := (balloc w _).alloc (by simp) _
  have hT0 : Tks ((w.alloc (.cells #[.slice none 0 0] 22)).alloc (.cells #[.slice none 0 0] 22)) w.heap.size w.heap.size (w.heap.size + 1) [] [] :=
    ⟨⟨_, [], _, [], hN1, hN2, .inl ⟨rfl, rfl⟩, .inl ⟨rfl, rfl⟩, Rws.nil _, Rws.nil _, fun g h hg => by cases hg⟩, by omega, Nat.le_refl _, by omega⟩
  have HT0 := hide (And.intro hT0 hB0)
  clear hvl hc hl hne h0 hN1 hN2 hB0 hT0 hc1 hc2
  go_enter Try.func18, Try.ntmps18
  go_wp2
  obtain ⟨hT0, hB0⟩ := HT0.out
  clear HT0
  go_loopw [14] (fun iv wr => ∃ (k : Nat) (T F : List (List Int)), k ≤ l.length ∧ iv = .int .i64 k ∧ Tks wr w.heap.size w.heap.size (w.heap.size + 1) T F ∧ Inv l T F 0 ∧ (∀ p, p ∈ T → p ∈ F) ∧ (∀ j, j < k → l[j]?.getD [] ∈ T) ∧ T.length ≤ k ∧ Below w.heap.size w wr) (fun iv _ => l.length - (intOf iv).toNat)
  case atStart => exact ⟨0, [], [], Nat.zero_le _, rfl, hT0, ⟨List.Pairwise.nil, fun p h => by simp at h, fun p h => by simp at h, rfl⟩, fun p h => by simp at h, fun j h => by omega, Nat.le_refl _, hB0⟩
  case round =>
    clear hT0 hB0
    obtain ⟨k, T, F, hk, rfl, hT, hI, hTF, hdn, hlen, hB⟩ := hrel
    by_cases hlt : k < l.length
    · have hki : (k : Int) < (l.length : Int) := by omega
      have hsl := HV.out.below hB
      obtain ⟨a2, cap2, pb2, po2, he, h02, hc3, hpl2, _, _⟩ := hsl
      cases he
      obtain ⟨x, hx, hxs⟩ := hc3 k hlt
      obtain rfl := h02 (by omega)
      have hmem : l[k]?.getD [] ∈ l := by rw [List.getElem?_eq_getElem hlt]; exact List.getElem_mem _
      obtain ⟨hpp, hpn⟩ := HL.out _ hmem
      obtain ⟨p, hp⟩ : ∃ p, l[k]?.getD [] = p := ⟨_, rfl⟩
      rw [hp] at hxs hpp hpn hmem
      have HP := hide (And.intro hp (And.intro hpp (And.intro hpn hmem)))
      have HREL := hide (And.intro hT (And.intro hI (And.intro hTF (And.intro hdn (And.intro hlen hB)))))
      have HCL := hide (clone_row x p wr hxs (by omega))
      clear hc3 h02 hxs hpp hpn hmem hp hT hI hTF hdn hlen hB
      go_wp2_with fail
      refine HCL.out.mono ?_
      rintro e w1 ⟨r, rfl, hrf, hb1⟩
      obtain ⟨hT, hI, hTF, hdn, hlen, hB⟩ := HREL.out
      obtain ⟨hp, hpp, hpn, hmem⟩ := HP.out
      have hT1 := hT.below hb1
      have hB1 : Below w.heap.size w w1 := bcat hB hb1 hB.size
      have hTL : ∀ q, q ∈ T → q.length ≤ 1000 := fun q hq => by have := (hI.gen q hq).prm HL.out; omega
      have hFl := hI.cnt
      have HTK := hide (take_ok r p w.heap.size w.heap.size (w.heap.size + 1) T F w1 hT1 hrf hI.rise (by omega) (by omega) (by omega) hTL)
      have HI := hide (And.intro hI (And.intro hTF (And.intro hdn (And.intro hlen hB1))))
      have HGN := hide (Gen.mk hmem)
      obtain ⟨ra, rc, rfl⟩ := hrf.shape
      clear hT hI hTF hdn hlen hB hp hpp hpn hmem hT1 hB1 hTL hFl hrf HREL HCL
      go_wp2_with fail
      refine HTK.out.mono ?_
      rintro e w2 ⟨rfl, ht1, ht2, hb2, _⟩
      obtain ⟨hI, hTF, hdn, hlen, hB1⟩ := HI.out
      have HREL : Hid (∃ T F : List (List Int), Tks w2 w.heap.size w.heap.size (w.heap.size + 1) T F ∧ Inv l T F 0 ∧ (∀ p, p ∈ T → p ∈ F) ∧ (∀ j, j < k + 1 → l[j]?.getD [] ∈ T) ∧ T.length ≤ k + 1 ∧ Below w.heap.size w w2) := hide (by
        have hB2 := hB1.trans hb2
        by_cases hm : p ∈ T
        · exact ⟨T, F, ht1 hm, hI, hTF, fun j hj => by
            by_cases e : j = k
            · rw [e, HP.out.1]; exact hm
            · exact hdn j (by omega), by omega, hB2⟩
        · obtain ⟨i, hi, ht⟩ := ht2 hm
          exact ⟨_, _, ht, hI.take HGN.out hi hm, fun q hq => by
            rcases insL_mem.1 hq with rfl | hq
            · simp
            · exact List.mem_append.2 (.inl (hTF q hq)), fun j hj => by
            by_cases e : j = k
            · rw [e, HP.out.1]; exact insL_mem.2 (.inl rfl)
            · exact insL_mem.2 (.inr (hdn j (by omega))), by rw [insL_len _ hi.1]; omega, hB2⟩)
      clear hI hTF hdn hlen hB1 ht1 ht2 hb2
      go_wp2
      go_roundw
      case rel =>
        obtain ⟨T, F, q1, q2, q3, q4, q5, q6⟩ := HREL.out
        exact ⟨k + 1, T, F, by omega, by go_num, q1, q2, q3, q4, q5, q6⟩
      case measure => simp [intOf]; omega
    · have hki : ¬ (k : Int) < (l.length : Int) := by omega
      obtain rfl : k = l.length := by omega
      have HREL : Hid (Below w.heap.size w wr ∧ ∃ T F : List (List Int), Tks wr w.heap.size w.heap.size (w.heap.size + 1) T F ∧ Inv l T F 0 ∧ (∀ p, p ∈ T → p ∈ F ∨ ∀ q, q ∈ l → mulL p q ∈ T) ∧ (∀ q, q ∈ l → q ∈ T) ∧ T.length ≤ 80) :=
        hide ⟨hB, T, F, hT, hI, fun p hp => .inl (hTF p hp), fun q hq => by
          obtain ⟨j, hj, e⟩ := List.mem_iff_getElem.1 hq
          have := hdn j hj
          rw [List.getElem?_eq_getElem hj] at this
          rw [← e]; exact this, by omega⟩
      clear hT hI hTF hdn hlen hB hlt
      go_wp2
      go_loopg [] 1000 (fun gk wr => Below w.heap.size w wr ∧ ∃ (T F : List (List Int)) (d : Nat), Tks wr w.heap.size w.heap.size (w.heap.size + 1) T F ∧ Inv l T F d ∧ (∀ p, p ∈ T → p ∈ F ∨ ∀ q, q ∈ l → mulL p q ∈ T) ∧ (∀ q, q ∈ l → q ∈ T) ∧ T.length ≤ 80 ∧ gk + d = 1000)
      case atStart =>
        obtain ⟨q1, T, F, q2, q3, q4, q5, q6⟩ := HREL.out
        exact ⟨q1, T, F, 0, q2, q3, q4, q5, q6, rfl⟩
      case round =>
        clear HREL
        obtain ⟨hB, T, F, d, hT, hI, hcl, hmk, hlen, hd⟩ := hrel
        obtain ⟨⟨tv, tvs, fv, fvs, h1, h2, h3, h4, h5, h6, h7⟩, h8, h9, h10⟩ := id hT
        have hc1 := h1.cell
        have hc2 := h2.cell
        obtain ⟨ta, tc, hte⟩ := h3.shape
        have hF6 := h6.1
        have hT5 := h5.1
        have hcnt := hI.cnt
        by_cases hgo : 0 < F.length ∧ T.length ≤ 60
        · rcases h4 with ⟨rfl, rfl⟩ | ⟨g, off, fcap, cur, rfl, hgb, hbk, hl1, hl2, hl3, hl4⟩
          · simp at hF6; omega
          · have hfl : (0 : Int) < (fvs.length : Int) := by omega
            have hfln : 0 < fvs.length := by omega
            have htl : (tvs.length : Int) ≤ 60 := by omega
            have hfi : fvs.length ≤ 100 := by omega
            obtain ⟨x, hx⟩ : ∃ x, fvs[0]? = some x := ⟨_, List.getElem?_eq_getElem (by omega)⟩
            obtain ⟨p, hp⟩ : ∃ p, F[0]? = some p := ⟨_, List.getElem?_eq_getElem (by omega)⟩
            have hrf := h6.2 0 x p hx hp
            have hcx : wr.cell? ⟨g, off, none⟩ = some x := by rw [hbk.cell]; have := hl4 0 x hx; rwa [Nat.add_zero] at this
            obtain ⟨xa, xc, hxe⟩ := hrf.shape
            have hf2 := h2.frozen
            -- what is left behind the first
            have hFc : F = p :: F.tail := by
              cases F with
              | nil => simp at hp
              | cons a F' => simp at hp; rw [hp]; rfl
            have hvc : fvs = x :: fvs.tail := by
              cases fvs with
              | nil => simp at hx
              | cons a F' => simp at hx; rw [hx]; rfl
            have hpT : p ∈ T := hI.sub p (by rw [hFc]; simp)
            have hpp := (hI.gen p hpT).prm HL.out
            have hQ : ∀ u, u = (Value.slice (some ⟨g, if fcap = 1 then off else off + 1, none⟩) (fvs.length - 1) (fcap - 1)) → Tks (wr.setCell ⟨w.heap.size + 1, 0, none⟩ u) w.heap.size w.heap.size (w.heap.size + 1) T F.tail := fun u hu => by
              have hb2 : Boxed (wr.setCell ⟨w.heap.size + 1, 0, none⟩ u) (w.heap.size + 1) 22 u := h2.set u
              have hb1 : Boxed (wr.setCell ⟨w.heap.size + 1, 0, none⟩ u) w.heap.size 22 tv := h1.other h8 u
              have ht3 : T3 wr (wr.setCell ⟨w.heap.size + 1, 0, none⟩ u) := T3.set h2 (by decide)
              have hbk' : Blk (wr.setCell ⟨w.heap.size + 1, 0, none⟩ u) g 24 cur := hbk.of_eq (Below.heap_setCell _ _ _ _ (fun e => Boxed.ne_blk h2 hbk (by decide) e.symm))
              refine ⟨⟨tv, tvs, u, fvs.tail, hb1, hb2, h3.keep fun k hk => Below.heap_setCell _ _ _ _ (fun e => by obtain ⟨_, c9, hc9⟩ := h3.ge hk; exact Boxed.ne_blk h2 hc9 (by decide) e.symm), ?_, h5.keep ht3, ⟨by rw [List.length_tail, List.length_tail, h6.1], fun t y m hy hm => (h6.2 (t + 1) y m (by rw [hvc]; exact hy) (by rw [hFc]; exact hm)).keep ht3⟩, fun a b ha hb => ?_⟩, h8, h9, h10⟩
              · subst hu
                refine .inr ⟨g, _, fcap - 1, cur, by rw [List.length_tail], hgb, hbk', by rw [List.length_tail]; omega, by split <;> omega, by omega, fun j y hy => ?_⟩
                have hjl := (List.getElem?_eq_some_iff.1 hy).1
                rw [List.length_tail] at hjl
                rw [if_neg (by omega), show off + 1 + j = off + (j + 1) by omega]
                exact hl4 (j + 1) y (by rw [hvc]; exact hy)
              · subst hu
                exact h7 a b ha (by simpa [Value.ownBlock] using hb)
            have hwb : Below w.heap.size w (wr.setCell ⟨w.heap.size + 1, 0, none⟩ (Value.slice (some ⟨g, if fcap = 1 then off else off + 1, none⟩) (fvs.length - 1) (fcap - 1))) := hB.setCell (by simp) _
            have hrf2 : RowF (wr.setCell ⟨w.heap.size + 1, 0, none⟩ (Value.slice (some ⟨g, if fcap = 1 then off else off + 1, none⟩) (fvs.length - 1) (fcap - 1))) x p := hrf.keep (T3.set h2 (by decide))
            have HALL := hide (And.intro (hQ _ rfl) (And.intro hwb (And.intro hrf2 (And.intro hI (And.intro hcl (And.intro hmk (And.intro hlen (And.intro hd (And.intro hFc (And.intro hpT hpp))))))))))
            have hb1' : (1 : Int) ≤ (fvs.length : Int) := by omega
            have hb2' : 1 ≤ fvs.length := by omega
            have hb3' : fvs.length ≤ fcap := hl1
            clear hQ hwb hrf2 hT hI hcl hmk hlen hd hFc hpT hpp hvc h1 h2 h3 h5 h6 h7 hbk hl4 hx hp hrf hF6 hT5 hcnt hB
            subst hte hxe
            by_cases hfc : fcap = 1
            · subst hfc
              have HALL2 := HALL.out
              clear HALL
              have hone : fvs.length - 1 = 0 := by omega
              simp only [hone, Nat.sub_self, ↓reduceIte] at HALL2
              have HALL := hide HALL2
              clear HALL2
              go_wp2
              obtain ⟨hT3, hB3, hrf3, hI, hcl, hmk, hlen, hd, hFc, hpT, hpp⟩ := HALL.out
              clear HALL
              have hI3 : Inv l T F.tail (d + 1) := ⟨hI.rise, hI.gen, fun q hq => hI.sub q (List.mem_of_mem_tail hq), by have := hI.cnt; rw [List.length_tail]; omega⟩
              have hcl3 : ∀ y, y ∈ T → y ∈ F.tail ∨ y = p ∨ ∀ q, q ∈ l → mulL y q ∈ T := fun y hy => by
                rcases hcl y hy with h | h
                · rw [hFc] at h
                  rcases List.mem_cons.1 h with h | h
                  · exact .inr (.inl h)
                  · exact .inl h
                · exact .inr (.inr h)
              have hT60 := hgo.2
              have hd60 : d ≤ 60 := by have := hI.cnt; omega
              have HD := hide (And.intro hd hd60)
              have HPP := hide hpp
              have hpl9 : p.length ≤ 1000 := by omega
              clear hI hcl hlen hFc hd hd60 hpp
              generalize (wr.setCell ⟨w.heap.size + 1, 0, none⟩ (Value.slice (some ⟨g, off, none⟩) 0 0)) = w3 at *
              go_loopw [38] (fun iv wr => ∃ (k : Nat) (T F : List (List Int)), k ≤ l.length ∧ iv = .int .i64 k ∧ Below w.heap.size w wr ∧ Tks wr w.heap.size w.heap.size (w.heap.size + 1) T F ∧ Inv l T F (d + 1) ∧ RowF wr (.slice xa p.length xc) p ∧ p ∈ T ∧ (∀ y, y ∈ T → y ∈ F ∨ y = p ∨ ∀ q, q ∈ l → mulL y q ∈ T) ∧ (∀ j, j < k → mulL p (l[j]?.getD []) ∈ T) ∧ (∀ q, q ∈ l → q ∈ T) ∧ T.length ≤ 60 + k) (fun iv _ => l.length - (intOf iv).toNat)
              case atStart => exact ⟨0, T, F.tail, Nat.zero_le _, rfl, hB3, hT3, hI3, hrf3, hpT, hcl3, fun j hj => by omega, hmk, by omega⟩
              case round =>
                clear hB3 hT3 hI3 hrf3 hpT hcl3 hmk
                obtain ⟨k, T, F, hk, rfl, hB, hT, hI, hrf, hpT, hcl, hdn, hmk, hlen⟩ := hrel
                by_cases hlt : k < l.length
                · have hki : (k : Int) < (l.length : Int) := by omega
                  have hsl := HV.out.below hB
                  obtain ⟨a2, cap2, pb2, po2, he, h02, hc3, hpl2, _, _⟩ := hsl
                  cases he
                  obtain ⟨y, hy, hys⟩ := hc3 k hlt
                  obtain rfl := h02 (by omega)
                  have hmem : l[k]?.getD [] ∈ l := by rw [List.getElem?_eq_getElem hlt]; exact List.getElem_mem _
                  obtain ⟨hqp, hqn⟩ := HL.out _ hmem
                  obtain ⟨q, hq⟩ : ∃ q, l[k]?.getD [] = q := ⟨_, rfl⟩
                  rw [hq] at hys hqp hqn hmem
                  have h0w : 0 < wr.heap.size := by have := hB.size; omega
                  have HMV := hide (moved_ok _ _ p q wr (hrf.sl h0w) hys HPP.out.1 hqp (by rw [HPP.out.2, hqn]) hpl9)
                  have HQ := hide (And.intro hq (And.intro hqp (And.intro hqn hmem)))
                  have HREL := hide (And.intro hB (And.intro hT (And.intro hI (And.intro hrf (And.intro hpT (And.intro hcl (And.intro hdn (And.intro hmk hlen))))))))
                  clear hc3 h02 hys hqp hqn hmem hq hB hT hI hrf hpT hcl hdn hmk hlen
                  go_wp2_with fail
                  refine HMV.out.mono ?_
                  rintro e w1 ⟨gm, rfl, hbm, hgm, hb1⟩
                  obtain ⟨hB, hT, hI, hrf, hpT, hcl, hdn, hmk, hlen⟩ := HREL.out
                  have hB1 : Below w.heap.size w w1 := bcat hB hb1 hB.size
                  have hT1 := hT.below hb1
                  have hrf1 := hrf.keep (T3.below hb1)
                  have hrm : RowF w1 (.slice (some ⟨gm, 0, none⟩) p.length p.length) (mulL p q) := RowF.of_blk hbm (mulL_len p q).symm (by rw [mulL_len]; omega)
                  have hTL : ∀ z, z ∈ T → z.length ≤ 1000 := fun z hz => by have := (hI.gen z hz).prm HL.out; omega
                  have hcn := hI.cnt
                  have HTK := hide (take_ok _ (mulL p q) w.heap.size w.heap.size (w.heap.size + 1) T F w1 hT1 hrm hI.rise (by omega) (by omega) (by rw [mulL_len]; omega) hTL)
                  have HGN := hide (Gen.mul (hI.gen p hpT) HQ.out.2.2.2)
                  have HREL2 := hide (And.intro hB1 (And.intro hI (And.intro hrf1 (And.intro hpT (And.intro hcl (And.intro hdn (And.intro hmk hlen)))))))
                  clear hB hT hI hrf hpT hcl hdn hmk hlen hB1 hT1 hrf1 hrm hTL hcn hbm HREL HMV
                  go_wp2_with fail
                  refine HTK.out.mono ?_
                  rintro e w2 ⟨rfl, ht1, ht2, hb2, ht3⟩
                  obtain ⟨hB1, hI, hrf1, hpT, hcl, hdn, hmk, hlen⟩ := HREL2.out
                  have HFIN : Hid (∃ (T F : List (List Int)), Below w.heap.size w w2 ∧ Tks w2 w.heap.size w.heap.size (w.heap.size + 1) T F ∧ Inv l T F (d + 1) ∧ RowF w2 (.slice xa p.length xc) p ∧ p ∈ T ∧ (∀ y, y ∈ T → y ∈ F ∨ y = p ∨ ∀ q, q ∈ l → mulL y q ∈ T) ∧ (∀ j, j < k + 1 → mulL p (l[j]?.getD []) ∈ T) ∧ (∀ q, q ∈ l → q ∈ T) ∧ T.length ≤ 60 + (k + 1)) := hide (by
                    have hB2 := hB1.trans hb2
                    have hrf2 := hrf1.keep ht3
                    by_cases hm : mulL p q ∈ T
                    · exact ⟨T, F, hB2, ht1 hm, hI, hrf2, hpT, hcl, fun j hj => by
                        by_cases e : j = k
                        · rw [e, HQ.out.1]; exact hm
                        · exact hdn j (by omega), hmk, by omega⟩
                    · obtain ⟨i, hi, ht⟩ := ht2 hm
                      exact ⟨_, _, hB2, ht, hI.take HGN.out hi hm, hrf2, insL_mem.2 (.inr hpT), fun z hz => by
                          rcases insL_mem.1 hz with rfl | hz
                          · exact .inl (by simp)
                          · rcases hcl z hz with h | h | h
                            · exact .inl (List.mem_append.2 (.inl h))
                            · exact .inr (.inl h)
                            · exact .inr (.inr fun q hq => insL_mem.2 (.inr (h q hq))), fun j hj => by
                        by_cases e : j = k
                        · rw [e, HQ.out.1]; exact insL_mem.2 (.inl rfl)
                        · exact insL_mem.2 (.inr (hdn j (by omega))), fun q hq => insL_mem.2 (.inr (hmk q hq)), by rw [insL_len _ hi.1]; omega⟩)
                  clear hB1 hI hrf1 hpT hcl hdn hmk hlen ht1 ht2 hb2 ht3
                  go_wp2
                  go_roundw
                  case rel =>
                    obtain ⟨T, F, q⟩ := HFIN.out
                    exact ⟨k + 1, T, F, by omega, by go_num, q⟩
                  case measure => simp [intOf]; omega
                · have hki : ¬ (k : Int) < (l.length : Int) := by omega
                  have HFIN : Hid (Below w.heap.size w wr ∧ ∃ (T F : List (List Int)) (d : Nat), Tks wr w.heap.size w.heap.size (w.heap.size + 1) T F ∧ Inv l T F d ∧ (∀ p, p ∈ T → p ∈ F ∨ ∀ q, q ∈ l → mulL p q ∈ T) ∧ (∀ q, q ∈ l → q ∈ T) ∧ T.length ≤ 80 ∧ (gk - 1) + d = 1000) := hide ⟨hB, T, F, d + 1, hT, hI, fun y hy => by
                    rcases hcl y hy with h | rfl | h
                    · exact .inl h
                    · refine .inr fun q hq => ?_
                      obtain ⟨j, hj, e⟩ := List.mem_iff_getElem.1 hq
                      have := hdn j (by omega)
                      rw [List.getElem?_eq_getElem hj] at this
                      rw [← e]; exact this
                    · exact .inr h, hmk, by omega, by have := HD.out; omega⟩
                  clear hB hT hI hrf hpT hcl hdn hmk hlen
                  go_wp2
                  go_roundg (gk - 1)
                  case measure => have := HD.out; omega
                  case rel => exact HFIN.out
            · have HALL2 := HALL.out
              rw [if_neg hfc] at HALL2
              have HALL := hide HALL2
              clear HALL2
              go_wp2
              obtain ⟨hT3, hB3, hrf3, hI, hcl, hmk, hlen, hd, hFc, hpT, hpp⟩ := HALL.out
              clear HALL
              have hI3 : Inv l T F.tail (d + 1) := ⟨hI.rise, hI.gen, fun q hq => hI.sub q (List.mem_of_mem_tail hq), by have := hI.cnt; rw [List.length_tail]; omega⟩
              have hcl3 : ∀ y, y ∈ T → y ∈ F.tail ∨ y = p ∨ ∀ q, q ∈ l → mulL y q ∈ T := fun y hy => by
                rcases hcl y hy with h | h
                · rw [hFc] at h
                  rcases List.mem_cons.1 h with h | h
                  · exact .inr (.inl h)
                  · exact .inl h
                · exact .inr (.inr h)
              have hT60 := hgo.2
              have hd60 : d ≤ 60 := by have := hI.cnt; omega
              have HD := hide (And.intro hd hd60)
              have HPP := hide hpp
              have hpl9 : p.length ≤ 1000 := by omega
              clear hI hcl hlen hFc hd hd60 hpp
              generalize (wr.setCell ⟨w.heap.size + 1, 0, none⟩ (Value.slice (some ⟨g, off + 1, none⟩) (fvs.length - 1) (fcap - 1))) = w3 at *
              go_loopw [38] (fun iv wr => ∃ (k : Nat) (T F : List (List Int)), k ≤ l.length ∧ iv = .int .i64 k ∧ Below w.heap.size w wr ∧ Tks wr w.heap.size w.heap.size (w.heap.size + 1) T F ∧ Inv l T F (d + 1) ∧ RowF wr (.slice xa p.length xc) p ∧ p ∈ T ∧ (∀ y, y ∈ T → y ∈ F ∨ y = p ∨ ∀ q, q ∈ l → mulL y q ∈ T) ∧ (∀ j, j < k → mulL p (l[j]?.getD []) ∈ T) ∧ (∀ q, q ∈ l → q ∈ T) ∧ T.length ≤ 60 + k) (fun iv _ => l.length - (intOf iv).toNat)
              case atStart => exact ⟨0, T, F.tail, Nat.zero_le _, rfl, hB3, hT3, hI3, hrf3, hpT, hcl3, fun j hj => by omega, hmk, by omega⟩
              case round =>
                clear hB3 hT3 hI3 hrf3 hpT hcl3 hmk
                obtain ⟨k, T, F, hk, rfl, hB, hT, hI, hrf, hpT, hcl, hdn, hmk, hlen⟩ := hrel
                by_cases hlt : k < l.length
                · have hki : (k : Int) < (l.length : Int) := by omega
                  have hsl := HV.out.below hB
                  obtain ⟨a2, cap2, pb2, po2, he, h02, hc3, hpl2, _, _⟩ := hsl
                  cases he
                  obtain ⟨y, hy, hys⟩ := hc3 k hlt
                  obtain rfl := h02 (by omega)
                  have hmem : l[k]?.getD [] ∈ l := by rw [List.getElem?_eq_getElem hlt]; exact List.getElem_mem _
                  obtain ⟨hqp, hqn⟩ := HL.out _ hmem
                  obtain ⟨q, hq⟩ : ∃ q, l[k]?.getD [] = q := ⟨_, rfl⟩
                  rw [hq] at hys hqp hqn hmem
                  have h0w : 0 < wr.heap.size := by have := hB.size; omega
                  have HMV := hide (moved_ok _ _ p q wr (hrf.sl h0w) hys HPP.out.1 hqp (by rw [HPP.out.2, hqn]) hpl9)
                  have HQ := hide (And.intro hq (And.intro hqp (And.intro hqn hmem)))
                  have HREL := hide (And.intro hB (And.intro hT (And.intro hI (And.intro hrf (And.intro hpT (And.intro hcl (And.intro hdn (And.intro hmk hlen))))))))
                  clear hc3 h02 hys hqp hqn hmem hq hB hT hI hrf hpT hcl hdn hmk hlen
                  go_wp2_with fail
                  refine HMV.out.mono ?_
                  rintro e w1 ⟨gm, rfl, hbm, hgm, hb1⟩
                  obtain ⟨hB, hT, hI, hrf, hpT, hcl, hdn, hmk, hlen⟩ := HREL.out
                  have hB1 : Below w.heap.size w w1 := bcat hB hb1 hB.size
                  have hT1 := hT.below hb1
                  have hrf1 := hrf.keep (T3.below hb1)
                  have hrm : RowF w1 (.slice (some ⟨gm, 0, none⟩) p.length p.length) (mulL p q) := RowF.of_blk hbm (mulL_len p q).symm (by rw [mulL_len]; omega)
                  have hTL : ∀ z, z ∈ T → z.length ≤ 1000 := fun z hz => by have := (hI.gen z hz).prm HL.out; omega
                  have hcn := hI.cnt
                  have HTK := hide (take_ok _ (mulL p q) w.heap.size w.heap.size (w.heap.size + 1) T F w1 hT1 hrm hI.rise (by omega) (by omega) (by rw [mulL_len]; omega) hTL)
                  have HGN := hide (Gen.mul (hI.gen p hpT) HQ.out.2.2.2)
                  have HREL2 := hide (And.intro hB1 (And.intro hI (And.intro hrf1 (And.intro hpT (And.intro hcl (And.intro hdn (And.intro hmk hlen)))))))
                  clear hB hT hI hrf hpT hcl hdn hmk hlen hB1 hT1 hrf1 hrm hTL hcn hbm HREL HMV
                  go_wp2_with fail
                  refine HTK.out.mono ?_
                  rintro e w2 ⟨rfl, ht1, ht2, hb2, ht3⟩
                  obtain ⟨hB1, hI, hrf1, hpT, hcl, hdn, hmk, hlen⟩ := HREL2.out
                  have HFIN : Hid (∃ (T F : List (List Int)), Below w.heap.size w w2 ∧ Tks w2 w.heap.size w.heap.size (w.heap.size + 1) T F ∧ Inv l T F (d + 1) ∧ RowF w2 (.slice xa p.length xc) p ∧ p ∈ T ∧ (∀ y, y ∈ T → y ∈ F ∨ y = p ∨ ∀ q, q ∈ l → mulL y q ∈ T) ∧ (∀ j, j < k + 1 → mulL p (l[j]?.getD []) ∈ T) ∧ (∀ q, q ∈ l → q ∈ T) ∧ T.length ≤ 60 + (k + 1)) := hide (by
                    have hB2 := hB1.trans hb2
                    have hrf2 := hrf1.keep ht3
                    by_cases hm : mulL p q ∈ T
                    · exact ⟨T, F, hB2, ht1 hm, hI, hrf2, hpT, hcl, fun j hj => by
                        by_cases e : j = k
                        · rw [e, HQ.out.1]; exact hm
                        · exact hdn j (by omega), hmk, by omega⟩
                    · obtain ⟨i, hi, ht⟩ := ht2 hm
                      exact ⟨_, _, hB2, ht, hI.take HGN.out hi hm, hrf2, insL_mem.2 (.inr hpT), fun z hz => by
                          rcases insL_mem.1 hz with rfl | hz
                          · exact .inl (by simp)
                          · rcases hcl z hz with h | h | h
                            · exact .inl (List.mem_append.2 (.inl h))
                            · exact .inr (.inl h)
                            · exact .inr (.inr fun q hq => insL_mem.2 (.inr (h q hq))), fun j hj => by
                        by_cases e : j = k
                        · rw [e, HQ.out.1]; exact insL_mem.2 (.inl rfl)
                        · exact insL_mem.2 (.inr (hdn j (by omega))), fun q hq => insL_mem.2 (.inr (hmk q hq)), by rw [insL_len _ hi.1]; omega⟩)
                  clear hB1 hI hrf1 hpT hcl hdn hmk hlen ht1 ht2 hb2 ht3
                  go_wp2
                  go_roundw
                  case rel =>
                    obtain ⟨T, F, q⟩ := HFIN.out
                    exact ⟨k + 1, T, F, by omega, by go_num, q⟩
                  case measure => simp [intOf]; omega
                · have hki : ¬ (k : Int) < (l.length : Int) := by omega
                  have HFIN : Hid (Below w.heap.size w wr ∧ ∃ (T F : List (List Int)) (d : Nat), Tks wr w.heap.size w.heap.size (w.heap.size + 1) T F ∧ Inv l T F d ∧ (∀ p, p ∈ T → p ∈ F ∨ ∀ q, q ∈ l → mulL p q ∈ T) ∧ (∀ q, q ∈ l → q ∈ T) ∧ T.length ≤ 80 ∧ (gk - 1) + d = 1000) := hide ⟨hB, T, F, d + 1, hT, hI, fun y hy => by
                    rcases hcl y hy with h | rfl | h
                    · exact .inl h
                    · refine .inr fun q hq => ?_
                      obtain ⟨j, hj, e⟩ := List.mem_iff_getElem.1 hq
                      have := hdn j (by omega)
                      rw [List.getElem?_eq_getElem hj] at this
                      rw [← e]; exact this
                    · exact .inr h, hmk, by omega, by have := HD.out; omega⟩
                  clear hB hT hI hrf hpT hcl hdn hmk hlen
                  go_wp2
                  go_roundg (gk - 1)
                  case measure => have := HD.out; omega
                  case rel => exact HFIN.out
        · have HF : Hid (T.length ≤ 60 → AllP l n T) := hide fun h60 => by
            have hF0 : F = [] := List.length_eq_zero_iff.1 (by
              rcases Nat.eq_zero_or_pos F.length with h | h
              · exact h
              · exact absurd ⟨h, h60⟩ hgo)
            subst hF0
            refine ⟨hI.rise, fun p => closed_all HL.out HNE.out hI.rise.nodup hI.gen hmk fun p q hp hq => ?_⟩
            rcases hcl p hp with h | h
            · simp at h
            · exact h q hq
          obtain ⟨fa, fc, hfe⟩ := h4.shape
          have HALL := hide (And.intro h3 (And.intro h5 (And.intro hI.rise (And.intro hI.gen (And.intro hlen (And.intro HF hB))))))
          have hcond : ¬ (0 : Int) < (fvs.length : Int) ∨ (0 : Int) < (fvs.length : Int) ∧ ¬ (tvs.length : Int) ≤ 60 := by omega
          subst hte hfe
          clear h1 h2 h3 h4 h5 h6 h7 hF6 hT5 hcnt hT hI hcl hmk hlen hd hB hgo HF
          rcases hcond with hz | ⟨hz, hz2⟩
          · have hzd : decide ((0 : Int) < (fvs.length : Int)) = false := decide_eq_false hz
            go_wp2
            go_ret
            exact ⟨_, rfl, tvs, HALL.out.1, T, HALL.out.2.1, HALL.out.2.2.1, HALL.out.2.2.2.1, HALL.out.2.2.2.2.1, HALL.out.2.2.2.2.2.1.out, HALL.out.2.2.2.2.2.2⟩
          · have hzd : decide ((tvs.length : Int) ≤ 60) = false := decide_eq_false hz2
            go_wp2
            go_ret
            exact ⟨_, rfl, tvs, HALL.out.1, T, HALL.out.2.1, HALL.out.2.2.1, HALL.out.2.2.2.1, HALL.out.2.2.2.2.1, HALL.out.2.2.2.2.2.1.out, HALL.out.2.2.2.2.2.2⟩
end Go.Proofs.Ytgphcfmiamiojaa
