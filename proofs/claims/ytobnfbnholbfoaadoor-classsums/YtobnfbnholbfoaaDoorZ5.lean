/- What the document's Lists, and listsAs of the laws, answer. Tables that functions make; orders and powers, as mathematics and as the document has them; no group. Package quot: numbers, group, Quotient; the law's question whether a group is the quotient; the chapter's example. Primes and powers: package sylow's isPrime and isPower; the law's isPrime and powerIn. What package sylow's opened answers. How many bits a number of 64 bits has, counted as math/bits.OnesCount64 does: pairs of fields are added, side by side. Pure mathematics. The last steps of the count of bits: eight bytes are added into the lowest. The count of a set's bits is how many things it has. math/bits.OnesCount64 and (set.Set).Len: how many things a set has. What package sylow's grown answers: a subgroup of a power of p things that no thing makes a greater one of that kind. Condition: the library's table of places lies as its text lays it. What package sylow's subgroups answers: a map whose keys are the conjugates of one of Sylow's subgroups. Condition: the library's table of places lies as its text lays it. What package quot's Simple and Abel answer; the subgroup of commutators, and the quotient by it. Condition: the library's table of places lies as its text lays it. -/
import Derived.Test.YtobnfbnholbfoaaDoorZ4
import Derived.Test.YtobnfbnholbfoaaDoorZ1
import Derived.Test.YtobnfbnholbfoaaDoorZ2
import Derived.Test.YtobnfbnholbfoaaDoorZ3
import Derived.Maps.OwnOps
import Derived.Deep.AppendLies
import Derived.Deep.RegionLaw
import Derived.Deep.RegionHeld3
import Derived.WalkMore
import Derived.Maps.OwnSet
import Derived.Maps.AppendAt
namespace Go.Proofs.YtobnfbnholbfoaaDoor
open Go Go.RowKit Go.Maps

set_option maxRecDepth 100000 in
set_option maxHeartbeats 2000000 in
theorem lists_any (v u : Value) (rs ts : List (List Int)) (w : World) (hv : SlL w v rs) (hu : SlL w u ts) :
    Calls Tryd.prog 41 #[v, u] w fun x w' => x = .returned (.bool (decide (rs = ts))) ∧ Below w.heap.size w w' := by
  obtain ⟨va, vc, vb, vo, rfl, v1, v2, v3, v4, v5⟩ := hv
  obtain ⟨ua, uc, ub, uo, rfl, u1, u2, u3, u4, u5⟩ := hu
  have hm1 : rs.length ≤ 9223372036854775807 := by unfold maxLen at v5; omega
  have hm2 : ts.length ≤ 9223372036854775807 := by unfold maxLen at u5; omega
  have HV := hide v2
  have HU := hide u2
  clear v2 u2 v5 u5
  by_cases hlen : rs.length = ts.length
  · have HLEN := hide hlen
    rw [hlen] at v1 v4 hm1 ⊢
    clear hlen
    go_enter Tryd.func41, Tryd.ntmps41
    go_wp2
    go_loopw [5] (fun i wr => ∃ k : Nat, k ≤ ts.length ∧ i = .int .i64 k ∧ (∀ t, t < k → rs[t]?.getD [] = ts[t]?.getD []) ∧ Below w.heap.size w wr) (fun i _ => ts.length - (intOf i).toNat)
    case atStart => exact ⟨0, Nat.zero_le _, rfl, fun t ht => by omega, Below.refl _ _⟩
    case round =>
      obtain ⟨k, hk, rfl, hno, hB⟩ := hrel
      have HNO := hide hno
      clear hno
      by_cases hlt : k < ts.length
      · obtain rfl := v1 (by omega)
        obtain rfl := u1 (by omega)
        obtain ⟨x, hx, hsx⟩ := HV.out k (by rw [HLEN.out]; exact hlt)
        obtain ⟨y, hy, hsy⟩ := HU.out k (by omega)
        obtain ⟨x1, x2, x3, rfl⟩ := hsx.isSlice
        obtain ⟨y1, y2, y3, rfl⟩ := hsy.isSlice
        have hx := below_cell hB hx
        have hy := below_cell hB hy
        have hki : (k : Int) < (ts.length : Int) := by omega
        have HI := hide (fun W (h : Below wr.heap.size wr W) => ints_any (.slice x1 x2 x3) (.slice y1 y2 y3) (rs[k]?.getD []) (ts[k]?.getD []) W ((hsx.below hB).below h) ((hsy.below hB).below h))
        have hS : ∀ W, Below wr.heap.size wr W → (Below wr.heap.size wr W ∧ W.cell? ⟨vb, vo + k, none⟩ = some (.slice x1 x2 x3) ∧ W.cell? ⟨ub, uo + k, none⟩ = some (.slice y1 y2 y3)) := fun W h => ⟨h, below_cell h hx, below_cell h hy⟩
        have hS0 := hS _ (bdrew (Below.refl _ wr))
        clear hx hy hsx hsy
        by_cases he : rs[k]?.getD [] = ts[k]?.getD []
        · rw [decide_eq_true he] at HI
          have HE := hide he
          clear he
          go_wp2_with fail
          go_region_held3 (fun W => Below wr.heap.size wr W ∧ W.cell? ⟨vb, vo + k, none⟩ = some (.slice x1 x2 x3) ∧ W.cell? ⟨ub, uo + k, none⟩ = some (.slice y1 y2 y3))
            (first | exact hS0 | assumption | exact hS _ (bcat2 (And.left ‹_›) hl1))
            (first | (go_at_call 20; refine (HI.out _ (And.left ‹_›)).mono ?_; rintro e1 U1 ⟨rfl, hl1⟩))
          all_goals (
            have hB9 := And.left ‹Below wr.heap.size wr U1 ∧ _›
            go_wp2
            go_roundw
            case rel => exact ⟨k + 1, by omega, by go_num, fun t ht => by
              by_cases e9 : t = k
              · subst e9; exact HE.out
              · exact HNO.out t (by omega), bcat2 hB hB9⟩
            case measure => simp [intOf]; omega)
        · rw [decide_eq_false he] at HI
          have HD := hide (show decide (rs = ts) = false from decide_eq_false (fun e => he (by rw [e])))
          clear he
          go_wp2_with fail
          go_region_held3 (fun W => Below wr.heap.size wr W ∧ W.cell? ⟨vb, vo + k, none⟩ = some (.slice x1 x2 x3) ∧ W.cell? ⟨ub, uo + k, none⟩ = some (.slice y1 y2 y3))
            (first | exact hS0 | assumption | exact hS _ (bcat2 (And.left ‹_›) hl1))
            (first | (go_at_call 20; refine (HI.out _ (And.left ‹_›)).mono ?_; rintro e1 U1 ⟨rfl, hl1⟩))
          all_goals (
            have hB9 := And.left ‹Below wr.heap.size wr U1 ∧ _›
            go_wp2
            go_ret
            exact ⟨by rw [HD.out]; rfl, bcat2 hB hB9⟩)
      · have HD := hide (show decide (rs = ts) = true from decide_eq_true (List.ext_getElem HLEN.out fun t h1 h2 => by
          have := HNO.out t (by have := HLEN.out; omega)
          rw [List.getElem?_eq_getElem h1, List.getElem?_eq_getElem h2] at this
          exact this))
        go_wp2
        go_ret
        exact ⟨by rw [HD.out]; rfl, hB⟩
  · have hli : ¬ ((rs.length : Nat) : Int) = ((ts.length : Nat) : Int) := by omega
    have HD := hide (show decide (rs = ts) = false from decide_eq_false (fun e => hlen (by rw [e])))
    go_enter Tryd.func41, Tryd.ntmps41
    go_wp2
    go_ret
    exact ⟨by rw [HD.out]; rfl, Below.refl _ _⟩
set_option maxRecDepth 100000 in
set_option maxHeartbeats 8000000 in
theorem lsas_good (k : Nat) (caps : Array Value) (sv : Value) (xs ys : List (List Int)) (w : World) (hs : SlL w sv xs)
    (hcall : ∀ W, Sem.run Tryd.prog (callFunc k caps) W = .ok (.enter k caps) W)
    (hk : ∀ W, Below w.heap.size w W → Calls Tryd.prog k caps W fun x w' => ∃ r, x = .returned r ∧ SlL w' r ys ∧ Below W.heap.size W w') :
    Calls Tryd.prog 13 #[sv, .agg #[.int .i64 0, .int .i64 0], .agg #[.int .i64 0, .int .i64 0], .func (.func k) #[] caps] w fun x w' => x = .returned (.bool (decide (xs = ys))) ∧ Below w.heap.size w w' := by
  have hF1 : Blk ((w.alloc (.cells #[.int .i64 0, .int .i64 0] 27)).alloc (.cells #[.int .i64 0, .int .i64 0] 27)) w.heap.size 27 [.int .i64 0, .int .i64 0] := (blk0 _ _).alloc _
  have hF2 := blk0 (w := w.alloc (.cells #[.int .i64 0, .int .i64 0] 27)) (T := 27) (.int .i64 0) (.int .i64 0)
  rw [World.size_alloc] at hF2
  have hb : Below w.heap.size w ((w.alloc (.cells #[.int .i64 0, .int .i64 0] 27)).alloc (.cells #[.int .i64 0, .int .i64 0] 27)) := (balloc w _).alloc (by simp) _
  obtain ⟨f0, f1, _, _⟩ := hF1.two
  obtain ⟨g0, g1, _, _⟩ := hF2.two
  have HK := hide hk
  clear hk
  go_enter Tryd.func13, Tryd.ntmps13
  go_wp2_with fail
  generalize (w.alloc (.cells #[.int .i64 0, .int .i64 0] 27)).alloc (.cells #[.int .i64 0, .int .i64 0] 27) = w0 at *
  refine (HK.out w0 hb).mono ?_
  rintro x w1 ⟨r, rfl, hr, hb1⟩
  go_wp2_with fail
  refine (lists_any sv r xs ys w1 (hs.below (bcat2 hb hb1)) hr).mono ?_
  rintro x w2 ⟨rfl, hb2⟩
  go_wp2
  go_ret
  exact ⟨rfl, bcat2 (bcat2 hb hb1) hb2⟩
set_option maxRecDepth 100000 in
set_option maxHeartbeats 8000000 in
theorem lsas_nil (k : Nat) (caps : Array Value) (c i : Int) (r : Value) (w : World) (_h0 : 0 < w.heap.size) (hr : SlL w r []) (hc : c ≠ 0) :
    Calls Tryd.prog 13 #[r, .agg #[.int .i64 c, .int .i64 i], .agg #[.int .i64 c, .int .i64 i], .func (.func k) #[] caps] w fun x w' => x = .returned (.bool true) ∧ Below w.heap.size w w' := by
  obtain ⟨ra, rc, _, _, rfl, _, _, _, _, _⟩ := hr
  have hcb : (c != 0) = true := by simpa using hc
  have hF1 : Blk ((w.alloc (.cells #[.int .i64 c, .int .i64 i] 27)).alloc (.cells #[.int .i64 c, .int .i64 i] 27)) w.heap.size 27 [.int .i64 c, .int .i64 i] := (blk0 _ _).alloc _
  have hF2 := blk0 (w := w.alloc (.cells #[.int .i64 c, .int .i64 i] 27)) (T := 27) (.int .i64 c) (.int .i64 i)
  rw [World.size_alloc] at hF2
  have hb : Below w.heap.size w ((w.alloc (.cells #[.int .i64 c, .int .i64 i] 27)).alloc (.cells #[.int .i64 c, .int .i64 i] 27)) := (balloc w _).alloc (by simp) _
  obtain ⟨f0, f1, _, _⟩ := hF1.two
  obtain ⟨g0, g1, _, _⟩ := hF2.two
  show Calls Tryd.prog 13 #[.slice ra 0 rc, .agg #[.int .i64 c, .int .i64 i], .agg #[.int .i64 c, .int .i64 i], .func (.func k) #[] caps] w _
  go_enter Tryd.func13, Tryd.ntmps13
  go_wp2
  go_ret
  exact ⟨rfl, hb⟩
end Go.Proofs.YtobnfbnholbfoaaDoor

namespace Go.Proofs.YtobnfbnholbfoaaDoor
open Go

/-- The table of n things whose products f tells. -/
def mkT (n : Nat) (f : Nat → Nat → Nat) : List Int := (List.range (n * n)).map fun i => (f (i / n) (i % n) : Int)
theorem mkT_len (n : Nat) (f : Nat → Nat → Nat) : (mkT n f).length = n * n := by simp [mkT]
theorem mkT_get {N : Nat} {f : Nat → Nat → Nat} {i : Nat} (hi : i < N * N) : (mkT N f)[i]?.getD 0 = (f (i / N) (i % N) : Int) := by simp [mkT, hi]
theorem tm_mk {N : Nat} {f : Nat → Nat → Nat} {a b : Nat} (ha : a < N) (hb : b < N) : tm N (mkT N f) a b = f a b := by
  unfold tm
  obtain ⟨e1, e2⟩ := dm' (a := a) hb
  rw [mkT_get (place_lt ha hb), e1, e2, Int.toNat_natCast]
theorem tab_mk {N : Nat} {f : Nat → Nat → Nat} (h1 : 1 ≤ N) (h2 : N ≤ 60) (hc : ∀ a b, a < N → b < N → f a b < N) : IsTab N (mkT N f) :=
  ⟨h1, h2, mkT_len N f, fun i hi => by
    obtain ⟨d1, d2⟩ := div_mod_lt hi
    have := hc _ _ d1 d2
    rw [mkT_get hi]; omega⟩
theorem grp_mk {N e : Nat} {f : Nat → Nat → Nat} (h1 : 1 ≤ N) (h2 : N ≤ 60) (hc : ∀ a b, a < N → b < N → f a b < N) (he : e < N) (hl : ∀ a, a < N → f e a = a) (hr : ∀ a, a < N → f a e = a)
    (hass : ∀ a b c, a < N → b < N → c < N → f (f a b) c = f a (f b c)) (hinv : ∀ a, a < N → ∃ b, b < N ∧ f a b = e) : IsGrp N (mkT N f) e := by
  have ht := tab_mk h1 h2 hc
  have hoe : oneB N (mkT N f) e = true := oneB_iff.2 (fun a ha => by rw [tm_mk he ha, tm_mk ha he]; exact ⟨hl a ha, hr a ha⟩)
  refine ⟨ht, he, ?_, fun a ha => by rw [tm_mk he ha]; exact hl a ha, fun a ha => by rw [tm_mk ha he]; exact hr a ha, fun a b c ha hb hc' => ?_, fun a ha => ?_⟩
  · unfold one
    rcases least_cases N (oneB N (mkT N f)) with ⟨k, hk, hp, _, ek⟩ | ⟨hno, _⟩
    · have h3 := (oneB_iff.1 hp e he).1
      rw [tm_mk hk he, hr k hk] at h3
      rw [ek, h3]
    · have := hno e he
      rw [hoe] at this; cases this
  · rw [tm_mk ha hb, tm_mk (hc a b ha hb) hc', tm_mk hb hc', tm_mk ha (hc b c hb hc')]
    exact hass a b c ha hb hc'
  · obtain ⟨b, hb, hab⟩ := hinv a ha
    exact ⟨b, hb, by rw [tm_mk ha hb]; exact hab⟩


theorem mkT_congr {n : Nat} {f g : Nat → Nat → Nat} (h : ∀ a b, a < n → b < n → f a b = g a b) : mkT n f = mkT n g := by
  unfold mkT
  refine List.map_congr_left fun i hi => ?_
  obtain ⟨h1, h2⟩ := div_mod_lt (List.mem_range.1 hi)
  rw [h _ _ h1 h2]
/-- What a group is mapped to, products kept, and all of it met, is a group. -/
theorem grp_image {n e K : Nat} {zs : List Int} {F : Nat → Nat → Nat} {φ : Nat → Nat} (g : IsGrp n zs e) (hK : K ≤ 60) (hφ : ∀ a, a < n → φ a < K) (hs : ∀ i, i < K → ∃ a, a < n ∧ φ a = i)
    (hm : ∀ a b, a < n → b < n → F (φ a) (φ b) = φ (tm n zs a b)) : IsGrp K (mkT K F) (φ e) := by
  have hKp : 1 ≤ K := by have := hφ e g.elt; omega
  refine grp_mk hKp hK ?_ (hφ e g.elt) ?_ ?_ ?_ ?_
  · intro i j hi hj
    obtain ⟨a, ha, rfl⟩ := hs i hi
    obtain ⟨b, hb, rfl⟩ := hs j hj
    rw [hm a b ha hb]
    exact hφ _ (tm_lt g.tab ha hb)
  · intro i hi
    obtain ⟨a, ha, rfl⟩ := hs i hi
    rw [hm e a g.elt ha, g.left a ha]
  · intro i hi
    obtain ⟨a, ha, rfl⟩ := hs i hi
    rw [hm a e ha g.elt, g.right a ha]
  · intro i j k hi hj hk
    obtain ⟨a, ha, rfl⟩ := hs i hi
    obtain ⟨b, hb, rfl⟩ := hs j hj
    obtain ⟨c, hc, rfl⟩ := hs k hk
    rw [hm a b ha hb, hm _ c (tm_lt g.tab ha hb) hc, hm b c hb hc, hm a _ ha (tm_lt g.tab hb hc), g.ass a b c ha hb hc]
  · intro i hi
    obtain ⟨a, ha, rfl⟩ := hs i hi
    obtain ⟨b, hb, he⟩ := g.inv a ha
    exact ⟨φ b, hφ b hb, by rw [hm a b ha hb, he]⟩
end Go.Proofs.YtobnfbnholbfoaaDoor

namespace Go.Proofs.YtobnfbnholbfoaaDoor
open Go Go.RowKit

/-- a, k + 1 times. -/
def pr (n : Nat) (zs : List Int) (a : Nat) : Nat → Nat
  | 0 => a
  | k + 1 => tm n zs (pr n zs a k) a
theorem pr_lt {n : Nat} {zs : List Int} (ht : IsTab n zs) {a : Nat} (ha : a < n) : ∀ k, pr n zs a k < n
  | 0 => ha
  | k + 1 => tm_lt ht (pr_lt ht ha k) ha
theorem pr_add {n e : Nat} {zs : List Int} (h : IsGrp n zs e) {a : Nat} (ha : a < n) (i : Nat) : ∀ m, pr n zs a (i + m + 1) = tm n zs (pr n zs a i) (pr n zs a m)
  | 0 => rfl
  | m + 1 => by
    show tm n zs (pr n zs a (i + m + 1)) a = tm n zs (pr n zs a i) (tm n zs (pr n zs a m) a)
    rw [pr_add h ha i m, h.ass _ _ _ (pr_lt h.tab ha i) (pr_lt h.tab ha m) ha]
/-- A thing has an inverse on both sides. -/
theorem grp_inv {n e : Nat} {zs : List Int} (h : IsGrp n zs e) {x : Nat} (hx : x < n) : ∃ b, b < n ∧ tm n zs x b = e ∧ tm n zs b x = e := by
  obtain ⟨b, hb, hxb⟩ := h.inv x hx
  exact ⟨b, hb, hxb, inv_both h.tab h.elt h.left h.right h.ass hx hb hxb⟩
theorem grp_cancel {n e : Nat} {zs : List Int} (h : IsGrp n zs e) {x y z : Nat} (hx : x < n) (hy : y < n) (hz : z < n) (he : tm n zs x y = tm n zs x z) : y = z := by
  obtain ⟨b, hb, _, hbx⟩ := grp_inv h hx
  have h1 := h.ass b x y hb hx hy
  have h2 := h.ass b x z hb hx hz
  rw [hbx, h.left y hy] at h1
  rw [hbx, h.left z hz] at h2
  rw [h1, h2, he]
theorem grp_cancel_right {n e : Nat} {zs : List Int} (h : IsGrp n zs e) {x y z : Nat} (hx : x < n) (hy : y < n) (hz : z < n) (he : tm n zs y x = tm n zs z x) : y = z := by
  obtain ⟨b, hb, hxb, _⟩ := grp_inv h hx
  have h1 := h.ass y x b hy hx hb
  have h2 := h.ass z x b hz hx hb
  rw [hxb, h.right y hy] at h1
  rw [hxb, h.right z hz] at h2
  rw [← h1, ← h2, he]
/-- Some power, at most as many times as there are things, is the one. -/
theorem pr_one {n e : Nat} {zs : List Int} (h : IsGrp n zs e) {a : Nat} (ha : a < n) : ∃ k, k < n ∧ pr n zs a k = e := by
  rcases Classical.em (∃ k, k < n ∧ pr n zs a k = e) with hk | hk
  · exact hk
  · exfalso
    have hinj : ∀ i j, i < j → j < n → pr n zs a i ≠ pr n zs a j := fun i j hij hj he => by
      have h1 := pr_add h ha i (j - i - 1)
      rw [show i + (j - i - 1) + 1 = j by omega] at h1
      have h2 : tm n zs (pr n zs a i) (pr n zs a (j - i - 1)) = tm n zs (pr n zs a i) e := by rw [← h1, h.right _ (pr_lt h.tab ha i), he]
      exact hk ⟨j - i - 1, by omega, grp_cancel h (pr_lt h.tab ha i) (pr_lt h.tab ha _) h.elt h2⟩
    obtain ⟨k, hkn, hke⟩ := meets (n := n) (f := pr n zs a) (fun x _ => pr_lt h.tab ha x) (fun x y hx hy he => by
      rcases Nat.lt_trichotomy x y with hl | hl | hl
      · exact absurd he (hinj x y hl hy)
      · exact hl
      · exact absurd he.symm (hinj y x hl hx)) h.elt
    exact hk ⟨k, hkn, hke⟩
/-- How often a is to be taken until it is e. -/
def ordN (n : Nat) (zs : List Int) (e a : Nat) : Nat := (least n (fun k => decide (pr n zs a k = e))).toNat + 1
theorem ordN_spec {n e : Nat} {zs : List Int} (h : IsGrp n zs e) {a : Nat} (ha : a < n) : ∃ k, k < n ∧ ordN n zs e a = k + 1 ∧ pr n zs a k = e ∧ ∀ t, t < k → pr n zs a t ≠ e := by
  rcases least_cases n (fun k => decide (pr n zs a k = e)) with ⟨k, hk, hp, hb, he⟩ | ⟨hno, _⟩
  · refine ⟨k, hk, by unfold ordN; rw [he]; simp, of_decide_eq_true hp, fun t ht => of_decide_eq_false (hb t ht)⟩
  · obtain ⟨k, hk, hke⟩ := pr_one h ha
    have := hno k hk
    simp [hke] at this

end Go.Proofs.YtobnfbnholbfoaaDoor

namespace Go.Proofs.YtobnfbnholbfoaaDoor

/-- a, k times. -/
def pw (n : Nat) (zs : List Int) (e a : Nat) : Nat → Nat
  | 0 => e
  | k + 1 => tm n zs (pw n zs e a k) a
theorem pw_lt {n e : Nat} {zs : List Int} (h : IsGrp n zs e) {a : Nat} (ha : a < n) : ∀ k, pw n zs e a k < n
  | 0 => h.elt
  | k + 1 => tm_lt h.tab (pw_lt h ha k) ha
theorem pw_pr {n e : Nat} {zs : List Int} (h : IsGrp n zs e) {a : Nat} (ha : a < n) : ∀ k, pw n zs e a (k + 1) = pr n zs a k
  | 0 => h.left a ha
  | k + 1 => by
    show tm n zs (pw n zs e a (k + 1)) a = tm n zs (pr n zs a k) a
    rw [pw_pr h ha k]
theorem pw_add {n e : Nat} {zs : List Int} (h : IsGrp n zs e) {a : Nat} (ha : a < n) (i : Nat) : ∀ j, pw n zs e a (i + j) = tm n zs (pw n zs e a i) (pw n zs e a j)
  | 0 => (h.right _ (pw_lt h ha i)).symm
  | j + 1 => by
    show tm n zs (pw n zs e a (i + j)) a = tm n zs (pw n zs e a i) (tm n zs (pw n zs e a j) a)
    rw [pw_add h ha i j, h.ass _ _ _ (pw_lt h ha i) (pw_lt h ha j) ha]
theorem pw_one {n e : Nat} {zs : List Int} (h : IsGrp n zs e) : ∀ k, pw n zs e e k = e
  | 0 => rfl
  | k + 1 => by
    show tm n zs (pw n zs e e k) e = e
    rw [pw_one h k, h.left e h.elt]
theorem pw_mul {n e : Nat} {zs : List Int} (h : IsGrp n zs e) {a : Nat} (ha : a < n) (i : Nat) : ∀ j, pw n zs e (pw n zs e a i) j = pw n zs e a (i * j)
  | 0 => rfl
  | j + 1 => by
    show tm n zs (pw n zs e (pw n zs e a i) j) (pw n zs e a i) = pw n zs e a (i * j + i)
    rw [pw_mul h ha i j, pw_add h ha (i * j) i]
theorem ord_pos {n e : Nat} {zs : List Int} (a : Nat) : 0 < ordN n zs e a := by unfold ordN; omega
theorem ord_le {n e : Nat} {zs : List Int} (h : IsGrp n zs e) {a : Nat} (ha : a < n) : ordN n zs e a ≤ n := by
  obtain ⟨k, hk, ho, _, _⟩ := ordN_spec h ha
  omega
theorem pw_ord {n e : Nat} {zs : List Int} (h : IsGrp n zs e) {a : Nat} (ha : a < n) : pw n zs e a (ordN n zs e a) = e := by
  obtain ⟨k, _, ho, hp, _⟩ := ordN_spec h ha
  rw [ho, pw_pr h ha, hp]
theorem pw_ord_mul {n e : Nat} {zs : List Int} (h : IsGrp n zs e) {a : Nat} (ha : a < n) (q : Nat) : pw n zs e a (ordN n zs e a * q) = e := by
  rw [← pw_mul h ha, pw_ord h ha, pw_one h]
theorem pw_mod {n e : Nat} {zs : List Int} (h : IsGrp n zs e) {a : Nat} (ha : a < n) (k : Nat) : pw n zs e a (k % ordN n zs e a) = pw n zs e a k := by
  have h1 := Nat.div_add_mod k (ordN n zs e a)
  have h2 : pw n zs e a (ordN n zs e a * (k / ordN n zs e a) + k % ordN n zs e a) = pw n zs e a (k % ordN n zs e a) := by
    rw [pw_add h ha, pw_ord_mul h ha, h.left _ (pw_lt h ha _)]
  rw [h1] at h2
  exact h2.symm
theorem pw_min {n e : Nat} {zs : List Int} (h : IsGrp n zs e) {a : Nat} (ha : a < n) {k : Nat} (hk : k < ordN n zs e a) (hp : pw n zs e a k = e) : k = 0 := by
  cases k with
  | zero => rfl
  | succ k =>
    obtain ⟨k9, _, ho, _, hno⟩ := ordN_spec h ha
    rw [pw_pr h ha] at hp
    exact absurd hp (hno k (by omega))
theorem ord_dvd {n e : Nat} {zs : List Int} (h : IsGrp n zs e) {a : Nat} (ha : a < n) {k : Nat} (hp : pw n zs e a k = e) : ordN n zs e a ∣ k := by
  have h1 := pw_min h ha (Nat.mod_lt k (ord_pos a)) ((pw_mod h ha k).trans hp)
  exact Nat.dvd_of_mod_eq_zero h1
theorem pw_inj {n e : Nat} {zs : List Int} (h : IsGrp n zs e) {a : Nat} (ha : a < n) {i j : Nat} (hi : i < ordN n zs e a) (hj : j < ordN n zs e a) (he : pw n zs e a i = pw n zs e a j) : i = j := by
  rcases Nat.lt_trichotomy i j with hl | hl | hl
  · have h1 := pw_add h ha i (j - i)
    rw [show i + (j - i) = j by omega] at h1
    have h2 := grp_cancel h (pw_lt h ha i) (pw_lt h ha (j - i)) h.elt (h1.symm.trans (he.symm.trans (h.right _ (pw_lt h ha i)).symm))
    have := pw_min h ha (by omega) h2
    omega
  · exact hl
  · have h1 := pw_add h ha j (i - j)
    rw [show j + (i - j) = i by omega] at h1
    have h2 := grp_cancel h (pw_lt h ha j) (pw_lt h ha (i - j)) h.elt (h1.symm.trans (he.trans (h.right _ (pw_lt h ha j)).symm))
    have := pw_min h ha (by omega) h2
    omega

theorem len_split (p : Nat → Bool) : ∀ l : List Nat, l.length = (l.filter p).length + (l.filter (fun y => !p y)).length
  | [] => rfl
  | x :: l => by
    have h := len_split p l
    cases hp : p x <;> simp [hp] <;> omega
/-- Where each value of f is met as often, that number divides all. -/
theorem fibre_dvd (f : Nat → Int) (o : Nat) : ∀ (m : Nat) (l : List Nat), l.length ≤ m → (∀ x, x ∈ l → (l.filter (fun y => decide (f y = f x))).length = o) → o ∣ l.length
  | _, [], _, _ => ⟨0, rfl⟩
  | 0, x :: l, hm, _ => by simp at hm
  | m + 1, x :: l, hm, hf => by
    have h1 := hf x (by simp)
    have hsplit := len_split (fun y => decide (f y = f x)) (x :: l)
    have hlt : 0 < ((x :: l).filter (fun y => decide (f y = f x))).length := List.length_pos_of_mem (a := x) (List.mem_filter.2 ⟨by simp, by simp⟩)
    have h2 := fibre_dvd f o m ((x :: l).filter (fun y => !decide (f y = f x))) (by simp only [List.length_cons] at hm hsplit; omega) (fun y hy => by
      obtain ⟨hy1, hy2⟩ := List.mem_filter.1 hy
      rw [List.filter_filter, ← hf y hy1]
      congr 1
      apply List.filter_congr
      intro z _
      by_cases hz : f z = f y
      · simp only [hz, decide_true, Bool.true_and]
        exact hy2
      · simp [hz])
    rw [hsplit, h1]
    exact Nat.dvd_add (Nat.dvd_refl o) h2
/-- Is y some power of a behind x? -/
def inCoset (n : Nat) (zs : List Int) (e a x y : Nat) : Bool := (List.range (ordN n zs e a)).any fun k => decide (tm n zs x (pw n zs e a k) = y)
theorem inCoset_iff {n e : Nat} {zs : List Int} {a x y : Nat} : inCoset n zs e a x y = true ↔ ∃ k, k < ordN n zs e a ∧ tm n zs x (pw n zs e a k) = y := by
  unfold inCoset
  simp only [List.any_eq_true, List.mem_range, decide_eq_true_eq]
theorem inCoset_any {n e : Nat} {zs : List Int} (h : IsGrp n zs e) {a x y : Nat} (ha : a < n) {k : Nat} (hk : tm n zs x (pw n zs e a k) = y) : inCoset n zs e a x y = true :=
  inCoset_iff.2 ⟨k % ordN n zs e a, Nat.mod_lt _ (ord_pos a), by rw [pw_mod h ha]; exact hk⟩
theorem inCoset_sub {n e : Nat} {zs : List Int} (h : IsGrp n zs e) {a x y z : Nat} (ha : a < n) (hx : x < n) (h1 : inCoset n zs e a x y = true) (h2 : inCoset n zs e a y z = true) : inCoset n zs e a x z = true := by
  obtain ⟨i, _, rfl⟩ := inCoset_iff.1 h1
  obtain ⟨j, _, rfl⟩ := inCoset_iff.1 h2
  exact inCoset_any h ha (k := i + j) (by rw [pw_add h ha, h.ass _ _ _ hx (pw_lt h ha i) (pw_lt h ha j)])
theorem inCoset_symm {n e : Nat} {zs : List Int} (h : IsGrp n zs e) {a x y : Nat} (ha : a < n) (hx : x < n) (h1 : inCoset n zs e a x y = true) : inCoset n zs e a y x = true := by
  obtain ⟨i, hi, rfl⟩ := inCoset_iff.1 h1
  exact inCoset_any h ha (k := ordN n zs e a - i) (by rw [h.ass _ _ _ hx (pw_lt h ha i) (pw_lt h ha _), ← pw_add h ha, show i + (ordN n zs e a - i) = ordN n zs e a by omega, pw_ord h ha, h.right x hx])
theorem inCoset_refl {n e : Nat} {zs : List Int} (h : IsGrp n zs e) {a x : Nat} (ha : a < n) (hx : x < n) : inCoset n zs e a x x = true :=
  inCoset_any h ha (k := 0) (h.right x hx)
/-- The least thing of a coset. -/
def rep (n : Nat) (zs : List Int) (e a x : Nat) : Int := least n (inCoset n zs e a x)
theorem rep_iff {n e : Nat} {zs : List Int} (h : IsGrp n zs e) {a x y : Nat} (ha : a < n) (hx : x < n) (hy : y < n) : rep n zs e a y = rep n zs e a x ↔ inCoset n zs e a x y = true := by
  unfold rep
  constructor
  · intro he
    rcases least_cases n (inCoset n zs e a x) with ⟨k, hk, hp, _, e1⟩ | ⟨hno, _⟩
    · rcases least_cases n (inCoset n zs e a y) with ⟨j, hj, hq, _, e2⟩ | ⟨hno, _⟩
      · rw [e1, e2] at he
        have : j = k := by omega
        subst this
        exact inCoset_sub h ha hx hp (inCoset_symm h ha hy hq)
      · have := hno y hy
        rw [inCoset_refl h ha hy] at this; cases this
    · have := hno x hx
      rw [inCoset_refl h ha hx] at this; cases this
  · intro hxy
    apply least_congr
    intro t ht
    rw [Bool.eq_iff_iff]
    exact ⟨fun hyt => inCoset_sub h ha hx hxy hyt, fun hxt => inCoset_sub h ha hy (inCoset_symm h ha hx hxy) hxt⟩
/-- LAGRANGE, of what one thing makes. -/
theorem lagrange {n e : Nat} {zs : List Int} (h : IsGrp n zs e) {a : Nat} (ha : a < n) : ordN n zs e a ∣ n := by
  have h1 := fibre_dvd (rep n zs e a) (ordN n zs e a) n (List.range n) (by simp) (fun x hx => by
    have hx := List.mem_range.1 hx
    have hn1 : ((List.range n).filter (fun y => decide (rep n zs e a y = rep n zs e a x))).Nodup := List.nodup_range.filter _
    have hn2 : ((List.range (ordN n zs e a)).map (fun k => tm n zs x (pw n zs e a k))).Nodup := map_nodup List.nodup_range (fun i j hi hj he =>
      pw_inj h ha (List.mem_range.1 hi) (List.mem_range.1 hj) (grp_cancel h hx (pw_lt h ha i) (pw_lt h ha j) he))
    have hs1 : ∀ z, z ∈ (List.range n).filter (fun y => decide (rep n zs e a y = rep n zs e a x)) → z ∈ (List.range (ordN n zs e a)).map (fun k => tm n zs x (pw n zs e a k)) := fun z hz => by
      obtain ⟨hz1, hz2⟩ := List.mem_filter.1 hz
      obtain ⟨k, hk, e1⟩ := inCoset_iff.1 ((rep_iff h ha hx (List.mem_range.1 hz1)).1 (of_decide_eq_true hz2))
      exact List.mem_map.2 ⟨k, List.mem_range.2 hk, e1⟩
    have hs2 : ∀ z, z ∈ (List.range (ordN n zs e a)).map (fun k => tm n zs x (pw n zs e a k)) → z ∈ (List.range n).filter (fun y => decide (rep n zs e a y = rep n zs e a x)) := fun z hz => by
      obtain ⟨k, hk, rfl⟩ := List.mem_map.1 hz
      have hzl := tm_lt h.tab hx (pw_lt h ha k)
      exact List.mem_filter.2 ⟨List.mem_range.2 hzl, decide_eq_true ((rep_iff h ha hx hzl).2 (inCoset_any h ha rfl))⟩
    have l1 := nodup_len _ _ hn1 hs1
    have l2 := nodup_len _ _ hn2 hs2
    simp only [List.length_map, List.length_range] at l1 l2
    omega)
  simpa using h1

/-- a, z times, z of either sign. -/
def pz (n : Nat) (zs : List Int) (e a : Nat) (z : Int) : Nat := pw n zs e a (z % (ordN n zs e a : Int)).toNat
theorem pz_lt {n e : Nat} {zs : List Int} (h : IsGrp n zs e) {a : Nat} (ha : a < n) (z : Int) : pz n zs e a z < n := pw_lt h ha _
theorem pz_eq {n e : Nat} {zs : List Int} (h : IsGrp n zs e) {a : Nat} (ha : a < n) {k : Nat} {z : Int} (hk : (k : Int) % (ordN n zs e a : Int) = z % (ordN n zs e a : Int)) : pz n zs e a z = pw n zs e a k := by
  unfold pz
  rw [← hk, ← Int.natCast_emod, Int.toNat_natCast, pw_mod h ha]
theorem pz_add {n e : Nat} {zs : List Int} (h : IsGrp n zs e) {a : Nat} (ha : a < n) (x y : Int) : tm n zs (pz n zs e a x) (pz n zs e a y) = pz n zs e a (x + y) := by
  have ho : (0 : Int) < (ordN n zs e a : Int) := by have := ord_pos (n := n) (zs := zs) (e := e) a; omega
  have hx := Int.emod_nonneg x (Int.ne_of_gt ho)
  have hy := Int.emod_nonneg y (Int.ne_of_gt ho)
  rw [pz_eq h ha (k := (x % (ordN n zs e a : Int)).toNat + (y % (ordN n zs e a : Int)).toNat) (z := x + y) (by
    rw [Int.natCast_add, Int.toNat_of_nonneg hx, Int.toNat_of_nonneg hy, ← Int.add_emod]), pw_add h ha]
  rfl
theorem pz_n {n e : Nat} {zs : List Int} (h : IsGrp n zs e) {a : Nat} (ha : a < n) : pz n zs e a (n : Int) = e := by
  obtain ⟨q, hq⟩ := lagrange h ha
  rw [pz_eq h ha (k := n) (z := (n : Int)) rfl]
  have := pw_ord_mul h ha q
  rw [← hq] at this
  exact this
theorem pz_mul {n e : Nat} {zs : List Int} (h : IsGrp n zs e) {a : Nat} (ha : a < n) (x y : Int) : pz n zs e (pz n zs e a x) y = pz n zs e a (x * y) := by
  have ho : (0 : Int) < (ordN n zs e a : Int) := by have := ord_pos (n := n) (zs := zs) (e := e) a; omega
  have hx := Int.emod_nonneg x (Int.ne_of_gt ho)
  have hy := Int.emod_nonneg y (Int.ne_of_gt ho)
  obtain ⟨i, hi⟩ : ∃ i : Nat, (i : Int) = x % (ordN n zs e a : Int) := ⟨(x % (ordN n zs e a : Int)).toNat, Int.toNat_of_nonneg hx⟩
  obtain ⟨j, hj⟩ : ∃ j : Nat, (j : Int) = y % (ordN n zs e a : Int) := ⟨(y % (ordN n zs e a : Int)).toNat, Int.toNat_of_nonneg hy⟩
  have e1 : pz n zs e a x = pw n zs e a i := pz_eq h ha (by rw [hi, Int.emod_emod])
  have hb := pw_lt h ha i
  rw [e1]
  have hd : ordN n zs e (pw n zs e a i) ∣ ordN n zs e a := ord_dvd h hb (by rw [pw_mul h ha, Nat.mul_comm, pw_ord_mul h ha])
  rw [pz_eq h hb (k := j) (z := y) (by
    rw [hj]
    exact Int.emod_emod_of_dvd y (Int.natCast_dvd_natCast.2 hd)), pw_mul h ha]
  rw [pz_eq h ha (k := i * j) (z := x * y) (by rw [Int.natCast_mul, hi, hj, ← Int.mul_emod])]
end Go.Proofs.YtobnfbnholbfoaaDoor

namespace Go.Proofs.YtobnfbnholbfoaaDoor
open Go Go.RowKit

/-- What the walk reckons: the rest of a number by an order. -/
theorem rest_of (z : Int) {o : Nat} (h : 0 < o) : ∃ s : Nat, s < o ∧ (s : Int) = z % (o : Int) ∧ ((z.tmod o < 0 ∧ z.tmod o + o = s) ∨ (¬ z.tmod o < 0 ∧ z.tmod o = s)) := by
  have h1 := Int.emod_nonneg z (show (o : Int) ≠ 0 by omega)
  have h2 := Int.emod_lt_of_pos z (show (0 : Int) < o by omega)
  refine ⟨(z % (o : Int)).toNat, by omega, by omega, ?_⟩
  rcases Int.lt_or_le z 0 with hn | hn
  · have h3 := Int.tmod_eq_emod (a := z) (b := (o : Int))
    rw [h3]
    split
    · right; omega
    · left
      rw [Int.natAbs_natCast]; omega
  · right
    rw [Int.tmod_eq_emod_of_nonneg hn]
    omega
end Go.Proofs.YtobnfbnholbfoaaDoor

namespace Go.Proofs.YtobnfbnholbfoaaDoor
open Go Go.RowKit

theorem Blk.c0 {W : World} {B : Nat} {T : TypeId} {x y : Value} (h : Blk W B T [x, y]) : W.cell? ⟨B, 0, none⟩ = some x := h.cell 0
theorem Blk.c1 {W : World} {B : Nat} {T : TypeId} {x y : Value} (h : Blk W B T [x, y]) : W.cell? ⟨B, 1, none⟩ = some y := h.cell 1
end Go.Proofs.YtobnfbnholbfoaaDoor

namespace Go.Proofs.YtobnfbnholbfoaaDoor
open Go Go.RowKit

section
variable {n : Nat} {f : Nat → Nat → Bool}
/-- The least thing of a thing's set. -/
theorem prts_rep (h : Prts n f) {a : Nat} (ha : a < n) : ∃ r, r < n ∧ f a r = true ∧ r ∈ fsts n f n ∧ ((List.range n).find? fun b => decide (bs (f b) n = bs (f a) n)) = some r ∧ num n f a = (fsts n f r).length := by
  have hs : ((List.range n).find? fun b => decide (bs (f b) n = bs (f a) n)).isSome = true := by
    rw [List.find?_isSome]
    exact ⟨a, List.mem_range.2 ha, by simp⟩
  obtain ⟨r, hr⟩ := Option.isSome_iff_exists.1 hs
  obtain ⟨h1, h2, h3⟩ := List.find?_range_eq_some.1 hr
  have hrn := List.mem_range.1 h2
  have h1 : bs (f r) n = bs (f a) n := by simpa using h1
  have hfr : f a r = true := by rw [← bs_inj h1 r hrn]; exact h.refl r hrn
  refine ⟨r, hrn, hfr, ?_, hr, by unfold num; rw [hr]; rfl⟩
  unfold fsts
  rw [List.mem_filter, List.mem_range]
  refine ⟨hrn, List.all_eq_true.2 fun b hb => ?_⟩
  have := h3 b (List.mem_range.1 hb)
  rw [h1]
  simpa using this
theorem fsts_take (n : Nat) (f : Nat → Nat → Bool) {r j : Nat} (h : r ≤ j) : fsts n f r = (fsts n f j).filter fun a => decide (a < r) := by
  unfold fsts
  rw [List.filter_filter]
  have : List.range r = (List.range j).filter fun a => decide (a < r) := by
    induction j with
    | zero => have : r = 0 := by omega
              subst this; rfl
    | succ j ih =>
      by_cases e : r = j + 1
      · subst e
        rw [List.filter_eq_self.2]
        intro a ha
        simpa using ha
      · rw [List.range_succ, List.filter_append, ← ih (by omega)]
        simp; omega
  rw [this, List.filter_filter]
  exact List.filter_congr fun a _ => Bool.and_comm _ _
theorem sorted_idx : ∀ (l : List Nat), l.Pairwise (· < ·) → ∀ i, (h : i < l.length) → (l.filter fun a => decide (a < l[i])).length = i
  | [], _, i, h => by simp at h
  | x :: t, hp, i, h => by
    rw [List.pairwise_cons] at hp
    cases i with
    | zero =>
      simp only [List.getElem_cons_zero]
      rw [List.filter_cons, if_neg (by simp)]
      rw [List.filter_eq_nil_iff.2]
      · rfl
      · intro a ha
        have := hp.1 a ha
        simp; omega
    | succ i =>
      simp only [List.getElem_cons_succ, List.length_cons] at h ⊢
      have hx := hp.1 (t[i]'(by omega)) (List.getElem_mem _)
      rw [List.filter_cons, if_pos (by simpa using hx), List.length_cons, sorted_idx t hp.2 i (by omega)]
theorem fsts_sorted (n : Nat) (f : Nat → Nat → Bool) (j : Nat) : (fsts n f j).Pairwise (· < ·) := List.Pairwise.sublist List.filter_sublist List.pairwise_lt_range
/-- The number of the set that stands at a place. -/
theorem prts_num_at (_h : Prts n f) {i : Nat} (hi : i < (fsts n f n).length) : num n f (fsts n f n)[i] = i := by
  have hm := List.getElem_mem hi
  generalize hc : (fsts n f n)[i] = c at *
  have hcn : c < n := by unfold fsts at hm; exact List.mem_range.1 (List.mem_filter.1 hm).1
  have hal : (List.range c).all (fun b => decide (bs (f b) n ≠ bs (f c) n)) = true := by unfold fsts at hm; exact (List.mem_filter.1 hm).2
  rw [num_new hcn hal, fsts_take n f (Nat.le_of_lt hcn), ← hc]
  exact sorted_idx _ (fsts_sorted n f n) i hi
theorem prts_num_lt (h : Prts n f) {a : Nat} (ha : a < n) : num n f a < (fsts n f n).length ∧ ∀ hl : num n f a < (fsts n f n).length, f a ((fsts n f n)[num n f a]) = true := by
  obtain ⟨r, hr, hf, hm, hfd, hnum⟩ := prts_rep h ha
  obtain ⟨i, hi, he⟩ := List.mem_iff_getElem.1 hm
  have h1 := prts_num_at h hi
  have h2 : num n f r = num n f a := by
    refine num_same (bs_ext fun x hx => ?_)
    exact (h.same a r ha hr hf x hx).symm
  rw [he, h2] at h1
  refine ⟨by omega, fun hl => ?_⟩
  have : (fsts n f n)[num n f a] = r := by simp only [h1]; exact he
  rw [this]
  exact hf
theorem prts_num_eq (h : Prts n f) {a b : Nat} (ha : a < n) (hb : b < n) : num n f a = num n f b ↔ f a b = true := by
  constructor
  · intro e
    obtain ⟨h1, h2⟩ := prts_num_lt h ha
    obtain ⟨h3, h4⟩ := prts_num_lt h hb
    have h5 := h2 h1
    have h6 := h4 h3
    simp only [← e] at h6
    have hm := List.getElem_mem h1
    generalize (fsts n f n)[num n f a] = c at *
    have hcn : c < n := by unfold fsts at hm; exact List.mem_range.1 (List.mem_filter.1 hm).1
    rw [h.same a c ha hcn h5 b hb, ← h.same b c hb hcn h6 b hb]
    exact h.refl b hb
  · intro e
    exact num_same (bs_ext fun x hx => h.same a b ha hb e x hx)
/-- The document's number of a thing's set. -/
theorem prts_which (h : Prts n f) {a : Nat} (ha : a < n) : whichI (csl n f n) a = (num n f a : Int) := by
  obtain ⟨h1, h2⟩ := prts_num_lt h ha
  have hget : ∀ t, t < (fsts n f n).length → ∀ hl : t < (fsts n f n).length, (csl n f n)[t]?.getD [] = li (lst n (f (fsts n f n)[t])) := fun t _ hl => by unfold csl; simp [hl]
  have hmem : ∀ t (hl : t < (fsts n f n).length), (a : Int) ∈ (csl n f n)[t]?.getD [] ↔ num n f a = t := fun t hl => by
    rw [hget t hl hl, mem_li, mem_lst]
    have hm := List.getElem_mem hl
    have hcn : (fsts n f n)[t] < n := by unfold fsts at hm; exact List.mem_range.1 (List.mem_filter.1 hm).1
    have h3 := prts_num_at h hl
    rw [← prts_num_eq h hcn ha, h3]
    exact ⟨fun h4 => h4.2.symm, fun h4 => ⟨ha, h4.symm⟩⟩
  refine whichI_at (by rw [csl_len]; exact h1) ((hmem _ h1).2 rfl) fun t ht => ?_
  rw [hmem t (by omega)]
  omega
end
section
variable {n e : Nat} {zs : List Int} {q : Nat → Bool}
theorem fst_lt {f : Nat → Nat → Bool} {i : Nat} (hi : i < (fsts n f n).length) : (fsts n f n)[i] < n := by
  have hm := List.getElem_mem hi
  unfold fsts at hm ⊢
  exact List.mem_range.1 (List.mem_filter.1 hm).1
/-- A right coset, moved. -/
theorem rgt_mul (g : IsGrp n zs e) {a b c : Nat} (ha : a < n) (hb : b < n) (hc : c < n) : rgtq n zs (lst n q) (tm n zs a c) (tm n zs b c) = rgtq n zs (lst n q) a b := by
  obtain ⟨c1, c2, _, _⟩ := iv_spec g hc
  obtain ⟨a1, _, _, _⟩ := iv_spec g ha
  rw [rgt_iff g (tm_lt g.tab ha hc) (tm_lt g.tab hb hc), rgt_iff g ha hb]
  have : tm n zs (tm n zs b c) (iv n zs e (tm n zs a c)) = tm n zs b (iv n zs e a) := by
    have h1 : iv n zs e (tm n zs a c) = tm n zs (iv n zs e c) (iv n zs e a) := by
      refine (iv_only g (tm_lt g.tab ha hc) (tm_lt g.tab c1 a1) ?_).symm
      obtain ⟨_, a2, _, _⟩ := iv_spec g ha
      rw [g.ass a c _ ha hc (tm_lt g.tab c1 a1), ← g.ass c _ _ hc c1 a1, c2, g.left _ a1, a2]
    rw [h1, g.ass b c _ hb hc (tm_lt g.tab c1 a1), ← g.ass c _ _ hc c1 a1, c2, g.left _ a1]
  rw [this]
theorem csl_get {f : Nat → Nat → Bool} {t : Nat} (ht : t < (fsts n f n).length) : (csl n f n)[t]?.getD [] = li (lst n (f (fsts n f n)[t])) := by unfold csl; simp [ht]
/-- What stands in the lists. -/
theorem csl_at {f : Nat → Nat → Bool} (h : Prts n f) (t : Nat) (x : Int) : x ∈ (csl n f n)[t]?.getD [] ↔ ∃ a : Nat, a < n ∧ x = (a : Int) ∧ num n f a = t := by
  by_cases ht : t < (fsts n f n).length
  · rw [csl_get ht]
    have hcn := fst_lt ht
    constructor
    · intro hx
      unfold li at hx
      obtain ⟨a, ha, rfl⟩ := List.mem_map.1 hx
      obtain ⟨h1, h2⟩ := mem_lst.1 ha
      refine ⟨a, h1, rfl, ?_⟩
      rw [← (prts_num_eq h hcn h1).2 h2, prts_num_at h ht]
    · rintro ⟨a, ha, rfl, hnum⟩
      rw [mem_li, mem_lst]
      refine ⟨ha, (prts_num_eq h hcn ha).1 ?_⟩
      rw [prts_num_at h ht, hnum]
  · rw [List.getElem?_eq_none (by rw [csl_len]; omega)]
    constructor
    · intro hx; simp at hx
    · rintro ⟨a, ha, _, hnum⟩
      have := (prts_num_lt h ha).1
      omega
theorem csl_head {f : Nat → Nat → Bool} (h : Prts n f) {t : Nat} (ht : t < (fsts n f n).length) : ∃ s, (csl n f n)[t]?.getD [] = (((fsts n f n)[t]?.getD 0 : Nat) : Int) :: s := by
  rw [csl_get ht, List.getElem?_eq_getElem ht, Option.getD_some]
  have hm := List.getElem_mem ht
  generalize (fsts n f n)[t] = c at *
  rw [h.fsts, List.mem_filter, decide_eq_true_eq] at hm
  obtain ⟨_, hm⟩ := hm
  cases hl : lst n (f c) with
  | nil => rw [hl] at hm; simp at hm
  | cons z s => rw [hl] at hm; simp at hm; subst hm; exact ⟨li s, rfl⟩
theorem csl_len_le {f : Nat → Nat → Bool} (t : Nat) : ((csl n f n)[t]?.getD []).length ≤ n := by
  by_cases ht : t < (fsts n f n).length
  · rw [csl_get ht, li_len]
    unfold lst
    exact Nat.le_trans (List.length_filter_le _ _) (by simp)
  · rw [List.getElem?_eq_none (by rw [csl_len]; omega)]
    simp
/-- Of each thing the number of its set. -/
def ontoL (n : Nat) (f : Nat → Nat → Bool) : List Int := (List.range n).map fun a => (num n f a : Int)
theorem ontoL_len (n : Nat) (f : Nat → Nat → Bool) : (ontoL n f).length = n := by simp [ontoL]
theorem ontoL_get {f : Nat → Nat → Bool} {a : Nat} (ha : a < n) : (ontoL n f)[a]?.getD 0 = (num n f a : Int) := by simp [ontoL, ha]
/-- The first numbers, and noughts. -/
def ontoU (n : Nat) (f : Nat → Nat → Bool) (k : Nat) : List Int := (List.range n).map fun a => if a < k then (num n f a : Int) else 0
theorem ontoU_len (n : Nat) (f : Nat → Nat → Bool) (k : Nat) : (ontoU n f k).length = n := by simp [ontoU]
theorem ontoU_zero (n : Nat) (f : Nat → Nat → Bool) : ontoU n f 0 = List.replicate n 0 := by
  unfold ontoU
  apply List.ext_getElem <;> simp
theorem ontoU_all (n : Nat) (f : Nat → Nat → Bool) : ontoU n f n = ontoL n f := by
  unfold ontoU ontoL
  exact List.map_congr_left fun a ha => if_pos (List.mem_range.1 ha)
theorem ontoU_set {f : Nat → Nat → Bool} {k : Nat} : ontoU n f (k + 1) = (ontoU n f k).set k (num n f k : Int) := by
  apply List.ext_getElem
  · simp [ontoU]
  · intro i h1 h2
    rw [List.getElem_set]
    simp only [ontoU, List.getElem_map, List.getElem_range]
    by_cases e : k = i
    · subst e
      rw [if_pos (by omega), if_pos rfl]
    · rw [if_neg e]
      by_cases h3 : i < k
      · rw [if_pos (by omega), if_pos h3]
      · rw [if_neg (by omega), if_neg h3]
/-- Products of numbers. -/
def quoF (n : Nat) (zs : List Int) (f : Nat → Nat → Bool) (i j : Nat) : Nat := num n f (tm n zs ((fsts n f n)[i]?.getD 0) ((fsts n f n)[j]?.getD 0))
theorem rgt_both (g : IsGrp n zs e) (hs : subT n zs e q = true) (hN : nrmq n zs e q = true) {a b c d : Nat} (ha : a < n) (hb : b < n) (hc : c < n) (hd : d < n)
    (h1 : rgtq n zs (lst n q) a c = true) (h2 : rgtq n zs (lst n q) b d = true) : rgtq n zs (lst n q) (tm n zs a b) (tm n zs c d) = true := by
  obtain ⟨x, hx, rfl⟩ := mem_rgt.1 h1
  obtain ⟨y, hy, rfl⟩ := mem_rgt.1 h2
  obtain ⟨hxn, hqx⟩ := mem_lst.1 hx
  obtain ⟨hyn, hqy⟩ := mem_lst.1 hy
  obtain ⟨a1, a2, a3, _⟩ := iv_spec g ha
  have hcj := (nrm_iff g).1 hN y (iv n zs e a) (List.mem_range.2 hyn) (List.mem_range.2 a1) hqy
  unfold Fin.cj at hcj
  rw [show iv n zs e (iv n zs e a) = a from (iv_only g a1 ha a3).symm] at hcj
  have hz := tm_lt g.tab a1 hyn
  refine mem_rgt.2 ⟨tm n zs x (tm n zs (tm n zs a y) (iv n zs e a)), mem_lst.2 ⟨?_, ?_⟩, ?_⟩
  · exact tm_lt g.tab hxn (tm_lt g.tab (tm_lt g.tab ha hyn) a1)
  · refine sub_mul hs hxn (tm_lt g.tab (tm_lt g.tab ha hyn) a1) hqx ?_
    first
      | exact hcj
      | (rw [g.ass a y _ ha hyn a1]; exact hcj)
  · have hay := tm_lt g.tab ha hyn
    have hab := tm_lt g.tab ha hb
    rw [g.ass x _ _ hxn (tm_lt g.tab hay a1) hab, g.ass (tm n zs a y) _ _ hay a1 hab, ← g.ass _ a b a1 ha hb, a3, g.left b hb, g.ass a y b ha hyn hb, g.ass x a _ hxn ha (tm_lt g.tab hyn hb)]
theorem quo_hom (g : IsGrp n zs e) (hs : subT n zs e q = true) (hN : nrmq n zs e q = true) {a b : Nat} (ha : a < n) (hb : b < n) :
    quoF n zs (rgtq n zs (lst n q)) (num n (rgtq n zs (lst n q)) a) (num n (rgtq n zs (lst n q)) b) = num n (rgtq n zs (lst n q)) (tm n zs a b) := by
  have P := rgt_parts g hs
  obtain ⟨a1, a2⟩ := prts_num_lt P ha
  obtain ⟨b1, b2⟩ := prts_num_lt P hb
  have a3 := a2 a1
  have b3 := b2 b1
  have ha9 := fst_lt a1
  have hb9 := fst_lt b1
  unfold quoF
  rw [List.getElem?_eq_getElem a1, List.getElem?_eq_getElem b1, Option.getD_some, Option.getD_some]
  exact ((prts_num_eq P (tm_lt g.tab ha hb) (tm_lt g.tab ha9 hb9)).2 (rgt_both g hs hN ha hb ha9 hb9 a3 b3)).symm
theorem quo_grp (g : IsGrp n zs e) (hs : subT n zs e q = true) (hN : nrmq n zs e q = true) :
    IsGrp (fsts n (rgtq n zs (lst n q)) n).length (mkT (fsts n (rgtq n zs (lst n q)) n).length (quoF n zs (rgtq n zs (lst n q)))) (num n (rgtq n zs (lst n q)) e) := by
  have P := rgt_parts g hs
  refine grp_image g (Nat.le_trans (fsts_len _ _ _) g.tab.le) (fun a ha => (prts_num_lt P ha).1) (fun i hi => ⟨_, fst_lt hi, prts_num_at P hi⟩) (fun a b ha hb => quo_hom g hs hN ha hb)
end
end Go.Proofs.YtobnfbnholbfoaaDoor

namespace Go.Proofs.YtobnfbnholbfoaaDoor
open Go Go.RowKit Go.Maps

theorem law3 : Keyed Tryd.prog 3 := int_keyed und3'
/-- What the map has of the first i lists, and of the first k numbers of the next. -/
structure MLs (ls : List (List Int)) (i k : Nat) (D : DataW Unit) : Prop where
  old : ∀ t, t < i → ∀ a, a ∈ ls[t]?.getD [] → D.atKey (.int .i64 a) (.lit (.int .i64 0)) = .lit (.int .i64 (t : Nat))
  new : ∀ a, a ∈ (ls[i]?.getD []).take k → D.atKey (.int .i64 a) (.lit (.int .i64 0)) = .lit (.int .i64 (i : Nat))
theorem MLs.step {ls : List (List Int)} {i k : Nat} {D : DataW Unit} (h : MLs ls i k D) (hD : IsMap D) (hd : ∀ (s t : Nat) (a : Int), a ∈ ls[s]?.getD [] → a ∈ ls[t]?.getD [] → s = t) (hk : k < (ls[i]?.getD []).length) :
    MLs ls i (k + 1) (D.put (.int .i64 ((ls[i]?.getD [])[k]?.getD 0)) (.lit (.int .i64 (i : Nat)))) := by
  have hx : (ls[i]?.getD [])[k]?.getD 0 ∈ ls[i]?.getD [] := by simp [hk]
  generalize hxe : (ls[i]?.getD [])[k]?.getD 0 = x at *
  constructor
  · intro t ht a ha
    have hne : a ≠ x := fun e => by
      subst e
      have := hd t i a ha hx
      omega
    rw [atKey_put_other (fun h9 => hne (by injection h9))]
    exact h.old t ht a ha
  · intro a ha
    by_cases e : a = x
    · subst e
      rw [atKey_put_same hD (by trivial)]
    · rw [atKey_put_other (fun h9 => e (by injection h9))]
      refine h.new a ?_
      rw [List.take_add_one, List.mem_append] at ha
      rcases ha with ha | ha
      · exact ha
      · rw [List.getElem?_eq_getElem hk] at ha hxe
        simp at ha hxe
        exact absurd (ha.trans hxe) e
theorem MLs.done {ls : List (List Int)} {i : Nat} {D : DataW Unit} (h : MLs ls i (ls[i]?.getD []).length D) : MLs ls (i + 1) 0 D := by
  constructor
  · intro t ht a ha
    by_cases e : t = i
    · subst e
      exact h.new a (by rw [List.take_length]; exact ha)
    · exact h.old t (by omega) a ha
  · intro a ha
    simp at ha
theorem map_le {P : Program} {k : TypeId} {R : Value → Option (DataW Unit × List MemPlace)} {w : World} {b n m : Nat} {D : DataW Unit} (h : w.ownsMap P k R b n D) (hm : n ≤ m) : w.ownsMap P k R b m D := by
  obtain ⟨d, rfl⟩ := Nat.exists_eq_add_of_le hm
  clear hm
  induction d with
  | zero => exact h
  | succ d ih => exact map_more ih
end Go.Proofs.YtobnfbnholbfoaaDoor

namespace Go.Proofs.YtobnfbnholbfoaaDoor
open Go Go.RowKit Go.Maps

end Go.Proofs.YtobnfbnholbfoaaDoor

namespace Go.Proofs.YtobnfbnholbfoaaDoor
open Go Go.RowKit Go.Maps

/-- What a function that answers a group and a fault begins with. -/
structure BegQ (w w0 : World) (N : Int) (v : Value) : Prop where
  eq : w0 = ((w.alloc (.cells #[.int .i64 N, v] 24)).alloc (.cells #[.int .i64 0, .slice none 0 0] 24)).alloc (.cells #[.int .i64 0, .int .i64 0] 27)
  bel : Below w.heap.size w w0
  box : BoxG w0 w.heap.size N v
  grp : Blk w0 (w.heap.size + 1) 24 [.int .i64 0, .slice none 0 0]
  res : Blk w0 (w.heap.size + 1 + 1) 27 [.int .i64 0, .int .i64 0]
  siz : w0.heap.size = w.heap.size + 1 + 1 + 1
theorem BegQ.new (w : World) (N : Int) (v : Value) : ∃ w0, BegQ w w0 N v := by
  refine ⟨_, rfl, ((balloc w _).alloc (by simp) _).alloc (by simp; omega) _, ((blk0 (w := w) (T := 24) _ _).alloc _).alloc _, ?_, ?_, by simp⟩
  · have h := (blk0 (w := w.alloc (.cells #[.int .i64 N, v] 24)) (T := 24) (.int .i64 0) (.slice none 0 0)).alloc (.cells #[.int .i64 0, .int .i64 0] 27)
    rw [World.size_alloc] at h
    exact h
  · have h := blk0 (w := (w.alloc (.cells #[.int .i64 N, v] 24)).alloc (.cells #[.int .i64 0, .slice none 0 0] 24)) (T := 27) (.int .i64 0) (.int .i64 0)
    rw [World.size_alloc, World.size_alloc] at h
    exact h
end Go.Proofs.YtobnfbnholbfoaaDoor

namespace Go.Proofs.YtobnfbnholbfoaaDoor
open Go Go.RowKit

theorem sq_l : lfault 8 [0, 2] = (0, 0) := by decide +kernel
theorem sq_s : subT 8 sqT 0 (pset [0, 2]) = true := by decide +kernel
theorem sq_n : nrmq 8 sqT 0 (pset [0, 2]) = true := by decide +kernel
theorem sq_k : (fsts 8 (rgtq 8 sqT (lst 8 (pset [0, 2]))) 8).length = 4 := by decide +kernel
theorem sq_o : ontoL 8 (rgtq 8 sqT (lst 8 (pset [0, 2]))) = [0, 1, 0, 1, 2, 3, 2, 3] := by decide +kernel
theorem sq_e : num 8 (rgtq 8 sqT (lst 8 (pset [0, 2]))) 0 = 0 := by decide +kernel
def sqQ : List Int := mkT 4 (quoF 8 sqT (rgtq 8 sqT (lst 8 (pset [0, 2]))))
theorem sq_g : IsGrp 4 sqQ 0 := by
  have h := quo_grp (q := pset [0, 2]) sqT_grp sq_s sq_n
  rw [sq_k, sq_e] at h
  exact h
theorem sq_p : pz 4 sqQ 0 1 2 = 0 := by decide +kernel
end Go.Proofs.YtobnfbnholbfoaaDoor

namespace Go.Proofs.YtobnfbnholbfoaaDoor
open Go Go.RowKit

end Go.Proofs.YtobnfbnholbfoaaDoor

namespace Go.Proofs.YtobnfbnholbfoaaDoor
open Go Go.RowKit

/-- A prime from 2 to 100. -/
def primeB (p : Int) : Bool := decide (2 ≤ p ∧ p ≤ 100 ∧ ∀ d : Nat, d < p.toNat → 2 ≤ d → p.toNat % d ≠ 0)
theorem prime_root : ∀ p : Nat, p < 101 → 2 ≤ p → (∀ d : Nat, d < p → 2 ≤ d → d * d ≤ p → p % d ≠ 0) → ∀ d : Nat, d < p → 2 ≤ d → p % d ≠ 0 := by
  intro p hp h2 h d hd hd2 hm
  by_cases hle : d * d ≤ p
  · exact h d hd hd2 hle hm
  · obtain ⟨k, hk⟩ := Nat.dvd_of_mod_eq_zero hm
    have hkd : k < d := by
      refine Nat.lt_of_not_le fun h9 => ?_
      have := Nat.mul_le_mul_left d h9
      omega
    have hk2 : 2 ≤ k := by
      match k, hk with
      | 0, hk => simp at hk; omega
      | 1, hk => simp at hk; omega
      | k + 2, _ => omega
    have hkk : k * k ≤ p := by
      have := Nat.mul_le_mul_right k (Nat.le_of_lt hkd)
      omega
    refine h k (by omega) hk2 hkk ?_
    rw [hk]
    exact Nat.mul_mod_left d k
/-- A power of p. -/
def isPw (n p : Nat) : Prop := ∃ k, n = p ^ k
theorem pw_strip {p v j k : Nat} (hp : 2 ≤ p) (hv : ¬ p ∣ v) (h : v * p ^ j = p ^ k) : v = 1 := by
  have hpos : 0 < p := by omega
  rcases Nat.lt_trichotomy j k with h1 | h1 | h1
  · refine absurd ?_ hv
    obtain ⟨t, rfl⟩ : ∃ t, k = j + t + 1 := ⟨k - j - 1, by omega⟩
    have h2 : v = p ^ (t + 1) := by
      refine Nat.eq_of_mul_eq_mul_right (Nat.pow_pos (n := j) hpos) ?_
      rw [h, ← Nat.pow_add]
      congr 1
      omega
    rw [h2, Nat.pow_succ]
    exact Nat.dvd_mul_left _ _
  · subst h1
    exact Nat.eq_of_mul_eq_mul_right (Nat.pow_pos (n := j) hpos) (by rw [h, Nat.one_mul])
  · exfalso
    obtain ⟨t, rfl⟩ : ∃ t, j = k + t + 1 := ⟨j - k - 1, by omega⟩
    have h2 : v * p ^ (t + 1) = 1 := by
      refine Nat.eq_of_mul_eq_mul_right (Nat.pow_pos (n := k) hpos) ?_
      rw [Nat.one_mul, Nat.mul_assoc, ← Nat.pow_add, show t + 1 + k = k + t + 1 by omega]
      exact h
    have h3 := Nat.eq_one_of_mul_eq_one_left h2
    rw [Nat.pow_succ] at h3
    have h4 := Nat.eq_one_of_mul_eq_one_left h3
    omega
end Go.Proofs.YtobnfbnholbfoaaDoor

namespace Go.Proofs.YtobnfbnholbfoaaDoor
open Go Go.RowKit

end Go.Proofs.YtobnfbnholbfoaaDoor

namespace Go.Proofs.YtobnfbnholbfoaaDoor.Pop
open Go

/-- A number of these digits, the lowest first. -/
def val (B : Nat) : List Nat → Nat
  | [] => 0
  | d :: ds => d + B * val B ds
/-- Fields of k bits, every other one full. -/
def mask (k : Nat) : Nat → Nat
  | 0 => 0
  | n + 1 => (2 ^ k - 1) + 2 ^ (2 * k) * mask k n
def pairs : List Nat → List Nat
  | d :: c :: ds => (d + c) :: pairs ds
  | _ => []
theorem and_split {k a b c d : Nat} (ha : a < 2 ^ k) (hc : c < 2 ^ k) : (a + 2 ^ k * b) &&& (c + 2 ^ k * d) = (a &&& c) + 2 ^ k * (b &&& d) := by
  have hac : a &&& c < 2 ^ k := Nat.lt_of_le_of_lt Nat.and_le_left ha
  apply Nat.eq_of_testBit_eq
  intro i
  rw [Nat.testBit_and, Nat.add_comm a, Nat.add_comm c, Nat.add_comm (a &&& c), Nat.testBit_two_pow_mul_add _ ha, Nat.testBit_two_pow_mul_add _ hc, Nat.testBit_two_pow_mul_add _ hac]
  by_cases h : i < k
  · rw [if_pos h, if_pos h, if_pos h, Nat.testBit_and]
  · rw [if_neg h, if_neg h, if_neg h, Nat.testBit_and]
theorem two_fields {k d c : Nat} (hd : d < 2 ^ k) (hc : c < 2 ^ k) : d + 2 ^ k * c < 2 ^ (2 * k) := by
  have h1 : 2 ^ (2 * k) = 2 ^ k * 2 ^ k := by rw [Nat.two_mul, Nat.pow_add]
  have h2 : 2 ^ k * (c + 1) ≤ 2 ^ k * 2 ^ k := Nat.mul_le_mul_left _ hc
  rw [h1]
  rw [Nat.mul_add] at h2
  omega
theorem low_field {k d c : Nat} (hd : d < 2 ^ k) : (d + 2 ^ k * c) &&& (2 ^ k - 1) = d := by
  rw [Nat.and_two_pow_sub_one_eq_mod, Nat.add_mul_mod_self_left, Nat.mod_eq_of_lt hd]
theorem mask_lt (k : Nat) : 2 ^ k - 1 < 2 ^ (2 * k) := Nat.lt_of_lt_of_le (Nat.sub_lt (Nat.two_pow_pos k) (by omega)) (Nat.pow_le_pow_right (by omega) (by omega))
theorem sq (k x : Nat) : 2 ^ k * (2 ^ k * x) = 2 ^ (2 * k) * x := by rw [← Nat.mul_assoc, ← Nat.pow_add, Nat.two_mul]
/-- One step: fields that stand side by side are added. -/
theorem step (k : Nat) : ∀ (n : Nat) (ds : List Nat), ds.length = 2 * n → (∀ d, d ∈ ds → d < 2 ^ k) →
    ((val (2 ^ k) ds / 2 ^ k) &&& mask k n) + (val (2 ^ k) ds &&& mask k n) = val (2 ^ (2 * k)) (pairs ds)
  | 0, ds, hl, _ => by
    obtain rfl : ds = [] := List.length_eq_zero_iff.1 (by omega)
    simp [mask, pairs, val]
  | n + 1, ds, hl, hd => by
    match ds, hl, hd with
    | d :: c :: ds, hl, hd =>
      have h1 : d < 2 ^ k := hd d (by simp)
      have h2 : c < 2 ^ k := hd c (by simp)
      have ih := step k n ds (by simp at hl; omega) (fun x hx => hd x (by simp [hx]))
      have hp := Nat.two_pow_pos k
      have hV := Nat.mod_add_div (val (2 ^ k) ds) (2 ^ k)
      have hm := Nat.mod_lt (val (2 ^ k) ds) hp
      show ((d + 2 ^ k * (c + 2 ^ k * val (2 ^ k) ds)) / 2 ^ k &&& ((2 ^ k - 1) + 2 ^ (2 * k) * mask k n)) + ((d + 2 ^ k * (c + 2 ^ k * val (2 ^ k) ds)) &&& ((2 ^ k - 1) + 2 ^ (2 * k) * mask k n)) = (d + c) + 2 ^ (2 * k) * val (2 ^ (2 * k)) (pairs ds)
      generalize val (2 ^ k) ds = V at *
      have e2 : (d + 2 ^ k * (c + 2 ^ k * V)) = (d + 2 ^ k * c) + 2 ^ (2 * k) * V := by rw [Nat.mul_add, sq, Nat.add_assoc]
      have e3 : (d + 2 ^ k * (c + 2 ^ k * V)) / 2 ^ k = c + 2 ^ k * V := by rw [Nat.add_mul_div_left _ _ hp, Nat.div_eq_of_lt h1, Nat.zero_add]
      have e4 : c + 2 ^ k * V = (c + 2 ^ k * (V % 2 ^ k)) + 2 ^ (2 * k) * (V / 2 ^ k) := by
        rw [← sq, Nat.add_assoc, ← Nat.mul_add, hV]
      rw [e3, e2, e4, and_split (two_fields h2 hm) (mask_lt k), and_split (two_fields h1 h2) (mask_lt k), low_field h2, low_field h1, ← ih, Nat.mul_add]
      omega
theorem pairs_sum : ∀ (n : Nat) (ds : List Nat), ds.length = 2 * n → (pairs ds).sum = ds.sum ∧ (pairs ds).length = n
  | 0, ds, hl => by
    obtain rfl : ds = [] := List.length_eq_zero_iff.1 (by omega)
    simp [pairs]
  | n + 1, ds, hl => by
    match ds, hl with
    | d :: c :: ds, hl =>
      obtain ⟨h1, h2⟩ := pairs_sum n ds (by simp at hl; omega)
      simp [pairs, h1, h2]
      omega
theorem pairs_le {B : Nat} : ∀ (n : Nat) (ds : List Nat), ds.length = 2 * n → (∀ d, d ∈ ds → d ≤ B) → ∀ d, d ∈ pairs ds → d ≤ 2 * B
  | 0, ds, hl, _ => by
    obtain rfl : ds = [] := List.length_eq_zero_iff.1 (by omega)
    simp [pairs]
  | n + 1, ds, hl, hd => by
    match ds, hl, hd with
    | d :: c :: ds, hl, hd =>
      intro x hx
      have h1 := hd d (by simp)
      have h2 := hd c (by simp)
      rcases List.mem_cons.1 hx with rfl | hx
      · omega
      · exact pairs_le n ds (by simp at hl; omega) (fun y hy => hd y (by simp [hy])) x hx
/-- The digit above is added to each digit. -/
def adj : List Nat → List Nat
  | d :: c :: ds => (d + c) :: adj (c :: ds)
  | ds => ds
theorem adj_val {B : Nat} (hB : 0 < B) : ∀ ds : List Nat, (∀ d, d ∈ ds → d < B) → val B ds / B + val B ds = val B (adj ds)
  | [], _ => by simp [adj, val]
  | [d], h => by
    have := h d (by simp)
    simp [adj, val, Nat.div_eq_of_lt this]
  | d :: c :: ds, h => by
    have ih := adj_val hB (c :: ds) (fun x hx => h x (by simp [hx]))
    have hd := h d (by simp)
    have hc := h c (by simp)
    have e1 : val B (c :: ds) = c + B * val B ds := rfl
    have e2 : (c + B * val B ds) / B = val B ds := by rw [Nat.add_mul_div_left _ _ hB, Nat.div_eq_of_lt hc, Nat.zero_add]
    rw [e1, e2] at ih
    have e3 : val B (d :: c :: ds) = d + B * (c + B * val B ds) := rfl
    have e4 : (d + B * (c + B * val B ds)) / B = c + B * val B ds := by rw [Nat.add_mul_div_left _ _ hB, Nat.div_eq_of_lt hd, Nat.zero_add]
    rw [e3, e4]
    show _ = (d + c) + B * val B (adj (c :: ds))
    rw [← ih]
    generalize val B ds = V
    simp only [Nat.mul_add]
    omega
theorem adj_le {M : Nat} : ∀ ds : List Nat, (∀ d, d ∈ ds → d ≤ M) → ∀ d, d ∈ adj ds → d ≤ 2 * M
  | [], _ => by simp [adj]
  | [d], h => fun x hx => by
    have := h x hx
    omega
  | d :: c :: ds, h => fun x hx => by
    have h1 := h d (by simp)
    have h2 := h c (by simp)
    rcases List.mem_cons.1 hx with rfl | hx
    · omega
    · exact adj_le (c :: ds) (fun y hy => h y (by simp [hy])) x hx
theorem adj_len : ∀ ds : List Nat, (adj ds).length = ds.length
  | [] => rfl
  | [_] => rfl
  | _ :: c :: ds => by simp [adj, adj_len (c :: ds)]
/-- Every other digit. -/
def evens : List Nat → List Nat
  | d :: _ :: ds => d :: evens ds
  | _ => []
theorem and_evens (k : Nat) : ∀ (n : Nat) (ds : List Nat), ds.length = 2 * n → (∀ d, d ∈ ds → d < 2 ^ k) → val (2 ^ k) ds &&& mask k n = val (2 ^ (2 * k)) (evens ds)
  | 0, ds, hl, _ => by
    obtain rfl : ds = [] := List.length_eq_zero_iff.1 (by omega)
    simp [mask, evens, val]
  | n + 1, ds, hl, hd => by
    match ds, hl, hd with
    | d :: c :: ds, hl, hd =>
      have h1 : d < 2 ^ k := hd d (by simp)
      have h2 : c < 2 ^ k := hd c (by simp)
      have ih := and_evens k n ds (by simp at hl; omega) (fun x hx => hd x (by simp [hx]))
      show ((d + 2 ^ k * (c + 2 ^ k * val (2 ^ k) ds)) &&& ((2 ^ k - 1) + 2 ^ (2 * k) * mask k n)) = d + 2 ^ (2 * k) * val (2 ^ (2 * k)) (evens ds)
      generalize val (2 ^ k) ds = V at *
      have e2 : (d + 2 ^ k * (c + 2 ^ k * V)) = (d + 2 ^ k * c) + 2 ^ (2 * k) * V := by rw [Nat.mul_add, sq, Nat.add_assoc]
      rw [e2, and_split (two_fields h1 h2) (mask_lt k), low_field h1, ih]
theorem evens_adj : ∀ (n : Nat) (ds : List Nat), ds.length = 2 * n → evens (adj ds) = pairs ds
  | 0, ds, hl => by
    obtain rfl : ds = [] := List.length_eq_zero_iff.1 (by omega)
    rfl
  | n + 1, ds, hl => by
    match ds, hl with
    | [d, c], _ => rfl
    | d :: c :: b :: ds, hl =>
      have ih := evens_adj n (b :: ds) (by simp at hl ⊢; omega)
      show (d + c) :: evens (adj (b :: ds)) = (d + c) :: pairs (b :: ds)
      rw [ih]
end Go.Proofs.YtobnfbnholbfoaaDoor.Pop

namespace Go.Proofs.YtobnfbnholbfoaaDoor.Pop
open Go

theorem last_one {a b c d e f g h y : Nat} (ha : a ≤ 8)
    (hy : y = a + 256 * (b + 256 * (c + 256 * (d + 256 * (e + 256 * (f + 256 * (g + 256 * h))))))) : y + y / 256 = (a + b) + 256 * ((b + c) + 256 * ((c + d) + 256 * ((d + e) + 256 * ((e + f) + 256 * ((f + g) + 256 * ((g + h) + 256 * h)))))) := by
  have e1 : y / 256 = b + 256 * (c + 256 * (d + 256 * (e + 256 * (f + 256 * (g + 256 * h))))) := by
    rw [hy, Nat.add_mul_div_left _ _ (by decide), Nat.div_eq_of_lt (by omega), Nat.zero_add]
  rw [e1, hy]
  clear e1 hy
  omega
theorem last_two {a b c d e f g h y : Nat} (ha : a ≤ 16) (hb : b ≤ 16)
    (hy : y = a + 256 * (b + 256 * (c + 256 * (d + 256 * (e + 256 * (f + 256 * (g + 256 * h))))))) : y + y / 65536 = (a + c) + 256 * ((b + d) + 256 * ((c + e) + 256 * ((d + f) + 256 * ((e + g) + 256 * ((f + h) + 256 * (g + 256 * h)))))) := by
  have e1 : y / 65536 = c + 256 * (d + 256 * (e + 256 * (f + 256 * (g + 256 * h)))) := by
    rw [hy, show a + 256 * (b + 256 * (c + 256 * (d + 256 * (e + 256 * (f + 256 * (g + 256 * h)))))) = (a + 256 * b) + 65536 * (c + 256 * (d + 256 * (e + 256 * (f + 256 * (g + 256 * h))))) by omega, Nat.add_mul_div_left _ _ (by decide), Nat.div_eq_of_lt (by omega), Nat.zero_add]
  rw [e1, hy]
  clear e1 hy
  omega
theorem last_four {a b c d e f g h y : Nat} (ha : a ≤ 32) (hb : b ≤ 32) (hc : c ≤ 32) (hd : d ≤ 32)
    (hy : y = a + 256 * (b + 256 * (c + 256 * (d + 256 * (e + 256 * (f + 256 * (g + 256 * h))))))) : y + y / 4294967296 = (a + e) + 256 * ((b + f) + 256 * ((c + g) + 256 * ((d + h) + 256 * (e + 256 * (f + 256 * (g + 256 * h)))))) := by
  have e1 : y / 4294967296 = e + 256 * (f + 256 * (g + 256 * h)) := by
    rw [hy, show a + 256 * (b + 256 * (c + 256 * (d + 256 * (e + 256 * (f + 256 * (g + 256 * h)))))) = (a + 256 * (b + 256 * (c + 256 * d))) + 4294967296 * (e + 256 * (f + 256 * (g + 256 * h))) by omega, Nat.add_mul_div_left _ _ (by decide), Nat.div_eq_of_lt (by omega), Nat.zero_add]
  rw [e1, hy]
  clear e1 hy
  omega
/-- Eight bytes, none greater than eight, are added into the lowest one. -/
theorem last_steps {a b c d e f g h : Nat} (ha : a ≤ 8) (hb : b ≤ 8) (hc : c ≤ 8) (hd : d ≤ 8) (he : e ≤ 8) (hf : f ≤ 8) (hg : g ≤ 8) (hh : h ≤ 8) {y y1 y2 : Nat}
    (hy : y = val 256 [a, b, c, d, e, f, g, h]) (h1 : y1 = y + y / 256) (h2 : y2 = y1 + y1 / 65536) : (y2 + y2 / 4294967296) % 128 = a + b + c + d + e + f + g + h := by
  have e0 : y = a + 256 * (b + 256 * (c + 256 * (d + 256 * (e + 256 * (f + 256 * (g + 256 * h)))))) := by
    rw [hy]
    simp only [val]
    omega
  rw [last_one ha e0] at h1
  rw [last_two (by omega) (by omega) h1] at h2
  rw [last_four (by omega) (by omega) (by omega) (by omega) h2]
  clear h1 h2 e0 hy
  omega
/-- The count, as the library's text reckons it, without what is cut off at 64 bits: nothing is. -/
def cnt (x : Nat) : Nat :=
  let x1 := ((x / 2 ^ 1) &&& mask 1 32) + (x &&& mask 1 32)
  let x2 := ((x1 / 2 ^ 2) &&& mask 2 16) + (x1 &&& mask 2 16)
  let x3 := (x2 / 2 ^ 4 + x2) &&& mask 4 8
  let y1 := x3 + x3 / 256
  let y2 := y1 + y1 / 65536
  (y2 + y2 / 4294967296) % 128
theorem cnt_eq (ds : List Nat) (hl : ds.length = 64) (hd : ∀ d, d ∈ ds → d ≤ 1) : cnt (val (2 ^ 1) ds) = ds.sum := by
  have s1 := step 1 32 ds (by omega) (fun d h => by have := hd d h; omega)
  have p1 := pairs_sum 32 ds (by omega)
  have l1 := pairs_le 32 ds (by omega) hd
  have s2 := step 2 16 (pairs ds) (by omega) (fun d h => by have := l1 d h; omega)
  have p2 := pairs_sum 16 (pairs ds) (by omega)
  have l2 := pairs_le 16 (pairs ds) (by omega) l1
  have a3 := adj_val (B := 2 ^ 4) (by decide) (pairs (pairs ds)) (fun d h => by have := l2 d h; omega)
  have m3 := adj_le (pairs (pairs ds)) l2
  have n3 := adj_len (pairs (pairs ds))
  have v3 := and_evens 4 8 (adj (pairs (pairs ds))) (by omega) (fun d h => by have := m3 d h; omega)
  have w3 := evens_adj 8 (pairs (pairs ds)) (by omega)
  have p3 := pairs_sum 8 (pairs (pairs ds)) (by omega)
  have l3 := pairs_le 8 (pairs (pairs ds)) (by omega) l2
  rw [w3] at v3
  rw [← p1.1, ← p2.1, ← p3.1]
  clear p1 p2 l1 l2 m3 n3 w3 hl hd
  unfold cnt
  rw [s1]
  show ((((val (2 ^ (2 * 1)) (pairs ds) / 2 ^ 2) &&& mask 2 16) + (val (2 ^ (2 * 1)) (pairs ds) &&& mask 2 16)) / 2 ^ 4 + (((val (2 ^ (2 * 1)) (pairs ds) / 2 ^ 2) &&& mask 2 16) + (val (2 ^ (2 * 1)) (pairs ds) &&& mask 2 16)) &&& mask 4 8 |> fun x3 => (x3 + x3 / 256 |> fun y1 => (y1 + y1 / 65536 |> fun y2 => (y2 + y2 / 4294967296) % 128))) = _
  rw [show 2 ^ (2 * 1) = 2 ^ 2 from rfl, s2, show 2 ^ (2 * 2) = 2 ^ 4 from rfl, a3, v3]
  generalize pairs (pairs (pairs ds)) = qs at *
  match qs, p3, l3 with
  | [a, b, c, d, e, f, g, h], _, l3 =>
    have hall : ∀ x, x ∈ [a, b, c, d, e, f, g, h] → x ≤ 8 := fun x hx => by have := l3 x hx; omega
    have := last_steps (hall a (by simp)) (hall b (by simp)) (hall c (by simp)) (hall d (by simp)) (hall e (by simp)) (hall f (by simp)) (hall g (by simp)) (hall h (by simp)) rfl rfl rfl
    refine Eq.trans this ?_
    simp
    omega
end Go.Proofs.YtobnfbnholbfoaaDoor.Pop

namespace Go.Proofs.YtobnfbnholbfoaaDoor.Pop
open Go

theorem val_snoc (B x : Nat) : ∀ ds : List Nat, val B (ds ++ [x]) = val B ds + B ^ ds.length * x
  | [] => by simp [val]
  | d :: ds => by
    show d + B * val B (ds ++ [x]) = d + B * val B ds + B ^ (ds.length + 1) * x
    rw [val_snoc B x ds, Nat.mul_add, ← Nat.mul_assoc, ← Nat.pow_succ', Nat.add_assoc]
/-- A set's bits, the lowest first. -/
def dig (q : Nat → Bool) (k : Nat) : List Nat := (List.range k).map fun a => if q a then 1 else 0
theorem dig_len (q : Nat → Bool) (k : Nat) : (dig q k).length = k := by simp [dig]
theorem dig_succ (q : Nat → Bool) (k : Nat) : dig q (k + 1) = dig q k ++ [if q k then 1 else 0] := by simp [dig, List.range_succ]
theorem dig_val (q : Nat → Bool) : ∀ k, val (2 ^ 1) (dig q k) = bs q k
  | 0 => rfl
  | k + 1 => by
    rw [dig_succ, val_snoc, dig_len, dig_val q k]
    show bs q k + (2 ^ 1) ^ k * _ = 2 ^ k * _ + bs q k
    rw [Nat.add_comm]
theorem dig_sum (q : Nat → Bool) : ∀ k, (dig q k).sum = (lst k q).length
  | 0 => rfl
  | k + 1 => by
    rw [dig_succ, List.sum_append, dig_sum q k]
    unfold lst
    rw [List.range_succ, List.filter_append, List.length_append]
    cases h : q k <;> simp [h]
theorem dig_le (q : Nat → Bool) (k : Nat) : ∀ d, d ∈ dig q k → d ≤ 1 := fun d h => by
  obtain ⟨a, _, rfl⟩ := List.mem_map.1 h
  split <;> omega
theorem bs_wide (p : Nat → Bool) {n : Nat} : ∀ k, bs (fun a => decide (a < n) && p a) (n + k) = bs p n
  | 0 => bs_ext fun a ha => by simp; omega
  | k + 1 => by
    show 2 ^ (n + k) * (if (decide (n + k < n) && p (n + k)) then 1 else 0) + bs _ (n + k) = _
    rw [bs_wide p k, decide_eq_false (by omega)]
    simp
theorem lst_wide (p : Nat → Bool) {n : Nat} : ∀ k, lst (n + k) (fun a => decide (a < n) && p a) = lst n p
  | 0 => List.filter_congr fun a ha => by
    have h1 := List.mem_range.1 ha
    rw [decide_eq_true (show a < n by omega)]
    rfl
  | k + 1 => by
    have h1 := lst_wide p (n := n) k
    unfold lst at h1 ⊢
    rw [← Nat.add_assoc, List.range_succ, List.filter_append, h1]
    simp
    omega
/-- How many things a set has. -/
theorem cnt_bs (p : Nat → Bool) {n : Nat} (hn : n ≤ 60) : cnt (bs p n) = (lst n p).length := by
  have h1 := bs_wide p (n := n) (64 - n)
  have h2 := lst_wide p (n := n) (64 - n)
  rw [show n + (64 - n) = 64 by omega] at h1 h2
  rw [← h1, ← h2, ← dig_val, cnt_eq _ (dig_len _ _) (dig_le _ _), dig_sum]
end Go.Proofs.YtobnfbnholbfoaaDoor.Pop

namespace Go.Proofs.YtobnfbnholbfoaaDoor
open Go Go.RowKit

theorem and_nat (a b : Nat) (ha : a < 18446744073709551616) (hb : b < 18446744073709551616) : bits BinOp.and IntKind.u64 (a : Int) (b : Int) = ((a &&& b : Nat) : Int) := bits_and_u64_nat a b ha hb
theorem and_127 (y : Nat) (hy : y < 9223372036854775808) : bits BinOp.and IntKind.i64 (y : Int) 127 = ((y % 128 : Nat) : Int) := by
  have h1 : (BitVec.ofInt 64 (y : Int) &&& BitVec.ofInt 64 127).toNat = y % 128 := by
    rw [BitVec.toNat_and]
    have e1 : (BitVec.ofInt 64 (y : Int)).toNat = y := by rw [BitVec.toNat_ofInt]; omega
    have e2 : (BitVec.ofInt 64 (127 : Int)).toNat = 2 ^ 7 - 1 := by decide
    rw [e1, e2, Nat.and_two_pow_sub_one_eq_mod]
  show IntKind.i64.wrap ((BitVec.ofInt 64 (y : Int) &&& BitVec.ofInt 64 127).toNat : Int) = _
  rw [h1, IntKind.wrap_i64]
  omega
theorem wrap_nat {z : Int} (y : Nat) (h : z = (y : Int)) (hy : y < 18446744073709551616) : IntKind.u64.wrap z = (y : Int) := by
  rw [h, IntKind.wrap_u64]
  omega
set_option maxRecDepth 100000 in
set_option maxHeartbeats 1000000 in
theorem ones_cnt (x : Nat) (hx : x < 18446744073709551616) (w : World) :
    Calls Tryd.prog 82 #[.int .u64 x] w fun e w' => e = .returned (.int .i64 (Pop.cnt x)) ∧ w' = w := by
  have k1 : Pop.mask 1 32 = 6148914691236517205 := by decide +kernel
  have k2 : Pop.mask 2 16 = 3689348814741910323 := by decide +kernel
  have k3 : Pop.mask 4 8 = 1085102592571150095 := by decide +kernel
  obtain ⟨x1, h1⟩ : ∃ x1, x1 = ((x / 2 ^ 1) &&& Pop.mask 1 32) + (x &&& Pop.mask 1 32) := ⟨_, rfl⟩
  obtain ⟨x2, h2⟩ : ∃ x2, x2 = ((x1 / 2 ^ 2) &&& Pop.mask 2 16) + (x1 &&& Pop.mask 2 16) := ⟨_, rfl⟩
  obtain ⟨x3, h3⟩ : ∃ x3, x3 = (x2 / 2 ^ 4 + x2) &&& Pop.mask 4 8 := ⟨_, rfl⟩
  obtain ⟨y1, h4⟩ : ∃ y1, y1 = x3 + x3 / 256 := ⟨_, rfl⟩
  obtain ⟨y2, h5⟩ : ∃ y2, y2 = y1 + y1 / 65536 := ⟨_, rfl⟩
  obtain ⟨y3, h6⟩ : ∃ y3, y3 = y2 + y2 / 4294967296 := ⟨_, rfl⟩
  have hc : Pop.cnt x = y3 % 128 := by
    unfold Pop.cnt
    rw [h6, h5, h4, h3, h2, h1]
  have b1 : x1 < 18446744073709551616 := by
    have := Nat.and_le_right (n := x / 2 ^ 1) (m := Pop.mask 1 32)
    have := Nat.and_le_right (n := x) (m := Pop.mask 1 32)
    omega
  have b2 : x2 ≤ 7378697629483820646 := by
    have := Nat.and_le_right (n := x1 / 2 ^ 2) (m := Pop.mask 2 16)
    have := Nat.and_le_right (n := x1) (m := Pop.mask 2 16)
    omega
  have b3 : x3 ≤ 1085102592571150095 := by
    have := Nat.and_le_right (n := x2 / 2 ^ 4 + x2) (m := Pop.mask 4 8)
    omega
  have E1 : IntKind.u64.wrap (bits BinOp.and IntKind.u64 ((x : Int) / 2) 6148914691236517205 + bits BinOp.and IntKind.u64 (x : Int) 6148914691236517205) = (x1 : Int) := by
    have a1 := and_nat (x / 2) 6148914691236517205 (by omega) (by decide)
    have a2 := and_nat x 6148914691236517205 hx (by decide)
    rw [Int.natCast_ediv] at a1
    refine wrap_nat x1 ?_ b1
    rw [k1] at h1
    have a1' : bits BinOp.and IntKind.u64 ((x : Int) / 2) 6148914691236517205 = ((x / 2 &&& 6148914691236517205 : Nat) : Int) := a1
    have a2' : bits BinOp.and IntKind.u64 (x : Int) 6148914691236517205 = ((x &&& 6148914691236517205 : Nat) : Int) := a2
    rw [a1', a2', h1, Int.natCast_add, Nat.pow_one]
  have E2 : IntKind.u64.wrap (bits BinOp.and IntKind.u64 ((x1 : Int) / 4) 3689348814741910323 + bits BinOp.and IntKind.u64 (x1 : Int) 3689348814741910323) = (x2 : Int) := by
    have a1 := and_nat (x1 / 4) 3689348814741910323 (by omega) (by decide)
    have a2 := and_nat x1 3689348814741910323 b1 (by decide)
    rw [Int.natCast_ediv] at a1
    refine wrap_nat x2 ?_ (by omega)
    rw [k2] at h2
    have a1' : bits BinOp.and IntKind.u64 ((x1 : Int) / 4) 3689348814741910323 = ((x1 / 4 &&& 3689348814741910323 : Nat) : Int) := a1
    have a2' : bits BinOp.and IntKind.u64 (x1 : Int) 3689348814741910323 = ((x1 &&& 3689348814741910323 : Nat) : Int) := a2
    rw [a1', a2', h2, Int.natCast_add]
  have E3 : bits BinOp.and IntKind.u64 (IntKind.u64.wrap ((x2 : Int) / 16 + (x2 : Int))) 1085102592571150095 = (x3 : Int) := by
    rw [wrap_nat (x2 / 16 + x2) (by rw [Int.natCast_add, Int.natCast_ediv]; rfl) (by omega)]
    rw [k3] at h3
    rw [h3]
    exact and_nat (x2 / 16 + x2) 1085102592571150095 (by omega) (by decide)
  have E4 : IntKind.u64.wrap ((x3 : Int) + (x3 : Int) / 256) = (y1 : Int) := wrap_nat y1 (by omega) (by omega)
  have E5 : IntKind.u64.wrap ((y1 : Int) + (y1 : Int) / 65536) = (y2 : Int) := wrap_nat y2 (by omega) (by omega)
  have E6 : IntKind.u64.wrap ((y2 : Int) + (y2 : Int) / 4294967296) = (y3 : Int) := wrap_nat y3 (by omega) (by omega)
  have b6 : y3 < 9223372036854775808 := by omega
  have E7 : IntKind.i64.wrap (y3 : Int) = (y3 : Int) := by rw [IntKind.wrap_i64]; omega
  have E8 := and_127 y3 b6
  rw [hc]
  clear h1 h2 h3 h4 h5 h6 k1 k2 k3 hc b1 b2 b3 b6
  go_enter Tryd.func82, Tryd.ntmps82
  go_wp2
  go_ret
  exact ⟨rfl, rfl⟩
/-- How many things a set has. -/
theorem len_cnt (n : Nat) (p : Nat → Bool) (hn : n ≤ 60) (w : World) :
    Calls Tryd.prog 67 #[.int .u64 (bs p n)] w fun e w' => e = .returned (.int .i64 (lst n p).length) ∧ w' = w := by
  go_enter Tryd.func67, Tryd.ntmps67
  go_wp2_with fail
  refine (ones_cnt (bs p n) (bs_64 hn) w).mono ?_
  rintro e w1 ⟨rfl, rfl⟩
  rw [Pop.cnt_bs p hn]
  go_wp2
  go_ret
  exact ⟨rfl, rfl⟩
end Go.Proofs.YtobnfbnholbfoaaDoor

namespace Go.Proofs.YtobnfbnholbfoaaDoor
open Go Go.RowKit

theorem lst_same {n : Nat} {p q : Nat → Bool} (h : ∀ x, x < n → (p x = true ↔ q x = true)) : lst n p = lst n q := lst_congr fun x hx => by
  have := h x hx
  cases h1 : p x <;> cases h2 : q x <;> simp_all
theorem lst_less {n : Nat} {p q : Nat → Bool} (h : ∀ x, x < n → p x = true → q x = true) : (lst n p).length ≤ (lst n q).length ∧ ((∃ x, x < n ∧ q x = true ∧ ¬ p x = true) → (lst n p).length < (lst n q).length) := by
  have e1 : lst n p = (lst n q).filter p := by
    unfold lst
    rw [List.filter_filter]
    refine List.filter_congr fun x hx => ?_
    cases hp : p x with
    | false => simp
    | true => simp [h x (List.mem_range.1 hx) hp]
  rw [e1]
  refine ⟨List.length_filter_le _ _, ?_⟩
  rintro ⟨x, hx, h1, h2⟩
  exact List.length_filter_lt_length_iff_exists.2 ⟨x, mem_lst.2 ⟨hx, h1⟩, h2⟩
/-- A subgroup of a power of p things with no greater one by a thing more. -/
structure Grown (n : Nat) (zs : List Int) (e p : Nat) (s : Nat → Bool) : Prop where
  sub : subT n zs e s = true
  pow : isPw (lst n s).length p
  top : ∀ a (q : Nat → Bool), a < n → (∀ x, x < n → (q x = true ↔ Mkd n zs e (fun y => s y || decide (y = a)) x)) → bs q n = bs s n ∨ ¬ isPw (lst n q).length p
theorem one_lst {n e : Nat} (he : e < n) : lst n (fun a => decide (a = e)) = [e] := by
  have hnd : (lst n (fun a => decide (a = e))).Nodup := List.nodup_range.sublist List.filter_sublist
  have hm : ∀ x, x ∈ lst n (fun a => decide (a = e)) ↔ x ∈ [e] := fun x => by
    rw [mem_lst]
    simp
    intro h9
    omega
  exact (List.perm_singleton.1 ((List.perm_ext_iff_of_nodup hnd (by simp)).2 hm))
theorem one_sub {n e : Nat} {zs : List Int} (g : IsGrp n zs e) : subT n zs e (fun a => decide (a = e)) = true := by
  rw [subT_iff]
  refine ⟨by simp, fun a b _ _ h1 h2 => ?_⟩
  have h1 := of_decide_eq_true h1
  have h2 := of_decide_eq_true h2
  rw [h1, h2]
  exact decide_eq_true (g.left e g.elt)
theorem mkd_ex' (n : Nat) (zs : List Int) (e : Nat) (q : Nat → Bool) : ∃ p : Nat → Bool, ∀ a, a < n → (p a = true ↔ Mkd n zs e q a) := by
  obtain ⟨p, hp⟩ := Fin.test_of (Mkd n zs e q)
  exact ⟨p, fun a _ => hp a⟩
end Go.Proofs.YtobnfbnholbfoaaDoor

namespace Go.Proofs.YtobnfbnholbfoaaDoor
open Go Go.RowKit Go.Maps

set_option maxRecDepth 100000 in
set_option maxHeartbeats 2000000 in
theorem conjd_ok (n : Nat) (v u : Value) (zs : List Int) (e a : Nat) (q : Nat → Bool) (w : World) (hG : GA w n v e u zs) (hT : Tab w) (ha : a < n) :
    Calls Tryd.prog 72 #[.agg #[.int .i64 n, v, .int .i64 e, u], .int .u64 (bs q n), .int .i64 a] w fun x w' => x = .returned (.int .u64 (bs (cjq n zs e q a) n)) ∧ Below w.heap.size w w' := by
  have hn := hG.le
  have hg := hG.grp
  have hB0 : Below w.heap.size w (w.alloc (.cells #[.int .i64 n, v, .int .i64 e, u] 63)) := balloc w _
  have hX0 := Box4.new w n e v u
  obtain ⟨w0, hw0⟩ : ∃ w0, w0 = w.alloc (.cells #[.int .i64 n, v, .int .i64 e, u] 63) := ⟨_, rfl⟩
  rw [← hw0] at hB0 hX0
  have hT0 := hT.below hB0
  have HL := hide (list_ok n q w0 hn hT0)
  have HM := hide (fun x (h : x ∈ lst n q) => (mem_lst.1 h).1)
  have hll := lst_len n q
  show Calls Tryd.prog 72 _ w fun x w' => x = .returned (.int .u64 (bs (cjl n zs e (lst n q) a) n)) ∧ Below w.heap.size w w'
  generalize lst n q = xs at *
  go_enter Tryd.func72, Tryd.ntmps72
  go_wp2_with fail
  rw [← hw0]
  clear hw0
  refine HL.out.mono ?_
  rintro x w1 ⟨r, rfl, hr, hb1⟩
  obtain ⟨ra, rc, pb, po, rfl, hr, hp, hq3, hq4, _⟩ := hr
  rw [li_len] at hq3 ⊢
  have hB1 := bcat2 hB0 hb1
  have HR := hide hr
  have HLL := hide (li_len xs)
  clear hr hq4
  go_wp2
  go_loopw [7, 13] (fun s i wr => ∃ k : Nat, k ≤ xs.length ∧ i = .int .i64 k ∧ s = .int .u64 (bs (cjl n zs e (xs.take k) a) n) ∧ Below w1.heap.size w1 wr) (fun _ i _ => xs.length - (intOf i).toNat)
  case atStart => exact ⟨0, Nat.zero_le _, rfl, by rw [List.take_zero, show bs (cjl n zs e [] a) n = 0 from bs_none n]; rfl, Below.refl _ _⟩
  case round =>
    obtain ⟨k, hk, rfl, rfl, hB⟩ := hrel
    by_cases hlt : k < xs.length
    · have hck := (HR.out.below hB hp).cell k (by rw [HLL.out]; exact hlt)
      rw [li_get hlt] at hck
      obtain rfl := HR.out.at_ (by rw [HLL.out]; omega)
      obtain ⟨x, hxe⟩ : ∃ x, xs[k] = x := ⟨_, rfl⟩
      have hxn : x < n := by rw [← hxe]; exact HM.out _ (List.getElem_mem hlt)
      have hsn : xs.take (k + 1) = xs.take k ++ [x] := by rw [List.take_succ_eq_append_getElem hlt, hxe]
      rw [hxe] at hck
      have hGr := (hG.below hB1).below hB
      have hct : Fin.cj (tm n zs) (iv n zs e) x a < n := List.mem_range.1 (Fin.cj_mem (grp_fg hg) (grp_iv hg) (List.mem_range.2 hxn) (List.mem_range.2 ha))
      have hor := bs_put (n := n) (t := Fin.cj (tm n zs) (iv n zs e) x a) (p := cjl n zs e (xs.take k) a) (q := cjl n zs e (xs.take (k + 1)) a) hn (fun z => by
        unfold cjl
        rw [hsn, List.any_append]
        simp only [List.any_cons, List.any_nil, Bool.or_false]
        congr 1
        rw [Bool.eq_iff_iff, decide_eq_true_eq, decide_eq_true_eq]
        exact eq_comm)
      have HCM := hide (conj_ok n v u zs e x a wr hGr hxn ha)
      have HOF := hide (fun W b (h : W.cell? ⟨b, 0, none⟩ = some (.int .i64 (Fin.cj (tm n zs) (iv n zs e) x a))) => of_one n b (Fin.cj (tm n zs) (iv n zs e) x a) W hn hct h)
      obtain ⟨g0, g1, g2, g3⟩ := (hX0.below (bcat2 hb1 hB)).cells
      generalize Fin.cj (tm n zs) (iv n zs e) x a = t at *
      generalize bs (fun z => decide (z = t)) n = T9 at *
      clear hsn hxe
      go_wp2_with fail
      refine HCM.out.mono ?_
      rintro x9 w7 ⟨rfl, hb7⟩
      have hB8 := bcat2 hB (bcat2 hb7 (balloc w7 (.cells #[.int .i64 t] 3)))
      clear g0 g1 g2 g3
      go_wp2_with fail
      refine (HOF.out _ _ (cell1 _ _ _)).mono ?_
      rintro x9 w8 ⟨rfl, rfl⟩
      go_wp2
      go_roundw
      case rel => exact ⟨k + 1, by omega, by go_num, rfl, hB8⟩
      case measure => simp [intOf]; omega
    · have hkn : k = xs.length := by omega
      subst hkn
      rw [List.take_length]
      go_wp2
      go_ret
      exact ⟨rfl, bcat2 hB1 hB⟩
theorem und58 : Tryd.prog.underlying 76 = some (.int .u64) := by kernel_rfl
theorem key58 : Keyed Tryd.prog 76 := int_keyed und58
/-- A map whose keys are the conjugates of s by the things below k. -/
def Cjs (W : World) (n : Nat) (zs : List Int) (e M k : Nat) (s : Nat → Bool) : Prop :=
  ∃ D : DataW Unit, W.ownsMap Tryd.prog 76 unitElem M k D ∧ ∀ t : Nat, Maps.has D (.int .u64 t) = true ↔ ∃ a, a < k ∧ t = bs (cjq n zs e s a) n
theorem below_grown' {w w' : World} (h : Below w.heap.size w w') (row : Option Nat) : w.grownBy w' row := ⟨h.os, h.tape, h.output, h.size, fun b hb _ => h.block b hb⟩
theorem Cjs.below {W W' : World} {n e M k : Nat} {zs : List Int} {s : Nat → Bool} (h : Cjs W n zs e M k s) (hb : Below W.heap.size W W') : Cjs W' n zs e M k s := by
  obtain ⟨D, h1, h2⟩ := h
  exact ⟨D, h1.kept (below_grown' hb none) (by simp), h2⟩
end Go.Proofs.YtobnfbnholbfoaaDoor

namespace Go.Proofs.YtobnfbnholbfoaaDoor
open Go Go.RowKit

theorem one_lsx : ∀ (n a : Nat), a < n → lst n (fun y => decide (y = a)) = [a]
  | 0, a, h => by omega
  | n + 1, a, h => by
    unfold lst
    rw [List.range_succ, List.filter_append]
    by_cases e : a = n
    · subst e
      have : (List.range a).filter (fun y => decide (y = a)) = [] := List.filter_eq_nil_iff.2 fun y hy => by
        have := List.mem_range.1 hy
        simp; omega
      rw [this]
      simp
    · have h9 := one_lsx n a (by omega)
      unfold lst at h9
      rw [h9]
      have : ¬ n = a := fun e9 => e e9.symm
      simp [this]
theorem one_fault {n a : Nat} (h : a < n) : lfault n [(a : Int)] = (0, 0) := by
  have := lst_fault n (fun y => decide (y = a))
  rw [one_lsx n a h] at this
  exact this
theorem lst_le (n : Nat) (p : Nat → Bool) : (lst n p).length ≤ n := by unfold lst; exact Nat.le_trans (List.length_filter_le _ _) (by simp)
/-- Has each thing but the one all, by a number? -/
def smq (n e : Nat) (L : Nat → Nat) : Bool := decide (1 < n) && (List.range n).all fun a => decide (a = e) || !decide (L a < n)
end Go.Proofs.YtobnfbnholbfoaaDoor

namespace Go.Proofs.YtobnfbnholbfoaaDoor
open Go Go.RowKit Go.Maps

theorem slF_blk {w : World} {g n B : Nat} {zs : List Int} (h : Blk w g 3 (zs.map (Value.int .i64))) (hn : n = zs.length) (hl : zs.length ≤ 1000000) (hB : B ≤ g) : SlF B w (.slice (some ⟨g, 0, none⟩) n n) zs := by
  subst hn
  exact ⟨some ⟨g, 0, none⟩, zs.length, g, 0, rfl, ⟨fun _ => rfl, fun j hj => by rw [Nat.zero_add]; exact h.int hj⟩, h.lt, Nat.le_refl _, by unfold maxLen; omega, hB⟩
theorem slF_row {w : World} {base B : Nat} {v : Value} {zs : List Int} (h : Row w base v zs) (hB : B ≤ base) (h0 : 0 < zs.length) : SlF B w v zs := by
  rcases h.2 with ⟨_, hz⟩ | ⟨g, cap, cur, rfl, hgb, hh, h1, h2, _⟩
  · omega
  · refine ⟨some ⟨g, 0, none⟩, cap, g, 0, rfl, ⟨fun _ => rfl, fun j hj => ?_⟩, (Array.getElem?_eq_some_iff.1 hh).1, h1, h2, by omega⟩
    have h3 := h.cells (g := g) rfl j (.int .i64 (zs[j]?.getD 0)) (by simp [hj])
    rw [show (⟨g, 0, none⟩ : Addr).add j = ⟨g, j, none⟩ by unfold Addr.add; split <;> simp_all] at h3
    rw [Nat.zero_add]; exact h3
theorem slF_keep {B : Nat} {w w' : World} {v : Value} {zs : List Int} (h : SlF B w v zs) (hs : w.heap.size ≤ w'.heap.size) (hk : ∀ g, B ≤ g → g < w.heap.size → w'.heap[g]? = w.heap[g]?) : Sl w' v zs := by
  obtain ⟨a, cap, pb, po, rfl, h1, h2, h3, h4, h5⟩ := h
  exact ⟨a, cap, pb, po, rfl, h1.of_eq (hk pb h5 h2), Nat.lt_of_lt_of_le h2 hs, h3, h4⟩
end Go.Proofs.YtobnfbnholbfoaaDoor

namespace Go.Proofs.YtobnfbnholbfoaaDoor
open Go Go.RowKit

theorem all_lst (n : Nat) : lst n (fun _ => true) = List.range n := by unfold lst; simp
theorem all_pset (n : Nat) : lst n (pset (li (List.range n))) = List.range n := by
  have := lst_pset n (fun _ => true)
  rwa [all_lst] at this
section
variable {n e : Nat} {zs : List Int} {p : Nat → Bool}
theorem der_sub (g : IsGrp n zs e) (hp : ∀ a, a < n → (p a = true ↔ Mkd n zs e (cmq n zs e (List.range n) (List.range n)) a)) : subT n zs e (pset (li (lst n p))) = true :=
  sg_test g (Fin.Gen.sg _) hp
theorem der_nrm (g : IsGrp n zs e) (hp : ∀ a, a < n → (p a = true ↔ Mkd n zs e (cmq n zs e (List.range n) (List.range n)) a)) : nrmq n zs e (pset (li (lst n p))) = true :=
  nm_test g (Fin.der_nm (grp_fg g) (grp_iv g)) (fun a ha => (hp a ha).trans (cms_iff a))
/-- The quotient by the commutators commutes. -/
theorem der_com (g : IsGrp n zs e) (hp : ∀ a, a < n → (p a = true ↔ Mkd n zs e (cmq n zs e (List.range n) (List.range n)) a)) :
    comB (fsts n (rgtq n zs (lst n (pset (li (lst n p))))) n).length (mkT (fsts n (rgtq n zs (lst n (pset (li (lst n p))))) n).length (quoF n zs (rgtq n zs (lst n (pset (li (lst n p))))))) = true := by
  have hs := der_sub g hp
  have hN := der_nrm g hp
  have PP := rgt_parts g hs
  rw [comB_iff]
  intro i j hi hj
  rw [tm_mk hi hj, tm_mk hj hi]
  have ha := fst_lt hi
  have hb := fst_lt hj
  have ea := prts_num_at PP hi
  have eb := prts_num_at PP hj
  generalize (fsts n (rgtq n zs (lst n (pset (li (lst n p))))) n)[i] = a at *
  generalize (fsts n (rgtq n zs (lst n (pset (li (lst n p))))) n)[j] = b at *
  rw [← ea, ← eb, quo_hom g hs hN ha hb, quo_hom g hs hN hb ha]
  have hab := tm_lt g.tab ha hb
  have hba := tm_lt g.tab hb ha
  have hc := List.mem_range.1 (Fin.cm_mem (grp_fg g) (grp_iv g) (List.mem_range.2 ha) (List.mem_range.2 hb))
  have hce := Fin.cm_eq (grp_fg g) (grp_iv g) (List.mem_range.2 ha) (List.mem_range.2 hb)
  have hcp : Fin.cm (tm n zs) (iv n zs e) a b ∈ lst n (pset (li (lst n p))) := by
    rw [lst_pset, mem_lst]
    refine ⟨hc, (hp _ hc).2 ((cms_iff _).2 (Fin.Gen.base (List.mem_range.2 hc) ⟨a, b, List.mem_range.2 ha, List.mem_range.2 hb, rfl⟩))⟩
  generalize Fin.cm (tm n zs) (iv n zs e) a b = c at *
  have h1 : rgtq n zs (lst n (pset (li (lst n p)))) e c = true := mem_rgt.2 ⟨c, hcp, g.right c hc⟩
  have h2 := rgt_both g hs hN hba g.elt hba hc (PP.refl _ hba) h1
  rw [g.right _ hba, hce] at h2
  exact ((prts_num_eq PP hba hab).2 h2).symm
end
end Go.Proofs.YtobnfbnholbfoaaDoor
