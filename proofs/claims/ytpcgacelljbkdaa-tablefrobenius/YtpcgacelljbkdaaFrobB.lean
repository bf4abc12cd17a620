/- Frobenius' theorem: centralisers, a quotient by what commutes with all, conjugates; how many things are, n times, the one. No condition. -/
import Derived.Test.YtpcgacelljbkdaaFrobA
namespace Go.Proofs.Ytpcgacelljbkdaa.Fin
variable {l : List Nat} {m : Nat → Nat → Nat} {e : Nat}

/-- What commutes with a thing. -/
def cent (l : List Nat) (m : Nat → Nat → Nat) (y : Nat) : List Nat := l.filter fun c => decide (m c y = m y c)
theorem cent_iff {y c : Nat} : c ∈ cent l m y ↔ c ∈ l ∧ m c y = m y c := by
  unfold cent; rw [List.mem_filter, decide_eq_true_eq]
theorem cent_fg (h : Fg l m e) {y : Nat} (hy : y ∈ l) : Fg (cent l m y) m e := by
  refine sub_fg h (h.nd.filter _) (fun x hx => (cent_iff.1 hx).1) (cent_iff.2 ⟨h.one, by rw [h.left y hy, h.right y hy]⟩) (fun a b ha hb => ?_)
  obtain ⟨ha1, ha2⟩ := cent_iff.1 ha
  obtain ⟨hb1, hb2⟩ := cent_iff.1 hb
  exact cent_iff.2 ⟨h.cl _ _ ha1 hb1, by rw [h.ass _ _ _ ha1 hb1 hy, hb2, ← h.ass _ _ _ ha1 hy hb1, ha2, h.ass _ _ _ hy ha1 hb1]⟩

/-- The coset of the powers of y. -/
def inco (m : Nat → Nat → Nat) (e y q x c : Nat) : Bool := (List.range q).any fun i => decide (m x (po m e y i) = c)
def rep (l : List Nat) (m : Nat → Nat → Nat) (e y q x : Nat) : Nat := ((l.filter fun c => inco m e y q x c).head?).getD 0
structure Cen (l : List Nat) (m : Nat → Nat → Nat) (e y q : Nat) : Prop where
  fg : Fg l m e
  hy : y ∈ l
  com : ∀ c, c ∈ l → m c y = m y c
  q0 : 0 < q
  ho : ∀ i, po m e y i = e ↔ q ∣ i
variable {y q : Nat}
theorem inco_iff (H : Cen l m e y q) {x c : Nat} : inco m e y q x c = true ↔ ∃ i, m x (po m e y i) = c := by
  unfold inco
  simp only [List.any_eq_true, List.mem_range, decide_eq_true_eq]
  constructor
  · rintro ⟨i, _, hi⟩; exact ⟨i, hi⟩
  · rintro ⟨i, hi⟩
    refine ⟨i % q, Nat.mod_lt _ H.q0, ?_⟩
    rw [← hi]
    have h1 : po m e y i = po m e y (i % q + q * (i / q)) := by congr 1; have := Nat.div_add_mod i q; omega
    rw [h1, po_off H.fg H.hy ((H.ho q).2 ⟨1, by simp⟩)]
theorem inco_refl (H : Cen l m e y q) {x : Nat} (hx : x ∈ l) : inco m e y q x x = true := (inco_iff H).2 ⟨0, H.fg.right x hx⟩
theorem inco_symm (H : Cen l m e y q) {x c : Nat} (hx : x ∈ l) (h : inco m e y q x c = true) : inco m e y q c x = true := by
  obtain ⟨i, hi⟩ := (inco_iff H).1 h
  have hq := H.q0
  refine (inco_iff H).2 ⟨q * i - i, ?_⟩
  have hle : i ≤ q * i := Nat.le_mul_of_pos_left i hq
  rw [← hi, H.fg.ass _ _ _ hx (po_mem H.fg H.hy _) (po_mem H.fg H.hy _), ← po_add H.fg H.hy, show i + (q * i - i) = q * i by omega, (H.ho _).2 ⟨i, rfl⟩, H.fg.right x hx]
theorem inco_trans (H : Cen l m e y q) {x c d : Nat} (hx : x ∈ l) (h : inco m e y q x c = true) (k : inco m e y q c d = true) : inco m e y q x d = true := by
  obtain ⟨i, hi⟩ := (inco_iff H).1 h
  obtain ⟨j, hj⟩ := (inco_iff H).1 k
  exact (inco_iff H).2 ⟨i + j, by rw [po_add H.fg H.hy, ← H.fg.ass _ _ _ hx (po_mem H.fg H.hy _) (po_mem H.fg H.hy _), hi, hj]⟩
theorem rep_spec (H : Cen l m e y q) {x : Nat} (hx : x ∈ l) : rep l m e y q x ∈ l ∧ inco m e y q x (rep l m e y q x) = true := by
  have hm : x ∈ l.filter fun c => inco m e y q x c := List.mem_filter.2 ⟨hx, inco_refl H hx⟩
  unfold rep
  cases hf : l.filter fun c => inco m e y q x c with
  | nil => rw [hf] at hm; cases hm
  | cons c t =>
    have : c ∈ l.filter fun c => inco m e y q x c := by rw [hf]; simp
    obtain ⟨h1, h2⟩ := List.mem_filter.1 this
    exact ⟨h1, h2⟩
theorem rep_eq (H : Cen l m e y q) {x c : Nat} (hx : x ∈ l) (hc : c ∈ l) (h : inco m e y q x c = true) : rep l m e y q x = rep l m e y q c := by
  unfold rep
  rw [filter_eq (q := fun d => inco m e y q c d)]
  intro d _
  rw [Bool.eq_iff_iff]
  exact ⟨fun k => inco_trans H hc (inco_symm H hx h) k, fun k => inco_trans H hx h k⟩
theorem rep_iff (H : Cen l m e y q) {x c : Nat} (hx : x ∈ l) (hc : c ∈ l) : rep l m e y q x = rep l m e y q c ↔ inco m e y q x c = true := by
  refine ⟨fun h => ?_, rep_eq H hx hc⟩
  have h1 := (rep_spec H hx).2
  have h2 := (rep_spec H hc).2
  rw [h] at h1
  exact inco_trans H hx h1 (inco_symm H hc h2)
theorem rep_rep (H : Cen l m e y q) {x : Nat} (hx : x ∈ l) : rep l m e y q (rep l m e y q x) = rep l m e y q x := (rep_eq H hx (rep_spec H hx).1 (rep_spec H hx).2).symm
theorem com_pow (H : Cen l m e y q) {c : Nat} (hc : c ∈ l) (i : Nat) : m c (po m e y i) = m (po m e y i) c := (po_com H.fg H.hy hc (H.com c hc).symm i).symm
theorem rep_mul (H : Cen l m e y q) {a b : Nat} (ha : a ∈ l) (hb : b ∈ l) : rep l m e y q (m (rep l m e y q a) (rep l m e y q b)) = rep l m e y q (m a b) := by
  obtain ⟨ra, ia⟩ := rep_spec H ha
  obtain ⟨rb, ib⟩ := rep_spec H hb
  obtain ⟨i, hi⟩ := (inco_iff H).1 ia
  obtain ⟨j, hj⟩ := (inco_iff H).1 ib
  have pi := po_mem H.fg H.hy i
  have pj := po_mem H.fg H.hy j
  refine (rep_eq H (H.fg.cl _ _ ha hb) (H.fg.cl _ _ ra rb) ((inco_iff H).2 ⟨i + j, ?_⟩)).symm
  rw [← hi, ← hj, po_add H.fg H.hy, H.fg.ass _ _ _ ha hb (H.fg.cl _ _ pi pj), ← H.fg.ass _ _ _ hb pi pj, com_pow H hb i, H.fg.ass _ _ _ pi hb pj, ← H.fg.ass _ _ _ ha pi (H.fg.cl _ _ hb pj)]

/-- The quotient. -/
def quo (l : List Nat) (m : Nat → Nat → Nat) (e y q : Nat) : List Nat := l.filter fun x => decide (rep l m e y q x = x)
def mq (l : List Nat) (m : Nat → Nat → Nat) (e y q : Nat) (a b : Nat) : Nat := rep l m e y q (m a b)
theorem quo_iff {x : Nat} : x ∈ quo l m e y q ↔ x ∈ l ∧ rep l m e y q x = x := by unfold quo; rw [List.mem_filter, decide_eq_true_eq]
theorem rep_quo (H : Cen l m e y q) {x : Nat} (hx : x ∈ l) : rep l m e y q x ∈ quo l m e y q := quo_iff.2 ⟨(rep_spec H hx).1, rep_rep H hx⟩
theorem quo_fg (H : Cen l m e y q) : Fg (quo l m e y q) (mq l m e y q) (rep l m e y q e) := by
  refine ⟨H.fg.nd.filter _, rep_quo H H.fg.one, fun a b ha hb => ?_, fun a b c ha hb hc => ?_, fun a ha => ?_, fun a ha => ?_, fun a ha => ?_⟩
  · exact rep_quo H (H.fg.cl _ _ (quo_iff.1 ha).1 (quo_iff.1 hb).1)
  · obtain ⟨ha, ea⟩ := quo_iff.1 ha
    obtain ⟨hb, eb⟩ := quo_iff.1 hb
    obtain ⟨hc, ec⟩ := quo_iff.1 hc
    have h1 := rep_mul H (H.fg.cl _ _ ha hb) hc
    have h2 := rep_mul H ha (H.fg.cl _ _ hb hc)
    rw [ec] at h1
    rw [ea] at h2
    unfold mq
    rw [h1, h2, H.fg.ass _ _ _ ha hb hc]
  · obtain ⟨ha, ea⟩ := quo_iff.1 ha
    have h1 := rep_mul H H.fg.one ha
    rw [ea, H.fg.left a ha, ea] at h1
    exact h1
  · obtain ⟨ha, ea⟩ := quo_iff.1 ha
    have h1 := rep_mul H ha H.fg.one
    rw [ea, H.fg.right a ha, ea] at h1
    exact h1
  · obtain ⟨ha, ea⟩ := quo_iff.1 ha
    obtain ⟨b, hb, h1, h2⟩ := H.fg.inv a ha
    refine ⟨rep l m e y q b, rep_quo H hb, ?_, ?_⟩
    · have := rep_mul H ha hb
      rw [ea, h1] at this
      exact this
    · have := rep_mul H hb ha
      rw [ea, h2] at this
      exact this
theorem po_quo (H : Cen l m e y q) {x : Nat} (hx : x ∈ l) : ∀ k, po (mq l m e y q) (rep l m e y q e) (rep l m e y q x) k = rep l m e y q (po m e x k)
  | 0 => rfl
  | k + 1 => by
    show mq l m e y q (po (mq l m e y q) (rep l m e y q e) (rep l m e y q x) k) (rep l m e y q x) = _
    rw [po_quo H hx k]
    exact rep_mul H (po_mem H.fg hx k) hx
theorem quo_len (H : Cen l m e y q) : l.length = (quo l m e y q).length * q := by
  refine fib_len (rep l m e y q) q _ _ (H.fg.nd.filter _) (fun x hx => rep_quo H hx) (fun k hk => ?_)
  obtain ⟨hk1, hk2⟩ := quo_iff.1 hk
  have := bij_len (l1 := List.range q) (l2 := l.filter fun x => decide (rep l m e y q x = k)) (fun i => m k (po m e y i)) List.nodup_range (H.fg.nd.filter _) (fun i _ => by
      have hm := H.fg.cl _ _ hk1 (po_mem H.fg H.hy i)
      refine List.mem_filter.2 ⟨hm, ?_⟩
      rw [decide_eq_true_eq, ← rep_eq H hk1 hm ((inco_iff H).2 ⟨i, rfl⟩), hk2]) (fun i j hi hj hij => by
      rw [List.mem_range] at hi hj
      have h1 := H.fg.can hk1 (po_mem H.fg H.hy i) (po_mem H.fg H.hy j) hij
      have key : ∀ i j, i < q → j < q → i ≤ j → po m e y i = po m e y j → i = j := fun i j hi hj hle he => by
        have h1 := (H.ho _).1 (po_back H.fg H.hy hle he)
        rcases Nat.eq_zero_or_pos (j - i) with h0 | h0
        · omega
        · have := Nat.le_of_dvd h0 h1
          omega
      rcases Nat.le_total i j with hl | hl
      · exact key i j hi hj hl h1
      · exact (key j i hj hi hl h1.symm).symm) (fun x hx => by
      obtain ⟨hx1, hx2⟩ := List.mem_filter.1 hx
      rw [decide_eq_true_eq] at hx2
      have h3 := (rep_iff H hk1 hx1).1 (by rw [hk2, hx2])
      unfold inco at h3
      simp only [List.any_eq_true, decide_eq_true_eq] at h3
      exact h3)
  rw [List.length_range] at this
  exact this.symm
theorem quo_cnt (H : Cen l m e y q) {s : Nat} (hs : Nat.Coprime s q) : cnt l m e s = cnt (quo l m e y q) (mq l m e y q) (rep l m e y q e) s := by
  unfold cnt
  refine bij_len (rep l m e y q) (H.fg.nd.filter _) ((H.fg.nd.filter _).filter _) (fun z hz => ?_) (fun z w hz hw hzw => ?_) (fun x hx => ?_)
  · obtain ⟨hz1, hz2⟩ := List.mem_filter.1 hz
    rw [decide_eq_true_eq] at hz2
    exact List.mem_filter.2 ⟨rep_quo H hz1, by rw [decide_eq_true_eq, po_quo H hz1, hz2]⟩
  · obtain ⟨hz1, hz2⟩ := List.mem_filter.1 hz
    obtain ⟨hw1, hw2⟩ := List.mem_filter.1 hw
    rw [decide_eq_true_eq] at hz2 hw2
    obtain ⟨i, hi⟩ := (inco_iff H).1 ((rep_iff H hz1 hw1).1 hzw)
    have pi := po_mem H.fg H.hy i
    rw [← hi, po_prod H.fg hz1 pi (com_pow H hz1 i), hz2, po_mul H.fg H.hy, H.fg.left _ (po_mem H.fg H.hy _), H.ho] at hw2
    have h3 : q ∣ i := Nat.Coprime.dvd_of_dvd_mul_right hs.symm hw2
    rw [← hi, (H.ho i).2 h3, H.fg.right z hz1]
  · obtain ⟨hx1, hx2⟩ := List.mem_filter.1 hx
    obtain ⟨hx3, hx4⟩ := quo_iff.1 hx1
    rw [decide_eq_true_eq] at hx2
    have h5 := po_quo H hx3 s
    rw [hx4, hx2] at h5
    obtain ⟨j, hj⟩ := (inco_iff H).1 ((rep_iff H H.fg.one (po_mem H.fg hx3 s)).1 h5)
    rw [H.fg.left _ (po_mem H.fg H.hy j)] at hj
    obtain ⟨i, _, hi⟩ := inv_mod H.q0 hs (q - j % q)
    have pi := po_mem H.fg H.hy i
    refine ⟨m x (po m e y i), List.mem_filter.2 ⟨H.fg.cl _ _ hx3 pi, ?_⟩, ?_⟩
    · rw [decide_eq_true_eq, po_prod H.fg hx3 pi (com_pow H hx3 i), ← hj, po_mul H.fg H.hy, ← po_add H.fg H.hy, H.ho]
      apply Nat.dvd_of_mod_eq_zero
      rw [Nat.mul_comm i s, Nat.add_mod, hi, ← Nat.add_mod]
      have h3 := Nat.div_add_mod j q
      have h4 := Nat.mod_lt j H.q0
      have : j + (q - j % q) = q * (j / q + 1) := by rw [Nat.mul_add, Nat.mul_one]; omega
      rw [this, Nat.mul_mod_right]
    · rw [← rep_eq H hx3 (H.fg.cl _ _ hx3 pi) ((inco_iff H).2 ⟨i, rfl⟩), hx4]
end Go.Proofs.Ytpcgacelljbkdaa.Fin
