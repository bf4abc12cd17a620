/- What slices.SortFunc answers with All's closure. -/
import Derived.Test.YtelglfegpfhbpaaDoorSt5
namespace Go.Proofs.YtelglfegpfhbpaaDoor
open Go Go.RowKit

theorem ent77 (args : Array Value) (w : World) : (callFunc 77 args).run Tryd.prog w = .ok (.enter 77 args) w := enters_of Tryd.func77 (by kernel_rfl) rfl args w
/-- The lists, as they are sorted. -/
def srt (ms : List (List Int)) : Prop := ∀ i j, i < j → j < ms.length → ¬ cmpN (ms[j]?.getD []) (ms[i]?.getD []) < 0
theorem sort_ok (B g cap : Nat) (vs : List Value) (ls : List (List Int)) (w : World) (hrow : w.ownsRow B 22 1 (.slice (some ⟨g, 0, none⟩) vs.length cap) vs.length vs) (hls : Lsts w B (.slice (some ⟨g, 0, none⟩) vs.length cap) vs ls) (h60 : ∀ l, l ∈ ls → l.length ≤ 60) (hlen : vs.length < 4611686018427387904) (hpos : 0 < vs.length) :
    Calls Tryd.prog 76 #[.slice (some ⟨g, 0, none⟩) vs.length cap, .func (.func 77) #[] #[]] w fun e w' => e = .returned (.tuple #[]) ∧ Below B w w' ∧ ∃ ms : List (List Int), ms.Perm ls ∧ srt ms ∧ ∀ W' : World, (∀ b, B ≤ b → b < w'.heap.size → W'.heap[b]? = w'.heap[b]?) → w'.heap.size ≤ W'.heap.size → SlL W' (.slice (some ⟨g, 0, none⟩) vs.length cap) ms := by
  have hvl := hls.1
  have hown : B ≤ g ∧ g < w.heap.size ∧ vs.length ≤ cap ∧ cap ≤ maxLen := by
    rcases hrow.2 with ⟨h, _⟩ | ⟨g', cap', cur, h, h1, h2, h3, h4, _⟩
    · cases h
    · injection h with h5 _ h6
      injection h5 with h5
      injection h5 with h5
      subst h5 h6
      exact ⟨h1, (Array.getElem?_eq_some_iff.1 h2).1, h3, h4⟩
  obtain ⟨hBg, hgw, hcap, hcap2⟩ := hown
  haveI : Inhabited (Fin ls.length) := ⟨⟨0, by omega⟩⟩
  obtain ⟨enc, henc⟩ : ∃ enc : Fin ls.length → Value, ∀ i : Fin ls.length, vs[i.1]? = some (enc i) := ⟨fun i => vs[i.1]'(by omega), fun i => List.getElem?_eq_getElem (by omega)⟩
  have hval : ∀ i : Fin ls.length, ∃ a c pb po, enc i = .slice a (ls.get i).length c ∧ Reads w a pb po (ls.get i) ∧ pb < w.heap.size ∧ (ls.get i).length ≤ c ∧ c ≤ maxLen ∧ B ≤ pb ∧ pb ≠ g := fun i => by
    obtain ⟨a, c, pb, po, h1, h2, h3, h4, h5, h6, h7⟩ := hls.2 i.1 (enc i) (ls.get i) (henc i) (List.getElem?_eq_getElem i.2)
    exact ⟨a, c, pb, po, h1, h2, h3, h4, h5, h6, h7 g rfl⟩
  have hOne : OneCell enc := fun i => by
    obtain ⟨a, c, pb, po, h1, _⟩ := hval i
    rw [h1]; rfl
  obtain ⟨d, hd⟩ : ∃ d : Array (Fin ls.length), d = Array.ofFn (fun i => i) := ⟨_, rfl⟩
  have hds : d.size = vs.length := by rw [hd, Array.size_ofFn, hvl]
  have hH : Go.Sort.Holds enc w g 0 d := fun j hj => by
    have hj' : j < ls.length := by omega
    have h1 : d[j]! = ⟨j, hj'⟩ := by
      rw [getElem!_pos d j hj]
      simp [hd]
    have h3 := hrow.cells (g := g) rfl j (enc ⟨j, hj'⟩) (henc ⟨j, hj'⟩)
    rw [show (⟨g, 0, none⟩ : Addr).add j = ⟨g, j, none⟩ by unfold Addr.add; split <;> simp_all] at h3
    rw [Nat.zero_add, h1]
    exact ⟨h3, hrow.frozenAt j⟩
  have hSl : ∀ (W : World) (i : Fin ls.length), (∀ b, B ≤ b → b < w.heap.size → b ≠ g → W.heap[b]? = w.heap[b]?) → w.heap.size ≤ W.heap.size → Sl W (enc i) (ls.get i) := fun W i hW hs => by
    obtain ⟨a, c, pb, po, h1, h2, h3, h4, h5, h6, h7⟩ := hval i
    exact ⟨a, c, pb, po, h1, h2.of_eq (hW pb h6 h3 h7), Nat.lt_of_lt_of_le h3 hs, h4, h5⟩
  have hcmp : CmpLays1 Tryd.prog 77 #[] enc (fun i j : Fin ls.length => cmpN (ls.get i) (ls.get j)) g 0 d.size w := by
    intro m os dk _ x y
    have hw := fun b (_ : B ≤ b) (h1 : b < w.heap.size) (h2 : b ≠ g) => sw_heap enc w g m dk os h1 h2
    refine (lcmp_ok (enc x) (enc y) (ls.get x) (ls.get y) (sortWorld enc w g 0 m dk os) (hSl _ x hw (sw_size ..)) (hSl _ y hw (sw_size ..)) (h60 _ (List.get_mem ls _)) (h60 _ (List.get_mem ls _))).mono ?_
    rintro e w' ⟨rfl, o, q, rfl⟩
    refine ⟨rfl, q, #[o], ?_⟩
    rw [Go.Sort.alloc_eq_grow]
    rfl
  have hcon := Any.slices_SortFunc sortLists enc hOne (fun i j : Fin ls.length => cmpN (ls.get i) (ls.get j)) (swo_cmpN fun i : Fin ls.length => ls.get i) 77 #[] g 0 cap d w ent77 hcmp hH hgw (by omega)
  change Calls Tryd.prog 76 _ _ _ at hcon
  rw [hds] at hcon
  refine hcon.mono ?_
  rintro e w' ⟨rfl, d', n, os, hp, hs, rfl⟩
  refine ⟨rfl, sw_below enc w g n d' os hBg hgw, d'.toList.map (fun i => ls.get i), ?_, ?_, ?_⟩
  · obtain ⟨hp1, _, hp3⟩ := hp
    rw [← hds, show d.extract 0 d.size = d by simp, show d'.extract 0 d.size = d' by rw [← hp1]; simp] at hp3
    have h1 := hp3.map (fun i : Fin ls.length => ls.get i)
    have h2 : d.toList.map (fun i : Fin ls.length => ls.get i) = ls := by
      rw [hd]
      apply List.ext_getElem
      · simp
      · intro k h1 h2
        simp
    rw [h2] at h1
    exact h1
  · intro i j hij hj
    have hsz : d'.size = vs.length := by rw [hp.1, hds]
    have hj' : j < d'.size := by simpa using hj
    have h := hs i j (Nat.zero_le _) hij (by omega)
    unfold ltOf at h
    rw [decide_eq_false_iff_not, getElem!_pos d' i (by omega), getElem!_pos d' j hj'] at h
    rw [List.getElem?_map, List.getElem?_map, Array.getElem?_toList, Array.getElem?_toList, Array.getElem?_eq_getElem hj', Array.getElem?_eq_getElem (by omega)]
    exact h
  · intro W' hW hsW
    have hsz : d'.size = vs.length := by rw [hp.1, hds]
    have hsw := sw_size enc w g n d' os
    have hH' : Go.Sort.Holds enc (sortWorld enc w g 0 n d' os) g 0 d' := SW.holds ⟨n, os, rfl⟩ hgw hH (by rw [hsz, hds])
    refine ⟨some ⟨g, 0, none⟩, cap, g, 0, by simp [hsz], fun _ => rfl, fun j hj => ?_, by omega, by simp [hsz]; omega, hcap2⟩
    have hj' : j < d'.size := by simpa using hj
    obtain ⟨h1, _⟩ := hH' j hj'
    rw [getElem!_pos d' j hj'] at h1
    refine ⟨enc d'[j], ?_, ?_⟩
    · rw [← h1]
      simp only [World.cell?]
      rw [hW g hBg (by omega)]
    · rw [List.getElem?_map, Array.getElem?_toList, Array.getElem?_eq_getElem hj']
      exact hSl W' d'[j] (fun b h2 h3 h4 => (hW b h2 (by omega)).trans (sw_heap enc w g n d' os h3 h4)) (by omega)
end Go.Proofs.YtelglfegpfhbpaaDoor
