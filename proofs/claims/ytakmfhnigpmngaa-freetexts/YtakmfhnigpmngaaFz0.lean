/- Texts of words and words of texts: they undo each other. -/
import Derived.Test.YtakmfhnigpmngaaFy3
import Derived.Test.YtakmfhnigpmngaaFt
namespace Go.Proofs.Ytakmfhnigpmngaa
open Go Go.RowKit

theorem txt_list (zs : List Int) : (⟨(bts zs).toArray⟩ : ByteArray).toList = bts zs := ByteArray.toList_mk _
theorem bts_len (zs : List Int) : (bts zs).length = zs.length := by simp [bts]
theorem txt_size (zs : List Int) : (⟨(bts zs).toArray⟩ : ByteArray).size = zs.length := by rw [← toList_len, txt_list, bts_len]
theorem txt_bat {zs : List Int} (h : Lt zs) {k : Nat} (hk : k < zs.length) : ((bat ⟨(bts zs).toArray⟩ k : Nat) : Int) = byt (zs[k]?.getD 0) := by
  unfold bat
  rw [txt_list]
  unfold bts
  rw [List.getElem?_map, List.getElem?_eq_getElem hk]
  exact byt_nat (h _ (List.getElem_mem hk))
theorem txt_pls {zs : List Int} (h : Lt zs) : pls ⟨(bts zs).toArray⟩ = zs := by
  refine list_ext (by rw [pls_len, txt_size]) (fun i hi => ?_)
  rw [pls_len, txt_size] at hi
  rw [pls_get _ (by rw [txt_size]; exact hi), txt_bat h hi]
  exact (ltr_byt (h.at hi)).1
theorem txt_ne {zs : List Int} (h : Lt zs) : (⟨(bts zs).toArray⟩ : ByteArray).toList ≠ [49] := by
  intro e
  have hl : 0 < zs.length := by
    have := congrArg List.length e
    rw [toList_len, txt_size] at this
    simp at this; omega
  have h1 := txt_bat h hl
  have h2 : bat ⟨(bts zs).toArray⟩ 0 = 49 := by unfold bat; rw [e]; rfl
  rw [h2] at h1
  rcases byt_range (h.at hl) with ⟨_, _, h3, _⟩ | ⟨_, _, h3, _⟩ <;> omega
theorem parse_txt (zs : List Int) (w : World) (h : Wd zs) (hz : zs ≠ []) :
    Calls Try.prog 35 #[.string ⟨(bts zs).toArray⟩] w fun e w' => ∃ r, e = .returned (.tuple #[r, .agg #[.int .i64 0, .int .i64 0]]) ∧ Row w' w.heap.size r zs ∧ Below w.heap.size w w' := by
  have hl : 0 < zs.length := List.length_pos_iff.2 hz
  have hlen := h.len
  refine (parse_some _ w (by rw [txt_size]; exact hlen) (by rw [txt_size]; exact hl) (txt_ne h.lt)).mono ?_
  rintro e w' (⟨k, hk, hbad, _, _, _⟩ | ⟨_, r, rfl, hr, hb⟩)
  · rw [txt_size] at hk
    rw [txt_bat h.lt hk, (ltr_byt (h.lt.at hk)).2] at hbad
    cases hbad
  · rw [txt_pls h.lt] at hr
    exact ⟨r, rfl, hr, hb⟩
theorem pls_lt {s : ByteArray} (h : ∀ j, j < s.size → isl (bat s j : Int) = true) : Lt (pls s) := by
  refine lt_of_at (fun t ht => ?_)
  rw [pls_len] at ht
  rw [pls_get s ht]
  exact (byt_ltr (h t ht)).2
theorem pls_txt {s : ByteArray} (h : ∀ j, j < s.size → isl (bat s j : Int) = true) : (⟨(bts (pls s)).toArray⟩ : ByteArray) = s := by
  have e : bts (pls s) = s.toList := by
    unfold bts pls
    rw [List.map_map]
    refine List.ext_getElem (by simp) (fun i h1 h2 => ?_)
    rw [List.getElem_map]
    have hi : i < s.size := by rw [toList_len] at h2; exact h2
    have h3 := (byt_ltr (h i hi)).1
    unfold bat at h3
    rw [List.getElem?_eq_getElem h2] at h3
    simp only [Option.getD_some] at h3
    simp only [Function.comp]
    rw [h3]
    simp
  rw [e]
  apply ByteArray.ext
  apply Array.toList_inj.1
  rw [ByteArray.toList_eq]

end Go.Proofs.Ytakmfhnigpmngaa
