/- A row of structs that the call owns, sorted by the library: between the words for a row of the call's own and the sort's words. No program is named here. -/
import Derived.Test.YtkjpehpodlpdhaaFlat
import Derived.Shelf.GgSortFunc.InsertionK
namespace Go.Proofs.Ytkjpehpodlpdhaa
set_option linter.unusedVariables false
open Go.RowKit Go.Sort

theorem flatK_list {α : Type} [Inhabited α] {C : α → List Value} {size : Nat} (hC : ∀ x, (C x).length = size) (h0 : 0 < size) (t : List α) : (flatK C size t.toArray).toList = (t.map C).flatten := by
  have hlen := flat_map_len hC t
  have hsz : (flatK C size t.toArray).size = t.length * size := by simp
  apply List.ext_getElem?
  intro j
  by_cases hj : j < t.length * size
  · have hm := Nat.mod_lt j h0
    have hd : j / size < t.length := (Nat.div_lt_iff_lt_mul h0).2 hj
    have e : j = j / size * size + j % size := by rw [Nat.mul_comm]; exact (Nat.div_add_mod j size).symm
    have hall : ∀ cs ∈ t.map C, cs.length = size := fun cs h => by obtain ⟨x, _, rfl⟩ := List.mem_map.1 h; exact hC x
    have hg := get_flatK C size t.toArray j (by simpa using hj)
    rw [getElem!_pos _ j (by rw [hsz]; exact hj)] at hg
    rw [Array.getElem?_toList, Array.getElem?_eq_getElem (by rw [hsz]; exact hj), hg]
    conv => rhs; rw [e, flat_get _ (j / size) (j % size) hall hm]
    rw [List.getElem?_map, List.getElem?_eq_getElem hd, Option.map_some, Option.bind_some]
    have e2 : t.toArray[j / size]! = t[j / size] := by simp [getElem!_pos, hd]
    have hm2 : j % size < (C t[j / size]).length := by rw [hC]; exact hm
    rw [e2, List.getElem?_eq_getElem hm2, getElem!_pos (C t[j / size]) (j % size) hm2]
  · rw [List.getElem?_eq_none (by rw [Array.length_toList, hsz]; omega), List.getElem?_eq_none (by rw [hlen]; omega)]

theorem holdsK_owns {α : Type} [Inhabited α] {C : α → List Value} {size : Nat} (hC : ∀ x, (C x).length = size) (h0 : 0 < size) {w : World} {base e g n cap : Nat} {t : List α}
    (h : w.ownsRow base e size (.slice (some ⟨g, 0, none⟩) n cap) n ((t.map C).flatten)) : HoldsK C size w g 0 t.toArray ∧ g < w.heap.size := by
  have hfl := flatK_list hC h0 t
  rcases h.2 with ⟨e0, _⟩ | ⟨g', cap', cur, e0, hb, hg, hn, hm, hs, ht⟩
  · cases e0
  · cases e0
    refine ⟨fun j hj => ?_, (Array.getElem?_eq_some_iff.1 hg).1⟩
    have hj2 : j < ((t.map C).flatten).length := by rw [← hfl, Array.length_toList]; exact hj
    have hjn : j < n * size := by rw [← h.1]; exact hj2
    have e1 : (cur.toList.take (n * size))[j]? = ((t.map C).flatten)[j]? := by rw [ht]
    rw [List.getElem?_take, if_pos hjn, Array.getElem?_toList, ← hfl, Array.getElem?_toList] at e1
    refine ⟨?_, by simp [World.frozen?, hg]⟩
    simp only [World.cell?, hg, Nat.zero_add]
    simp only [Option.isSome_none, Bool.false_eq_true, if_false]
    rw [e1, Array.getElem?_eq_getElem hj, getElem!_pos _ j hj]
    rfl

theorem owns_sorted {α : Type} [Inhabited α] {C : α → List Value} {size : Nat} (hC : ∀ x, (C x).length = size) (h0 : 0 < size) {w : World} {base e g n cap m : Nat} {os : Array Obj} {t u : List α}
    (h : w.ownsRow base e size (.slice (some ⟨g, 0, none⟩) n cap) n ((t.map C).flatten)) (hu : u.length = n) :
    (sortWorldK C size w g 0 m u.toArray os).ownsRow base e size (.slice (some ⟨g, 0, none⟩) n cap) n ((u.map C).flatten) := by
  have hfl := flatK_list hC h0 u
  have hlen := flat_map_len hC u
  rcases h.2 with ⟨e0, _⟩ | ⟨g', cap', cur, e0, hb, hg, hn, hm, hs, ht⟩
  · cases e0
  · cases e0
    have hgl : g < w.heap.size := (Array.getElem?_eq_some_iff.1 hg).1
    have hcs : n * size ≤ cur.size := by rw [hs]; exact Nat.mul_le_mul_right size hn
    have hfs : (flatK C size u.toArray).size = n * size := by simp [hu]
    refine ⟨by rw [hlen, hu], .inr ⟨g, cap, putCells id 0 (flatK C size u.toArray) cur, rfl, hb, ?_, hn, hm, by simpa [putCells] using hs, ?_⟩⟩
    · unfold sortWorldK putRowK
      rw [heap_grow_old _ _ (by simpa using hgl)]
      simp [putRow, mapBlock, Sort.ahead, Array.getElem?_modify, hg, onCells]
    · rw [← hfl]
      apply List.ext_getElem?
      intro j
      rw [List.getElem?_take, Array.getElem?_toList, Array.getElem?_toList]
      by_cases hj : j < n * size
      · have hjc : j < cur.size := by omega
        rw [if_pos hj]
        simp only [putCells, Array.getElem?_mapIdx, Array.getElem?_eq_getElem hjc, Option.map_some]
        rw [if_pos (by rw [hfs]; omega), Array.getElem?_eq_getElem (by rw [hfs]; exact hj)]
        simp only [Nat.sub_zero, id]
        rw [getElem!_pos _ j (by rw [hfs]; exact hj)]
      · rw [if_neg hj, Array.getElem?_eq_none (by rw [hfs]; omega)]

theorem below_sorted {α : Type} [Inhabited α] {C : α → List Value} {size : Nat} {B : Nat} {w0 w : World} {g m : Nat} {d : Array α} {os : Array Obj} (h : Below B w0 w) (hg : B ≤ g) (hgl : g < w.heap.size) : Below B w0 (sortWorldK C size w g 0 m d os) := by
  refine ⟨h.os, h.tape, h.output, ?_, fun k hk => ?_⟩
  · have := h.size
    simp [sortWorldK, putRowK, putRow, mapBlock, Sort.ahead]
    omega
  · have hkw : k < w.heap.size := by omega
    rw [← h.block k hk]
    unfold sortWorldK putRowK
    rw [heap_grow_old _ _ (by simpa using hkw)]
    simp [putRow, mapBlock, Sort.ahead, Array.getElem?_modify, show g ≠ k by omega]
end Go.Proofs.Ytkjpehpodlpdhaa
