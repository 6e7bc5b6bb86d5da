/- The cells of a row of elements, one behind the other. No program is named here. -/
import Derived.Test.YtenjajcknmfhfaaOwn
namespace Go.Proofs.Ytenjajcknmfhfaa
set_option linter.unusedVariables false
open Go.RowKit

theorem RowR.flat {α : Type} {size : Nat} {R : Rd α} {C : α → List Value} (hR : ∀ w cs x, R w cs x → cs = C x) (hC : ∀ x, (C x).length = size) (h0 : 0 < size) {w : World} {b off n c : Nat} {xs : List α}
    (h : RowR size R w (.slice (some ⟨b, off, none⟩) n c) xs) : ∀ j u, (xs.map C).flatten[j]? = some u → w.cell? ⟨b, off + j, none⟩ = some u := by
  intro j u hj
  obtain ⟨a, cap, e, h1, h2, h3⟩ := h
  cases e
  rcases h3 with rfl | ⟨b', off', hb, e, hc⟩
  · simp at hj
  · cases e
    have hk : j = j / size * size + j % size := by rw [Nat.mul_comm]; exact (Nat.div_add_mod j size).symm
    have hall : ∀ cs ∈ xs.map C, cs.length = size := fun cs h => by obtain ⟨x, _, rfl⟩ := List.mem_map.1 h; exact hC x
    have hm : j % size < size := Nat.mod_lt _ h0
    rw [hk, flat_get _ (j / size) (j % size) hall hm] at hj
    rcases Nat.lt_or_ge (j / size) xs.length with hl | hl
    · obtain ⟨cs, q1, q2, q3⟩ := hc (j / size) hl
      have hcs := hR _ _ _ q3
      subst hcs
      rw [List.getElem?_map, List.getElem?_eq_getElem hl, Option.map_some, Option.bind_some, List.getElem?_eq_getElem (by rw [hC]; exact hm)] at hj
      have := q2 (j % size) (by rw [hC]; exact hm)
      rw [Option.some.inj hj, Nat.add_assoc, ← hk] at this
      exact this
    · rw [List.getElem?_map, List.getElem?_eq_none hl] at hj
      cases hj
theorem flat_one {α : Type} {C : α → List Value} (h : ∀ x, ∀ u ∈ C x, u.oneCell' = true) (xs : List α) : ∀ u ∈ (xs.map C).flatten, u.oneCell' = true := by
  intro u hu
  obtain ⟨l, hl, hu⟩ := List.mem_flatten.1 hu
  obtain ⟨e, _, rfl⟩ := List.mem_map.1 hl
  exact h e u hu
theorem flat_map_len {α : Type} {C : α → List Value} {size : Nat} (h : ∀ x, (C x).length = size) (xs : List α) : (xs.map C).flatten.length = xs.length * size := by
  rw [flat_len (size := size) _ (fun cs hc => by obtain ⟨x, _, rfl⟩ := List.mem_map.1 hc; exact h x), List.length_map]
/-- What is read of a row without elements. -/
theorem RowR.none_nil {α : Type} {size : Nat} {R : Rd α} {w : World} {n c : Nat} {xs : List α} (h : RowR size R w (.slice none n c) xs) : xs = [] ∧ n = 0 := by
  obtain ⟨a, cap, e, h1, h2, h3⟩ := h
  cases e
  rcases h3 with rfl | ⟨b, off, _, e, _⟩
  · exact ⟨rfl, rfl⟩
  · cases e
end Go.Proofs.Ytenjajcknmfhfaa
