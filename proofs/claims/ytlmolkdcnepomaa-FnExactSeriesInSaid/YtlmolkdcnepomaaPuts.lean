/- Cells laid over a row of the call's own, and a row that is cut; the cells of a list of elements. No program is named here. -/
import Derived.Test.YtlmolkdcnepomaaOwn
import Derived.Test.YtlmolkdcnepomaaFlat
namespace Go.Proofs.Ytlmolkdcnepomaa
set_option linter.unusedVariables false
open Go.RowKit

theorem row_puts {base e size g n cap : Nat} : ∀ (r : List Value) (w : World) (xs : List Value) (j : Nat), w.ownsRow base e size (.slice (some ⟨g, 0, none⟩) n cap) n xs →
    (w.setCells g j r).ownsRow base e size (.slice (some ⟨g, 0, none⟩) n cap) n (setFrom xs j r) ∧ w.grownBy (w.setCells g j r) (some g)
  | [], w, xs, j, h => ⟨h, World.grownBy.refl _ _⟩
  | u :: r, w, xs, j, h => by
    obtain ⟨h1, h2⟩ := h.stored j u
    obtain ⟨h3, h4⟩ := row_puts r _ _ (j + 1) h1
    rw [World.setCells, setFrom]
    exact ⟨h3, ⟨h4.os.trans h2.os, h4.tape.trans h2.tape, h4.output.trans h2.output, Nat.le_trans h2.size h4.size, fun k hk hr => (h4.block k (Nat.lt_of_lt_of_le hk h2.size) hr).trans (h2.block k hk hr)⟩⟩
theorem row_cut {base e size g n cap m : Nat} {w : World} {xs : List Value} (h : w.ownsRow base e size (.slice (some ⟨g, 0, none⟩) n cap) n xs) (hm : m ≤ n) :
    w.ownsRow base e size (.slice (some ⟨g, 0, none⟩) m cap) m (xs.take (m * size)) := by
  have hle : m * size ≤ n * size := Nat.mul_le_mul_right _ hm
  refine ⟨by rw [List.length_take, h.1]; omega, .inr ?_⟩
  rcases h.2 with ⟨h', _⟩ | ⟨g', cap', cur, h', hb, hg, hnc, hcm, hcs, htake⟩
  · cases h'
  · simp only [Value.slice.injEq, Option.some.injEq, Addr.mk.injEq, and_true, true_and] at h'
    obtain ⟨rfl, rfl⟩ := h'
    refine ⟨g, cap, cur, rfl, hb, hg, by omega, hcm, hcs, ?_⟩
    rw [← htake, List.take_take, Nat.min_eq_left hle]
theorem flatC_split {α : Type} {C : α → List Value} {t : List α} {p : Nat} : (t.map C).flatten = ((t.take p).map C).flatten ++ ((t.drop p).map C).flatten := by
  rw [← List.flatten_append, ← List.map_append, List.take_append_drop]
theorem flatC_take {α : Type} {C : α → List Value} {size : Nat} (hC : ∀ x, (C x).length = size) (t : List α) (p : Nat) : (t.map C).flatten.take (p * size) = ((t.take p).map C).flatten := by
  by_cases h : p ≤ t.length
  · have l2 : ((t.take p).map C).flatten.length = p * size := by rw [flat_map_len hC, List.length_take, Nat.min_eq_left h]
    rw [flatC_split (p := p), List.take_left' l2]
  · rw [List.take_of_length_le (by rw [flat_map_len hC]; exact Nat.mul_le_mul_right _ (by omega)), List.take_of_length_le (l := t) (by omega)]
/-- What is left when the cells behind are laid one place ahead and the last element is emptied. -/
theorem delC_cells {α : Type} {C : α → List Value} {size : Nat} (hC : ∀ x, (C x).length = size) {t : List α} {p : Nat} (hp : p < t.length) (z : List Value) (hz : z.length = size) :
    (setFrom (setFrom (t.map C).flatten (p * size) ((t.drop (p + 1)).map C).flatten) ((t.length - 1) * size) z).take ((t.length - 1) * size) = ((t.take p ++ t.drop (p + 1)).map C).flatten := by
  have l0 : ((t.map C).flatten).length = t.length * size := flat_map_len hC t
  have l1 : ((t.drop (p + 1)).map C).flatten.length = (t.length - (p + 1)) * size := by rw [flat_map_len hC, List.length_drop]
  have l2 : ((t.take p).map C).flatten.length = p * size := by rw [flat_map_len hC, List.length_take, Nat.min_eq_left (by omega)]
  have e1 : t.length * size = (t.length - 1) * size + size := by rw [← Nat.succ_mul]; congr 1; omega
  have e2 : (t.length - 1) * size = p * size + (t.length - (p + 1)) * size := by rw [← Nat.add_mul]; congr 1; omega
  rw [setFrom_eq z _ _ (by rw [setFrom_len, l0, hz]; omega), setFrom_eq _ _ _ (by rw [l0, l1]; omega)]
  rw [List.append_assoc, List.take_append_of_le_length (by simp only [List.length_take, List.length_append, List.length_drop, l0, l1]; omega), List.take_take, Nat.min_self]
  rw [List.take_left' (by rw [List.length_append, List.length_take, l0, l1]; omega)]
  rw [List.map_append, List.flatten_append]
  congr 1
  rw [flatC_split (p := p), List.take_left' l2]
/-- What stands behind a place. -/
theorem dropC_at {α : Type} {C : α → List Value} {size : Nat} (hC : ∀ x, (C x).length = size) {t : List α} {p : Nat} (hp : p ≤ t.length) (k : Nat) : ((t.drop p).map C).flatten[k]? = (t.map C).flatten[p * size + k]? := by
  have l2 : ((t.take p).map C).flatten.length = p * size := by rw [flat_map_len hC, List.length_take, Nat.min_eq_left hp]
  rw [flatC_split (t := t) (p := p), List.getElem?_append_right (by rw [l2]; omega), l2, Nat.add_sub_cancel_left]
theorem frozen_kept {w w' : World} {p : Addr} (h : w.frozen? p = false) (hl : p.block < w.heap.size) (hb : Below w.heap.size w w') : w'.frozen? p = false := (hb.frozen hl).trans h
theorem cellset_other {w : World} {a b : Addr} (v : Value) (h : a ≠ b) : (w.setCell a v).cell? b = w.cell? b := by
  apply World.cell?_setCell_other
  exact h
theorem cellset_same {w : World} {a : Addr} {u : Value} (v : Value) (h : w.cell? a = some u) : (w.setCell a v).cell? a = some v := by
  apply World.cell?_setCell_same
  exact h
end Go.Proofs.Ytlmolkdcnepomaa
