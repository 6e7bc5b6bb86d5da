/- Cells laid over a row of the call's own, and a row that is cut; the cells of a list of elements. No program is named here. -/
import Derived.Test.YtenjajcknmfhfaaOwn
import Derived.Test.YtenjajcknmfhfaaFlat
import Derived.Lib.SliceRun
namespace Go.Proofs.Ytenjajcknmfhfaa
set_option linter.unusedVariables false
open Go.RowKit

theorem row_puts {base e size g n cap : Nat} : ∀ (r : List Value) (w : World) (xs : List Value) (j : Nat), w.ownsRow base e size (.slice (some ⟨g, 0, none⟩) n cap) n xs →
    (w.setCells g j r).ownsRow base e size (.slice (some ⟨g, 0, none⟩) n cap) n (setFrom xs j r) ∧ w.grownBy (w.setCells g j r) (some g)
  | [], w, xs, j, h => ⟨h, World.grownBy.refl _ _⟩
  | u :: r, w, xs, j, h => by
    obtain ⟨h1, h2⟩ := h.stored j u
    obtain ⟨h3, h4⟩ := row_puts r _ _ (j + 1) h1
    rw [World.setCells, setFrom]
    exact ⟨h3, ⟨h4.os.trans h2.os, h4.tape.trans h2.tape, h4.output.trans h2.output, Nat.le_trans h2.size h4.size, fun k hk hr => (h4.block k (Nat.lt_of_lt_of_le hk h2.size) hr).trans (h2.block k hk hr)⟩⟩
theorem row_cut {base e size g n cap m : Nat} {w : World} {xs : List Value} (h : w.ownsRow base e size (.slice (some ⟨g, 0, none⟩) n cap) n xs) (hm : m ≤ n) :
    w.ownsRow base e size (.slice (some ⟨g, 0, none⟩) m cap) m (xs.take (m * size)) := by
  have hle : m * size ≤ n * size := Nat.mul_le_mul_right _ hm
  refine ⟨by rw [List.length_take, h.1]; omega, .inr ?_⟩
  rcases h.2 with ⟨h', _⟩ | ⟨g', cap', cur, h', hb, hg, hnc, hcm, hcs, htake⟩
  · cases h'
  · simp only [Value.slice.injEq, Option.some.injEq, Addr.mk.injEq, and_true, true_and] at h'
    obtain ⟨rfl, rfl⟩ := h'
    refine ⟨g, cap, cur, rfl, hb, hg, by omega, hcm, hcs, ?_⟩
    rw [← htake, List.take_take, Nat.min_eq_left hle]
theorem flatC_split {α : Type} {C : α → List Value} {t : List α} {p : Nat} : (t.map C).flatten = ((t.take p).map C).flatten ++ ((t.drop p).map C).flatten := by
  rw [← List.flatten_append, ← List.map_append, List.take_append_drop]
theorem flatC_take {α : Type} {C : α → List Value} {size : Nat} (hC : ∀ x, (C x).length = size) (t : List α) (p : Nat) : (t.map C).flatten.take (p * size) = ((t.take p).map C).flatten := by
  by_cases h : p ≤ t.length
  · have l2 : ((t.take p).map C).flatten.length = p * size := by rw [flat_map_len hC, List.length_take, Nat.min_eq_left h]
    rw [flatC_split (p := p), List.take_left' l2]
  · rw [List.take_of_length_le (by rw [flat_map_len hC]; exact Nat.mul_le_mul_right _ (by omega)), List.take_of_length_le (l := t) (by omega)]
/-- What is left when the cells behind are laid one place ahead and the last element is emptied. -/
theorem delC_cells {α : Type} {C : α → List Value} {size : Nat} (hC : ∀ x, (C x).length = size) {t : List α} {p : Nat} (hp : p < t.length) (z : List Value) (hz : z.length = size) :
    (setFrom (setFrom (t.map C).flatten (p * size) ((t.drop (p + 1)).map C).flatten) ((t.length - 1) * size) z).take ((t.length - 1) * size) = ((t.take p ++ t.drop (p + 1)).map C).flatten := by
  have l0 : ((t.map C).flatten).length = t.length * size := flat_map_len hC t
  have l1 : ((t.drop (p + 1)).map C).flatten.length = (t.length - (p + 1)) * size := by rw [flat_map_len hC, List.length_drop]
  have l2 : ((t.take p).map C).flatten.length = p * size := by rw [flat_map_len hC, List.length_take, Nat.min_eq_left (by omega)]
  have e1 : t.length * size = (t.length - 1) * size + size := by rw [← Nat.succ_mul]; congr 1; omega
  have e2 : (t.length - 1) * size = p * size + (t.length - (p + 1)) * size := by rw [← Nat.add_mul]; congr 1; omega
  rw [setFrom_eq z _ _ (by rw [setFrom_len, l0, hz]; omega), setFrom_eq _ _ _ (by rw [l0, l1]; omega)]
  rw [List.append_assoc, List.take_append_of_le_length (by simp only [List.length_take, List.length_append, List.length_drop, l0, l1]; omega), List.take_take, Nat.min_self]
  rw [List.take_left' (by rw [List.length_append, List.length_take, l0, l1]; omega)]
  rw [List.map_append, List.flatten_append]
  congr 1
  rw [flatC_split (p := p), List.take_left' l2]
/-- What stands behind a place. -/
theorem dropC_at {α : Type} {C : α → List Value} {size : Nat} (hC : ∀ x, (C x).length = size) {t : List α} {p : Nat} (hp : p ≤ t.length) (k : Nat) : ((t.drop p).map C).flatten[k]? = (t.map C).flatten[p * size + k]? := by
  have l2 : ((t.take p).map C).flatten.length = p * size := by rw [flat_map_len hC, List.length_take, Nat.min_eq_left hp]
  rw [flatC_split (t := t) (p := p), List.getElem?_append_right (by rw [l2]; omega), l2, Nat.add_sub_cancel_left]
theorem Own.some_at {lo e size : Nat} {w : World} {v : Value} {css : List (List Value)} (h : Own lo e size w v css) (hn : 0 < css.length) : ∃ g cap, v = .slice (some ⟨g, 0, none⟩) css.length cap ∧ g < w.heap.size ∧ lo ≤ g ∧ css.length ≤ cap ∧ cap ≤ maxLen := by
  rcases h.form with ⟨_, rfl⟩ | ⟨g, cap, h1, h2, h3, h4, h5⟩
  · simp at hn
  · exact ⟨g, cap, h1, h3, h2, h4, h5⟩
/-- A row of the call's own, with room: read one element further. -/
theorem row_wide {base e size g n cap : Nat} {w : World} {xs : List Value} (h : w.ownsRow base e size (.slice (some ⟨g, 0, none⟩) n cap) n xs) (hr : n + 1 ≤ cap) :
    ∃ ys : List Value, ys.length = size ∧ w.ownsRow base e size (.slice (some ⟨g, 0, none⟩) (n + 1) cap) (n + 1) (xs ++ ys) := by
  rcases h.2 with ⟨h', _⟩ | ⟨g', cap', cur, h', hb, hg, hnc, hcm, hcs, htake⟩
  · cases h'
  · simp only [Value.slice.injEq, Option.some.injEq, Addr.mk.injEq, and_true, true_and] at h'
    obtain ⟨rfl, rfl⟩ := h'
    have hle : (n + 1) * size ≤ cap * size := Nat.mul_le_mul_right _ hr
    rw [Nat.succ_mul] at hle
    refine ⟨(cur.toList.drop (n * size)).take size, ?_, ?_, .inr ⟨g, cap, cur, rfl, hb, hg, hr, hcm, hcs, ?_⟩⟩
    · rw [List.length_take, List.length_drop, Array.length_toList, hcs]; omega
    · rw [List.length_append, h.1, List.length_take, List.length_drop, Array.length_toList, hcs, Nat.succ_mul]; omega
    · rw [← htake, Nat.succ_mul, List.take_add]
theorem run_copy_cellsK {P : Program} (w : World) (dT sT ty elem : TypeId) (k : Nat) (b o dLen dCap : Nat) (a : Addr) (sLen sCap : Nat) (cs : List Value)
    (hu : P.underlying dT = some (.slice elem)) (hs : (P.info? elem).map (·.size) = some k) (hn : cs.length = Nat.min sLen dLen * k)
    (hsrc : ∀ j v, cs[j]? = some v → w.cell? (a.add j) = some v) (hc : ∀ j, j < cs.length → (w.cell? ⟨b, o + j, none⟩).isSome = true) (hf : ∀ j, j < cs.length → w.frozen? ⟨b, o + j, none⟩ = false) (h1 : ∀ v ∈ cs, v.oneCell' = true) :
    (Builtin.copy_ #[dT, sT] ty #[.slice (some ⟨b, o, none⟩) dLen dCap, .slice (some a) sLen sCap]).run P w = .ok (goInt (Nat.min sLen dLen)) (w.setCells b o cs) := by
  have hl := run_loadCells_list (P := P) w a cs hsrc
  have hst := run_storeCells_cells (P := P) b o cs 0 w (by simpa using hc) (by simpa using hf) h1
  cases hq : P.info? elem with
  | none => simp [hq] at hs
  | some i =>
    have hi : i.size = k := by simpa [hq] using hs
    simp [Builtin.copy_, run_underlying hu, Builtin.lenOf, Builtin.firstCells, sizeOf, typeInfo, hq, hi, ← hn, hl, hst]
theorem isSome_puts (b : Nat) (vs : List Value) (o : Nat) (w : World) (h : ∀ j, j < vs.length → (w.cell? ⟨b, o + j, none⟩).isSome = true) (k : Nat) (hk : (w.cell? ⟨b, k, none⟩).isSome = true) : ((w.setCells b o vs).cell? ⟨b, k, none⟩).isSome = true := by
  by_cases hin : o ≤ k ∧ k < o + vs.length
  · have := World.cell?_setCells_in b vs o w h (k - o) (by omega)
    rw [show o + (k - o) = k by omega] at this
    rw [this]; rfl
  · rw [World.cell?_setCells_out b vs o w ⟨b, k, none⟩ (fun _ _ => by show k < o ∨ o + vs.length ≤ k; omega)]
    exact hk
/-- One element put in: the cells. -/
theorem insC_cells {α : Type} {C : α → List Value} {size : Nat} (hC : ∀ x, (C x).length = size) {t : List α} {p : Nat} (hp : p ≤ t.length) (r : α) (ys : List Value) (hy : ys.length = size) :
    setFrom (setFrom ((t.map C).flatten ++ ys) ((p + 1) * size) ((t.drop p).map C).flatten) (p * size) (C r) = ((t.take p ++ r :: t.drop p).map C).flatten := by
  have l0 : ((t.map C).flatten).length = t.length * size := flat_map_len hC t
  have l1 : ((t.drop p).map C).flatten.length = (t.length - p) * size := by rw [flat_map_len hC, List.length_drop]
  have l2 : ((t.take p).map C).flatten.length = p * size := by rw [flat_map_len hC, List.length_take, Nat.min_eq_left hp]
  have e2 : t.length * size = p * size + (t.length - p) * size := by rw [← Nat.add_mul]; congr 1; omega
  have e3 : (p + 1) * size = p * size + size := Nat.succ_mul _ _
  have hpt : (t.map C).flatten.take (p * size) = ((t.take p).map C).flatten := flatC_take hC t p
  rw [List.map_append, List.flatten_append, List.map_cons, List.flatten_cons, ← hpt]
  obtain ⟨D, hD⟩ : ∃ D, ((t.drop p).map C).flatten = D := ⟨_, rfl⟩
  obtain ⟨X, hX⟩ : ∃ X, (t.map C).flatten = X := ⟨_, rfl⟩
  rw [hD] at l1 ⊢
  rw [hX] at l0 ⊢
  clear hD hX hpt l2
  rw [setFrom_eq (C r) _ _ (by rw [setFrom_len, List.length_append, l0, hy, hC]; omega), setFrom_eq _ _ _ (by rw [List.length_append, l0, l1, hy]; omega)]
  have q1 : ((X ++ ys).take ((p + 1) * size)).take (p * size) = X.take (p * size) := by
    rw [List.take_take, Nat.min_eq_left (by omega), List.take_append_of_le_length (by omega)]
  have q2 : ((X ++ ys).take ((p + 1) * size)).length = (p + 1) * size := by rw [List.length_take, List.length_append, l0, hy]; omega
  have q3 : (X ++ ys).drop ((p + 1) * size + D.length) = [] := List.drop_of_length_le (by rw [List.length_append, l0, l1, hy]; omega)
  rw [q3, List.append_nil, List.take_append_of_le_length (by omega), q1, List.append_assoc]
  congr 1
  congr 1
  rw [hC, ← e3, List.drop_append_of_le_length (by omega), List.drop_of_length_le (by omega), List.nil_append]
/-- One element put in, into a new row that holds what stands ahead. -/
theorem insC_cells2 {α : Type} {C : α → List Value} {size : Nat} (hC : ∀ x, (C x).length = size) {t : List α} {p : Nat} (hp : p ≤ t.length) (r : α) (X : List Value) (hX : X.length = (t.length + 1) * size) (hX2 : X.take (p * size) = ((t.take p).map C).flatten) :
    setFrom (setFrom X (p * size) (C r)) ((p + 1) * size) ((t.drop p).map C).flatten = ((t.take p ++ r :: t.drop p).map C).flatten := by
  have l1 : ((t.drop p).map C).flatten.length = (t.length - p) * size := by rw [flat_map_len hC, List.length_drop]
  have e2 : t.length * size = p * size + (t.length - p) * size := by rw [← Nat.add_mul]; congr 1; omega
  have e3 : (p + 1) * size = p * size + size := Nat.succ_mul _ _
  have e4 : (t.length + 1) * size = t.length * size + size := Nat.succ_mul _ _
  rw [List.map_append, List.flatten_append, List.map_cons, List.flatten_cons, ← hX2]
  obtain ⟨D, hD⟩ : ∃ D, ((t.drop p).map C).flatten = D := ⟨_, rfl⟩
  rw [hD] at l1 ⊢
  clear hD hX2
  rw [setFrom_eq (C r) _ _ (by rw [hX, hC]; omega)]
  have q0 : (X.take (p * size) ++ C r).length = (p + 1) * size := by rw [List.length_append, List.length_take, hX, hC]; omega
  rw [setFrom_eq _ _ _ (by simp only [List.length_append, List.length_take, List.length_drop, hX, hC, l1]; omega)]
  rw [List.take_left' q0, List.drop_of_length_le (by simp only [List.length_append, List.length_take, List.length_drop, hX, hC, l1]; omega), List.append_nil, List.append_assoc]
theorem frozen_kept {w w' : World} {p : Addr} (h : w.frozen? p = false) (hl : p.block < w.heap.size) (hb : Below w.heap.size w w') : w'.frozen? p = false := (hb.frozen hl).trans h
theorem cellset_other {w : World} {a b : Addr} (v : Value) (h : a ≠ b) : (w.setCell a v).cell? b = w.cell? b := by
  apply World.cell?_setCell_other
  exact h
theorem cellset_same {w : World} {a : Addr} {u : Value} (v : Value) (h : w.cell? a = some u) : (w.setCell a v).cell? a = some v := by
  apply World.cell?_setCell_same
  exact h
end Go.Proofs.Ytenjajcknmfhfaa
