/- The place of the first element that a test takes. No program is named here. -/
import Derived.Test.YtenjajcknmfhfaaUpto
namespace Go.Proofs.Ytenjajcknmfhfaa
set_option linter.unusedVariables false

/-- The place of the first that a test takes, or -1. -/
def gIdx {α : Type} (p : α → Bool) (t : List α) : Int := if t.findIdx p < t.length then (t.findIdx p : Int) else -1
section
variable {α : Type} {d : α} {p : α → Bool} {t : List α}
theorem getD_lt' {i : Nat} (h : i < t.length) : t.getD i d = t[i] := by simp [List.getD, List.getElem?_eq_getElem h]
theorem gIdx_is {k : Nat} (hk : k < t.length) (h0 : ∀ j, j < k → p (t.getD j d) = false) (h1 : p (t.getD k d) = true) : gIdx p t = (k : Int) := by
  have e : t.findIdx p = k := by
    rw [List.findIdx_eq hk]
    exact ⟨by rw [← getD_lt' (d := d) hk]; exact h1, fun j hj => by rw [← getD_lt' (d := d) (by omega)]; exact h0 j hj⟩
  unfold gIdx
  rw [e, if_pos hk]
theorem gIdx_none (h : ∀ j, j < t.length → p (t.getD j d) = false) : gIdx p t = -1 := by
  unfold gIdx
  rw [if_neg]
  intro k
  have := h _ k
  rw [getD_lt' k, List.findIdx_getElem (w := k)] at this
  cases this
theorem gIdx_any (p : α → Bool) (t : List α) : decide (0 ≤ gIdx p t) = t.any p := by
  unfold gIdx
  by_cases h : t.findIdx p < t.length
  · rw [if_pos h, decide_eq_true (by omega)]
    exact (List.any_eq_true.2 (List.findIdx_lt_length.1 h)).symm
  · rw [if_neg h, decide_eq_false (by omega)]
    rcases hb : t.any p with _ | _
    · rfl
    · exact absurd (List.findIdx_lt_length.2 (List.any_eq_true.1 hb)) h
theorem gIdx_neg (p : α → Bool) (t : List α) : decide (gIdx p t < 0) = !t.any p := by
  rw [← gIdx_any]
  rw [Bool.eq_iff_iff]
  simp only [decide_eq_true_eq, Bool.not_eq_true', decide_eq_false_iff_not]
  omega
theorem gIdx_cases (d : α) (p : α → Bool) (t : List α) : (gIdx p t = -1 ∧ ∀ j, j < t.length → p (t.getD j d) = false) ∨ ∃ k : Nat, gIdx p t = (k : Int) ∧ k < t.length ∧ p (t.getD k d) = true ∧ ∀ j, j < k → p (t.getD j d) = false := by
  by_cases h : t.findIdx p < t.length
  · exact .inr ⟨t.findIdx p, by unfold gIdx; rw [if_pos h], h, by rw [getD_lt' h]; exact List.findIdx_getElem (w := h), fun j hj => by rw [getD_lt' (by omega)]; exact List.not_of_lt_findIdx hj⟩
  · refine .inl ⟨by unfold gIdx; rw [if_neg h], fun j hj => ?_⟩
    rcases hb : p (t.getD j d) with _ | _
    · rfl
    · exact absurd (List.findIdx_lt_length.2 ⟨t[j], List.getElem_mem hj, by rwa [getD_lt' hj] at hb⟩) h
end
/-- Numbers all different that stand in a list are no more than the list's. -/
theorem nodup_len : ∀ (xs ys : List Int), xs.Nodup → (∀ x ∈ xs, x ∈ ys) → xs.length ≤ ys.length
  | [], _, _, _ => Nat.zero_le _
  | x :: xs, ys, hn, hs => by
    have hx := hs x (by simp)
    have hn' := List.nodup_cons.1 hn
    have h := nodup_len xs (ys.erase x) hn'.2 (fun y hy => (List.mem_erase_of_ne (fun e => hn'.1 (by rw [← e]; exact hy))).2 (hs y (by simp [hy])))
    rw [List.length_erase_of_mem hx] at h
    have := List.length_pos_of_mem hx
    simp only [List.length_cons]
    omega
end Go.Proofs.Ytenjajcknmfhfaa
