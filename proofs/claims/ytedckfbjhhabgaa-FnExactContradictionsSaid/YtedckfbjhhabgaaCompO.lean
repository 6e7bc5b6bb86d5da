/- slices.Compact of a row of the call's own. -/
import Derived.Test.YtedckfbjhhabgaaTgC
import Derived.Test.YtedckfbjhhabgaaSerIn
namespace Go.Proofs.Ytedckfbjhhabgaa
set_option linter.unusedVariables false
open Go.RowKit Go.Sort

theorem dedF_len (xs : List Int) : (dedF xs).length ≤ xs.length := by
  have hk : ∀ k, k ≤ xs.length → (dedF (xs.take k)).length ≤ k := by
    intro k
    induction k with
    | zero => intro _; simp [dedF]
    | succ k ih =>
      intro hk
      rw [dedF_take (by omega)]
      have := ih (by omega)
      split
      · omega
      · rw [List.length_append, List.length_singleton]; omega
  have := hk xs.length (Nat.le_refl _)
  rwa [List.take_length] at this
set_option maxHeartbeats 2000000 in
theorem compactO_any (lo : Nat) (v : Value) (xs ys : List Int) (w : World) (hO : w.ownsRow lo 3 1 v xs.length (xs.map vI)) (hlo : lo ≤ w.heap.size) (hn : xs.length ≤ 1048576) (hc : Lib.compact xs = ys) (hl : ys.length ≤ xs.length) :
    Calls Try.prog 65 #[v] w fun e w' => ∃ v', e = .returned v' ∧ IntsO lo w'.heap.size w' v' ys ∧ Below lo w w' := by
  have b0 : Below lo w w := (Below.refl w.heap.size w).mono hlo
  rcases Nat.eq_zero_or_pos xs.length with h0 | h0
  · obtain rfl := List.length_eq_zero_iff.1 h0
    obtain rfl : ys = [] := List.length_eq_zero_iff.1 (by simpa using hl)
    rcases hO.2 with ⟨e, _⟩ | ⟨g, cap, cur, e, hg, hh, hnc, hm, hs, ht⟩
    · subst e
      refine (Try.slices_Compact_int_empty none 0 _).mono ?_
      rintro e w5 ⟨rfl, rfl⟩
      exact ⟨_, rfl, IntsO.of_row (xs := []) (by simpa using hO) rfl, b0⟩
    · subst e
      refine (Try.slices_Compact_int_empty _ cap _).mono ?_
      rintro e w5 ⟨rfl, rfl⟩
      exact ⟨_, rfl, IntsO.of_row (xs := []) (by simpa using hO) rfl, b0⟩
  · obtain ⟨g, cap, rfl, hbg, hgl, hnc, hcm, hlen, hH⟩ := Lib.holds_of_ownsRow hO (by rintro rfl; rcases hO.2 with ⟨_, e⟩ | ⟨_, _, _, e, _⟩; (· omega); cases e)
    have hcp := Try.slices_Compact_int g 0 cap xs w hH (by unfold maxLen at hcm; omega) hnc
    rw [hc] at hcp
    refine hcp.mono ?_
    rintro e w5 ⟨rfl, q, rfl⟩
    have h1 := Lib.ownsRow_putRow (q := q) (k := ys.length) (ys := ys ++ List.replicate (xs.length - ys.length) 0) hO (by simp; omega) hl
    rw [List.take_left' rfl] at h1
    exact ⟨_, rfl, IntsO.of_row h1 rfl, Lib.below_putRow b0 hbg⟩
end Go.Proofs.Ytedckfbjhhabgaa
