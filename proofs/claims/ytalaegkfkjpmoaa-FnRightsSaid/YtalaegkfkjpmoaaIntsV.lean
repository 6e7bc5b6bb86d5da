/- Lists of numbers of the call's own: their length and their first one. -/
import Derived.Test.YtalaegkfkjpmoaaIntsK
namespace Go.Proofs.Ytalaegkfkjpmoaa
set_option linter.unusedVariables false
open Go.RowKit

theorem IntsO.len {lo hi : Nat} {w : World} {v : Value} {xs : List Int} (h : IntsO lo hi w v xs) : ∃ a c, v = .slice a xs.length c := by
  rcases h.1.2 with ⟨rfl, h0⟩ | ⟨g, cap, cur, rfl, _⟩
  · exact ⟨_, _, by rw [h0]⟩
  · exact ⟨_, _, rfl⟩
theorem IntsO.head {lo hi : Nat} {w : World} {v : Value} {x : Int} {r : List Int} (h : IntsO lo hi w v (x :: r)) : ∃ g c, v = .slice (some ⟨g, 0, none⟩) (r.length + 1) c ∧ w.cell? ⟨g, 0, none⟩ = some (.int .i64 x) := by
  have hh := h.1
  rcases h.1.2 with ⟨rfl, h0⟩ | ⟨g, cap, cur, rfl, _⟩
  · simp at h0
  · exact ⟨g, cap, rfl, by have := hh.cellAt 0 (by simp); simpa [vI] using this⟩
end Go.Proofs.Ytalaegkfkjpmoaa
