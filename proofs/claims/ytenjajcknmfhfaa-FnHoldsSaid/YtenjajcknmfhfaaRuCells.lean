/- Four cells just laid. No program is named here. -/
import Derived.Test.YtenjajcknmfhfaaCells
namespace Go.Proofs.Ytenjajcknmfhfaa
set_option linter.unusedVariables false
open Go.RowKit

theorem cells4_new' (w : World) (a b c d : Value) (t : TypeId) {k : Nat} (hk : k = w.heap.size) : ∀ j u, [a, b, c, d][j]? = some u → (w.alloc (.cells #[a, b, c, d] t (0, 0))).cell? ((⟨k, 0, none⟩ : Addr).add j) = some u := by
  subst hk
  intro j u hj
  rw [Addr.add_lit]
  simp only [Nat.zero_add]
  match j, hj with
  | 0, h => cases h; exact cell_new w _ _ 0 rfl
  | 1, h => cases h; exact cell_new w _ _ 1 rfl
  | 2, h => cases h; exact cell_new w _ _ 2 rfl
  | 3, h => cases h; exact cell_new w _ _ 3 rfl
end Go.Proofs.Ytenjajcknmfhfaa
