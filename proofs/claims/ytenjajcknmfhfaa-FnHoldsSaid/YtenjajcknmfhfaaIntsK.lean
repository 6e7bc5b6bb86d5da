/- Lists of numbers of the call's own: made, and how they lie. -/
import Derived.Test.YtenjajcknmfhfaaInSer1
namespace Go.Proofs.Ytenjajcknmfhfaa
set_option linter.unusedVariables false
open Go.RowKit

theorem ints_rowK {lo n : Nat} {w : World} {v : Value} {xs : List Int} (h : w.ownsRow lo 3 1 v n (xs.map vI)) (hn : n = xs.length) : IntsO lo w.heap.size w v xs := ⟨by rw [← hn]; exact h, fun g hg => (h.lt g hg).2⟩
theorem ints_newK (w : World) : IntsO w.heap.size (w.alloc (.cells #[] 3 (0, 0))).heap.size (w.alloc (.cells #[] 3 (0, 0))) (.slice (some ⟨w.heap.size, 0, none⟩) 0 0) [] := ints_rowK (World.ownsRow_made w #[] 0 (Nat.le_refl _) (Nat.zero_le _) rfl) rfl
theorem ints_nilK (lo hi : Nat) (w : World) : IntsO lo hi w (.slice none 0 0) [] := ⟨World.ownsRow_nil _ _ _ _, Under.nil _ _ _⟩
end Go.Proofs.Ytenjajcknmfhfaa
