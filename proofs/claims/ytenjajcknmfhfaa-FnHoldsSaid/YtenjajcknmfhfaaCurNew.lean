/- What the cursor gives out of a row that has just been laid. -/
import Derived.Test.YtenjajcknmfhfaaPick
namespace Go.Proofs.Ytenjajcknmfhfaa
set_option linter.unusedVariables false
open Go.RowKit

/-- The cells of a row of texts that has just been laid. -/
theorem new_cells (w : World) (ss : List ByteArray) (T : Nat) (C : Array Value) (hC : C = (ss.map Value.string).toArray) : ∀ i (hi : i < ss.length), (w.alloc (.cells C T)).cell? ⟨w.heap.size, 0 + i, none⟩ = some (.string ss[i]) := fun i hi => by
  subst hC
  rw [Nat.zero_add]
  simp [World.cell?_alloc_mark, hi]

theorem below_of_cur {w w' : World} {B : Nat} (h : w.grownBy w' (some B)) (hB : B ≤ w.heap.size) : Below B w w' := below_of_grownBy h hB (fun k e => by cases e; exact Nat.le_refl _)
theorem new_nums (w : World) (xs : List Int) (T : Nat) (C : Array Value) (hC : C = (xs.map (Value.int .i64)).toArray) : ∀ i (hi : i < xs.length), (w.alloc (.cells C T)).cell? ⟨w.heap.size, 0 + i, none⟩ = some (.int .i64 xs[i]) := fun i hi => by
  subst hC
  rw [Nat.zero_add]
  simp [World.cell?_alloc_mark, hi]
end Go.Proofs.Ytenjajcknmfhfaa
