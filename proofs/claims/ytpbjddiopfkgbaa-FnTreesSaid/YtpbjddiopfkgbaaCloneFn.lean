/- slices.Clone at functions. -/
import Derived.Test.YtpbjddiopfkgbaaToFn
import Derived.Test.YtpbjddiopfkgbaaFlat
import Derived.ArgAppend
import Derived.Shelf.SlicesE.Clone
namespace Go.Proofs.Ytpbjddiopfkgbaa
set_option linter.unusedVariables false
open Go.RowKit

theorem fnC_len (f : Fn) : (fnC f).length = 3 := rfl
theorem fnC_one (f : Fn) : ∀ u ∈ fnC f, u.oneCell' = true := by
  intro u hu
  simp [fnC] at hu
  rcases hu with rfl | rfl | rfl <;> rfl
theorem FnsO.of_row {lo n : Nat} {w : World} {v : Value} {t : List Fn} (h : w.ownsRow lo 36 3 v n ((t.map fnC).flatten)) (hn : n = t.length) (hok : ∀ f ∈ t, f.ok) : FnsO lo w.heap.size w v t :=
  ⟨⟨by rw [List.length_map, ← hn]; exact h, fun cs hc => by obtain ⟨x, _, rfl⟩ := List.mem_map.1 hc; rfl⟩, hok, fun g hg => (h.lt g hg).2⟩

end Go.Proofs.Ytpbjddiopfkgbaa
