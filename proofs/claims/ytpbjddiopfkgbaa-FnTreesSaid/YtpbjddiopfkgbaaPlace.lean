/- Where a function lies in a tree: slices.IndexFunc with the program's own test, and placeInTree. -/
import Derived.Test.YtpbjddiopfkgbaaFindF
import Derived.Test.YtpbjddiopfkgbaaTreeI
namespace Go.Proofs.Ytpbjddiopfkgbaa
set_option linter.unusedVariables false
open Go.RowKit Go.Sort

theorem Own.at_some {lo e size : Nat} {w : World} {v : Value} {css : List (List Value)} (h : Own lo e size w v css) (hn : 0 < css.length) : ∃ g cap, v = .slice (some ⟨g, 0, none⟩) css.length cap ∧ g < w.heap.size ∧ lo ≤ g := by
  rcases h.form with ⟨_, rfl⟩ | ⟨g, cap, h1, h2, h3, _⟩
  · simp at hn
  · exact ⟨g, cap, h1, h3, h2⟩



end Go.Proofs.Ytpbjddiopfkgbaa
