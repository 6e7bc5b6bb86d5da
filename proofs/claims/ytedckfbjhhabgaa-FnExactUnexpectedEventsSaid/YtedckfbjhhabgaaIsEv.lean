/- What an event and a record are, and the small functions that say it. -/
import Derived.Test.YtedckfbjhhabgaaTyRec
import Derived.Test.YtedckfbjhhabgaaL1In
import Derived.Test.YtedckfbjhhabgaaDayI
import Derived.Test.YtedckfbjhhabgaaOwn
import Derived.Test.YtedckfbjhhabgaaProg
import Derived.WalkSmall
import Derived.Deep.RegionHeld3
namespace Go.Proofs.Ytedckfbjhhabgaa
set_option linter.unusedVariables false
open Go.RowKit

def isEv (e : Ev) : Bool := decide (1 ≤ e.kind ∧ e.kind ≤ 9 ∧ 0 ≤ e.day ∧ e.day ≤ 20000)

theorem isSeries_any (x : Int) (w : World) : Calls Try.prog 84 #[.int .i64 x] w fun e w' => e = .returned (.bool (decide (1 ≤ x ∧ x ≤ 99))) ∧ w' = w := by
  by_cases h1 : 1 ≤ x
  · by_cases h2 : x ≤ 99
    all_goals
      go_enter Try.func84, Try.ntmps84
      go_wp2
      go_ret
      exact ⟨ret_bool (by simp; omega), rfl⟩
  · go_enter Try.func84, Try.ntmps84
    go_wp2
    go_ret
    exact ⟨ret_bool (by simp; omega), rfl⟩


end Go.Proofs.Ytedckfbjhhabgaa
