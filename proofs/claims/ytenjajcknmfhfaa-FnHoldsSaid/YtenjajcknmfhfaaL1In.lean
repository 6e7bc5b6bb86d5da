/- Whether a number lies between two. -/
import Derived.Test.YtenjajcknmfhfaaOwn
import Derived.Test.YtenjajcknmfhfaaProg
import Derived.WalkSmall
import Derived.Deep.RegionHeld3
namespace Go.Proofs.Ytenjajcknmfhfaa
set_option linter.unusedVariables false
open Go.RowKit

theorem l1In_any (x lo hi : Int) (w : World) : Calls Try.prog 79 #[.int .i64 x, .int .i64 lo, .int .i64 hi] w fun e w' => e = .returned (.bool (decide (lo ≤ x ∧ x ≤ hi))) ∧ w' = w := by
  by_cases h1 : lo ≤ x
  · by_cases h2 : x ≤ hi
    all_goals
      go_enter Try.func79, Try.ntmps79
      go_wp2
      go_ret
      exact ⟨ret_bool (by simp; omega), rfl⟩
  · go_enter Try.func79, Try.ntmps79
    go_wp2
    go_ret
    exact ⟨ret_bool (by simp; omega), rfl⟩

end Go.Proofs.Ytenjajcknmfhfaa
