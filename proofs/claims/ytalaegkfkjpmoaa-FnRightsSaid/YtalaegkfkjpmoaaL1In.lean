/- Whether a number lies between two. -/
import Derived.Test.YtalaegkfkjpmoaaOwn
import Derived.Test.YtalaegkfkjpmoaaProg
import Derived.WalkSmall
import Derived.Deep.RegionHeld3
namespace Go.Proofs.Ytalaegkfkjpmoaa
set_option linter.unusedVariables false
open Go.RowKit

theorem l1In_any (x lo hi : Int) (w : World) : Calls Try.prog 112 #[.int .i64 x, .int .i64 lo, .int .i64 hi] w fun e w' => e = .returned (.bool (decide (lo ≤ x ∧ x ≤ hi))) ∧ w' = w := by
  by_cases h1 : lo ≤ x
  · by_cases h2 : x ≤ hi
    all_goals
      go_enter Try.func112, Try.ntmps112
      go_wp2
      go_ret
      exact ⟨ret_bool (by simp; omega), rfl⟩
  · go_enter Try.func112, Try.ntmps112
    go_wp2
    go_ret
    exact ⟨ret_bool (by simp; omega), rfl⟩

end Go.Proofs.Ytalaegkfkjpmoaa
