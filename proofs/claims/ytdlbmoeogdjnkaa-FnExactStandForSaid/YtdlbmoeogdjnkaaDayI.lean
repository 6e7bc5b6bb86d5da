/- A day's range: the model's and the program's functions that say it. -/
import Derived.Test.YtdlbmoeogdjnkaaL1In
import Derived.Test.YtdlbmoeogdjnkaaProg
import Derived.WalkSmall
namespace Go.Proofs.Ytdlbmoeogdjnkaa
set_option linter.unusedVariables false
open Go.RowKit

theorem l2Day_any (x : Int) (w : World) : Calls Try.prog 52 #[.int .i64 x] w fun e w' => e = .returned (.bool (decide (0 ≤ x ∧ x ≤ 20000))) ∧ w' = w := by
  go_enter Try.func52, Try.ntmps52
  go_wp2_with (first | (go_at_call 65; refine (l1In_any _ _ _ _).mono ?_; rintro e w' ⟨rfl, rfl⟩))
  go_ret
  exact ⟨ret_bool (by simp), rfl⟩

theorem isDay_any (x : Int) (w : World) : Calls Try.prog 47 #[.int .i64 x] w fun e w' => e = .returned (.bool (decide (0 ≤ x ∧ x ≤ 20000))) ∧ w' = w := by
  by_cases h1 : 0 ≤ x
  · by_cases h2 : x ≤ 20000
    all_goals
      go_enter Try.func47, Try.ntmps47
      go_wp2
      go_ret
      exact ⟨ret_bool (by simp; omega), rfl⟩
  · go_enter Try.func47, Try.ntmps47
    go_wp2
    go_ret
    exact ⟨ret_bool (by simp; omega), rfl⟩
end Go.Proofs.Ytdlbmoeogdjnkaa
