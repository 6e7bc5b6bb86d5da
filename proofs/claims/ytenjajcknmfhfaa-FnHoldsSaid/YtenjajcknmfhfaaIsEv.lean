/- What an event and a record are, and the small functions that say it. -/
import Derived.Test.YtenjajcknmfhfaaTyRec
import Derived.Test.YtenjajcknmfhfaaL1In
import Derived.Test.YtenjajcknmfhfaaDayI
import Derived.Test.YtenjajcknmfhfaaOwn
import Derived.Test.YtenjajcknmfhfaaProg
import Derived.WalkSmall
import Derived.Deep.RegionHeld3
namespace Go.Proofs.Ytenjajcknmfhfaa
set_option linter.unusedVariables false
open Go.RowKit

def isEv (e : Ev) : Bool := decide (1 ≤ e.kind ∧ e.kind ≤ 9 ∧ 0 ≤ e.day ∧ e.day ≤ 20000)

theorem isSeries_any (x : Int) (w : World) : Calls Try.prog 90 #[.int .i64 x] w fun e w' => e = .returned (.bool (decide (1 ≤ x ∧ x ≤ 99))) ∧ w' = w := by
  by_cases h1 : 1 ≤ x
  · by_cases h2 : x ≤ 99
    all_goals
      go_enter Try.func90, Try.ntmps90
      go_wp2
      go_ret
      exact ⟨ret_bool (by simp; omega), rfl⟩
  · go_enter Try.func90, Try.ntmps90
    go_wp2
    go_ret
    exact ⟨ret_bool (by simp; omega), rfl⟩

theorem l2Event_any (x : Ev) (w : World) : Calls Try.prog 182 #[.agg #[.int .i64 x.kind, .int .i64 x.day]] w fun e w' => e = .returned (.bool (isEv x)) ∧ Below w.heap.size w w' := by
  obtain ⟨k, d⟩ := x
  by_cases h1 : 1 ≤ k ∧ k ≤ 9
  all_goals
    go_enter Try.func182, Try.ntmps182
    go_wp2_with (first
      | (go_at_call 79; refine (l1In_any _ _ _ _).mono ?_; (first | rw [decide_eq_true h1] | rw [decide_eq_false h1]); rintro e w' ⟨rfl, rfl⟩)
      | (go_at_call 115; refine (l2Day_any _ _).mono ?_; rintro e w' ⟨rfl, rfl⟩))
    go_ret
    exact ⟨ret_bool (by first | (simp [*, isEv]; done) | (simp [isEv]; omega)), below_al (Below.refl _ _) _⟩

theorem implIsEvent_any (x : Ev) (w : World) : Calls Try.prog 162 #[.agg #[.int .i64 x.kind, .int .i64 x.day]] w fun e w' => e = .returned (.bool (isEv x)) ∧ Below w.heap.size w w' := by
  obtain ⟨k, d⟩ := x
  by_cases h1 : 1 ≤ k
  · by_cases h2 : k ≤ 9
    all_goals
      go_enter Try.func162, Try.ntmps162
      go_wp2_with (first
        | (go_at_call 111; refine (isDay_any _ _).mono ?_; rintro e w' ⟨rfl, rfl⟩))
      go_ret
      exact ⟨ret_bool (by first | (simp [*, isEv]; done) | (simp [isEv]; omega)), below_al (Below.refl _ _) _⟩
  · go_enter Try.func162, Try.ntmps162
    go_wp2_with fail
    go_ret
    exact ⟨ret_bool (by first | (simp [*, isEv]; done) | (simp [isEv]; omega)), below_al (Below.refl _ _) _⟩
end Go.Proofs.Ytenjajcknmfhfaa
