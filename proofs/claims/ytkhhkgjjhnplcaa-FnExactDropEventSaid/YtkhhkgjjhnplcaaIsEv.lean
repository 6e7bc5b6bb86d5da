/- What an event and a record are, and the small functions that say it. -/
import Derived.Test.YtkhhkgjjhnplcaaTyRec
import Derived.Test.YtkhhkgjjhnplcaaOwn
import Derived.Test.YtkhhkgjjhnplcaaProg
import Derived.WalkSmall
import Derived.Deep.RegionHeld3
namespace Go.Proofs.Ytkhhkgjjhnplcaa
set_option linter.unusedVariables false
open Go.RowKit

def isEv (e : Ev) : Bool := decide (1 ≤ e.kind ∧ e.kind ≤ 9 ∧ 0 ≤ e.day ∧ e.day ≤ 20000)

theorem l1In_any (x lo hi : Int) (w : World) : Calls Try.prog 53 #[.int .i64 x, .int .i64 lo, .int .i64 hi] w fun e w' => e = .returned (.bool (decide (lo ≤ x ∧ x ≤ hi))) ∧ w' = w := by
  by_cases h1 : lo ≤ x
  · by_cases h2 : x ≤ hi
    all_goals
      go_enter Try.func53, Try.ntmps53
      go_wp2
      go_ret
      exact ⟨ret_bool (by simp; omega), rfl⟩
  · go_enter Try.func53, Try.ntmps53
    go_wp2
    go_ret
    exact ⟨ret_bool (by simp; omega), rfl⟩

theorem l2Day_any (x : Int) (w : World) : Calls Try.prog 54 #[.int .i64 x] w fun e w' => e = .returned (.bool (decide (0 ≤ x ∧ x ≤ 20000))) ∧ w' = w := by
  go_enter Try.func54, Try.ntmps54
  go_wp2_with (first | (go_at_call 53; refine (l1In_any _ _ _ _).mono ?_; rintro e w' ⟨rfl, rfl⟩))
  go_ret
  exact ⟨ret_bool (by simp), rfl⟩

theorem isDay_any (x : Int) (w : World) : Calls Try.prog 41 #[.int .i64 x] w fun e w' => e = .returned (.bool (decide (0 ≤ x ∧ x ≤ 20000))) ∧ w' = w := by
  by_cases h1 : 0 ≤ x
  · by_cases h2 : x ≤ 20000
    all_goals
      go_enter Try.func41, Try.ntmps41
      go_wp2
      go_ret
      exact ⟨ret_bool (by simp; omega), rfl⟩
  · go_enter Try.func41, Try.ntmps41
    go_wp2
    go_ret
    exact ⟨ret_bool (by simp; omega), rfl⟩

theorem isSeries_any (x : Int) (w : World) : Calls Try.prog 45 #[.int .i64 x] w fun e w' => e = .returned (.bool (decide (1 ≤ x ∧ x ≤ 99))) ∧ w' = w := by
  by_cases h1 : 1 ≤ x
  · by_cases h2 : x ≤ 99
    all_goals
      go_enter Try.func45, Try.ntmps45
      go_wp2
      go_ret
      exact ⟨ret_bool (by simp; omega), rfl⟩
  · go_enter Try.func45, Try.ntmps45
    go_wp2
    go_ret
    exact ⟨ret_bool (by simp; omega), rfl⟩

theorem l2Event_any (x : Ev) (w : World) : Calls Try.prog 40 #[.agg #[.int .i64 x.kind, .int .i64 x.day]] w fun e w' => e = .returned (.bool (isEv x)) ∧ Below w.heap.size w w' := by
  obtain ⟨k, d⟩ := x
  by_cases h1 : 1 ≤ k ∧ k ≤ 9
  all_goals
    go_enter Try.func40, Try.ntmps40
    go_wp2_with (first
      | (go_at_call 53; refine (l1In_any _ _ _ _).mono ?_; (first | rw [decide_eq_true h1] | rw [decide_eq_false h1]); rintro e w' ⟨rfl, rfl⟩)
      | (go_at_call 54; refine (l2Day_any _ _).mono ?_; rintro e w' ⟨rfl, rfl⟩))
    go_ret
    exact ⟨ret_bool (by first | (simp [*, isEv]; done) | (simp [isEv]; omega)), below_al (Below.refl _ _) _⟩

theorem implIsEvent_any (x : Ev) (w : World) : Calls Try.prog 13 #[.agg #[.int .i64 x.kind, .int .i64 x.day]] w fun e w' => e = .returned (.bool (isEv x)) ∧ Below w.heap.size w w' := by
  obtain ⟨k, d⟩ := x
  by_cases h1 : 1 ≤ k
  · by_cases h2 : k ≤ 9
    all_goals
      go_enter Try.func13, Try.ntmps13
      go_wp2_with (first
        | (go_at_call 41; refine (isDay_any _ _).mono ?_; rintro e w' ⟨rfl, rfl⟩))
      go_ret
      exact ⟨ret_bool (by first | (simp [*, isEv]; done) | (simp [isEv]; omega)), below_al (Below.refl _ _) _⟩
  · go_enter Try.func13, Try.ntmps13
    go_wp2_with fail
    go_ret
    exact ⟨ret_bool (by first | (simp [*, isEv]; done) | (simp [isEv]; omega)), below_al (Below.refl _ _) _⟩
end Go.Proofs.Ytkhhkgjjhnplcaa
