/- What a word and a function are: the model's and the program's functions that say it. -/
import Derived.Test.YtpbjddiopfkgbaaFnM
import Derived.Test.YtpbjddiopfkgbaaTyFn
import Derived.Test.YtpbjddiopfkgbaaL1In
import Derived.Test.YtpbjddiopfkgbaaCells
import Derived.Test.YtpbjddiopfkgbaaBytesNe
import Derived.Test.YtpbjddiopfkgbaaWord
namespace Go.Proofs.Ytpbjddiopfkgbaa
set_option linter.unusedVariables false
open Go.RowKit

theorem specFn_any (x : Fn) (w : World) (hs : x.name.size ≤ maxLen) : Calls Try.prog 83 #[.agg #[.int .i64 x.id, .int .i64 x.parent, .string x.name]] w fun e w' => e = .returned (.bool (isFn x)) ∧ Below w.heap.size w w' := by
  obtain ⟨i, p, s⟩ := x
  simp only at hs ⊢
  obtain ⟨b1, hb1⟩ : ∃ b, decide (1 ≤ i ∧ i ≤ 99) = b := ⟨_, rfl⟩
  obtain ⟨b2, hb2⟩ : ∃ b, decide (0 ≤ p ∧ p ≤ i - 1) = b := ⟨_, rfl⟩
  have HB1 := Lib.hid hb1
  have HB2 := Lib.hid hb2
  have e2 : decide (0 ≤ p ∧ p < i) = b2 := by rw [← hb2]; apply decide_eq_decide.2; omega
  have E2 := Lib.hid e2
  clear hb1 hb2 e2
  cases b1
  · go_enter Try.func83, Try.ntmps83
    go_wp2_with (first | (go_at_call 72; refine (l1In_any _ _ _ _).mono ?_; rw [HB1.out]; rintro e w' ⟨rfl, rfl⟩))
    go_ret
    exact ⟨ret_bool (Eq.symm (by simp only [isFn]; rw [HB1.out]; rfl)), below_al (Below.refl _ _) _⟩
  · have hi : IntKind.i64.wrap (i - 1) = i - 1 := Go.IntWalk.i64_in _ (by have := of_decide_eq_true HB1.out; omega)
    cases b2
    · go_enter Try.func83, Try.ntmps83
      go_wp2_with (first | (go_at_call 72; refine (l1In_any _ _ _ _).mono ?_; (first | rw [HB1.out] | rw [HB2.out]); rintro e w' ⟨rfl, rfl⟩))
      go_ret
      exact ⟨ret_bool (Eq.symm (by simp only [isFn]; rw [HB1.out, E2.out]; rfl)), below_al (Below.refl _ _) _⟩
    · go_enter Try.func83, Try.ntmps83
      go_wp2_with (first | (go_at_call 72; refine (l1In_any _ _ _ _).mono ?_; (first | rw [HB1.out] | rw [HB2.out]); rintro e w' ⟨rfl, rfl⟩) | (go_at_call 90; refine (l2Word_any _ _ hs).mono ?_; rintro e w' ⟨rfl, rfl⟩))
      go_ret
      exact ⟨ret_bool (Eq.symm (by simp only [isFn]; rw [HB1.out, E2.out]; rfl)), below_al (Below.refl _ _) _⟩

theorem implIsFn_any (x : Fn) (w : World) (hs : x.name.size ≤ maxLen) : Calls Try.prog 61 #[.agg #[.int .i64 x.id, .int .i64 x.parent, .string x.name]] w fun e w' => e = .returned (.bool (isFn x)) ∧ Below w.heap.size w w' := by
  obtain ⟨i, p, s⟩ := x
  simp only at hs ⊢
  by_cases h1 : 0 ≤ p
  · by_cases h2 : p < i
    · by_cases h3 : i ≤ 99
      · go_enter Try.func61, Try.ntmps61
        go_wp2_with (first | (go_at_call 65; refine (implIsWord_any _ _ hs).mono ?_; rintro e w' ⟨rfl, rfl⟩))
        go_ret
        exact ⟨ret_bool (Eq.symm (by simp only [isFn]; rw [decide_eq_true (show 1 ≤ i ∧ i ≤ 99 by omega), decide_eq_true (show 0 ≤ p ∧ p < i by omega)]; rfl)), below_al (Below.refl _ _) _⟩
      · go_enter Try.func61, Try.ntmps61
        go_wp2_with fail
        go_ret
        exact ⟨ret_bool (Eq.symm (by simp only [isFn]; rw [decide_eq_false (show ¬ (1 ≤ i ∧ i ≤ 99) by omega)]; rfl)), below_al (Below.refl _ _) _⟩
    · go_enter Try.func61, Try.ntmps61
      go_wp2_with fail
      go_ret
      exact ⟨ret_bool (Eq.symm (by simp only [isFn]; rw [decide_eq_false (show ¬ (0 ≤ p ∧ p < i) by omega)]; simp)), below_al (Below.refl _ _) _⟩
  · go_enter Try.func61, Try.ntmps61
    go_wp2_with fail
    go_ret
    exact ⟨ret_bool (Eq.symm (by simp only [isFn]; rw [decide_eq_false (show ¬ (0 ≤ p ∧ p < i) by omega)]; simp)), below_al (Below.refl _ _) _⟩

end Go.Proofs.Ytpbjddiopfkgbaa
