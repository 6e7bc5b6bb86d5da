/- Files, the model's: l5One, IsFile, l5Good, AreFiles. -/
import Derived.Test.YtpbjddiopfkgbaaDoorSlFi
import Derived.Test.YtpbjddiopfkgbaaDoorL1In
import Derived.Test.YtpbjddiopfkgbaaDoorWord
import Derived.Test.YtpbjddiopfkgbaaDoorDayI
import Derived.Lib.QuietBelow
import Derived.BigQuiet
import Derived.WalkSmall
namespace Go.Proofs.YtpbjddiopfkgbaaDoor
set_option linter.unusedVariables false
open Go.RowKit Go.Sort

set_option maxHeartbeats 2000000 in
theorem specFi_any (x : Fi) (w : World) (hs : x.title.size ≤ maxLen) : Calls Tryd.prog 68 #[.agg #[.int .i64 x.id, .int .i64 x.series, .string x.title, .int .i64 x.opened, .int .i64 x.closed, .int .i64 x.state, .int .i64 x.pages]] w fun e w' => e = .returned (.bool (isFi x)) ∧ Below w.heap.size w w' := by
  obtain ⟨x0, x1, x2, x3, x4, x5, x6⟩ := x
  simp only at hs
  simp only
  obtain ⟨b0, h0⟩ : ∃ b, decide (1 ≤ x0 ∧ x0 ≤ 999) = b := ⟨_, rfl⟩
  obtain ⟨b1, h1⟩ : ∃ b, decide (1 ≤ x1 ∧ x1 ≤ 99) = b := ⟨_, rfl⟩
  obtain ⟨b2, h2⟩ : ∃ b, isWord x2 = b := ⟨_, rfl⟩
  obtain ⟨b3, h3⟩ : ∃ b, decide (0 ≤ x3 ∧ x3 ≤ 20000) = b := ⟨_, rfl⟩
  obtain ⟨b4, h4⟩ : ∃ b, decide (0 ≤ x5 ∧ x5 ≤ 2) = b := ⟨_, rfl⟩
  obtain ⟨b5, h5⟩ : ∃ b, decide (0 ≤ x6 ∧ x6 ≤ 5000) = b := ⟨_, rfl⟩
  obtain ⟨b6, h6⟩ : ∃ b, decide (0 ≤ x4 ∧ x4 ≤ 20000) = b := ⟨_, rfl⟩
  obtain ⟨b7, h7⟩ : ∃ b, (if x5 = 0 then decide (x4 = 0) else b6 && decide (x3 ≤ x4)) = b := ⟨_, rfl⟩
  have hr : isFi ⟨x0, x1, x2, x3, x4, x5, x6⟩ = (b0 && (b1 && (b2 && (b3 && (b4 && (b5 && b7)))))) := by simp only [isFi, closedB]; rw [h0, h1, h2, h3, h4, h5, h6, h7]
  rw [hr]
  have H0 := Lib.hid h0
  have H1 := Lib.hid h1
  have H2 := Lib.hid h2
  have H3 := Lib.hid h3
  have H4 := Lib.hid h4
  have H5 := Lib.hid h5
  have H6 := Lib.hid h6
  have H7 := Lib.hid h7
  clear h0 h1 h2 h3 h4 h5 h6 h7 hr
  cases b0
  · go_enter Tryd.func68, Tryd.ntmps68
    go_wp2_with (first | (go_at_call 70; refine (l1In_any _ _ _ _).mono ?_; (first | rw [H0.out] | rw [H1.out] | rw [H4.out] | rw [H5.out]); rintro e w' ⟨rfl, rfl⟩) | (go_at_call 86; refine (l2Word_any _ _ hs).mono ?_; rw [H2.out]; rintro e w' ⟨rfl, rfl⟩) | (go_at_call 61; refine (l2Day_any _ _).mono ?_; (first | rw [H3.out] | rw [H6.out]); rintro e w' ⟨rfl, rfl⟩))
    go_ret
    exact ⟨rfl, below_al (Below.refl _ _) _⟩
  · skip
    cases b1
    · go_enter Tryd.func68, Tryd.ntmps68
      go_wp2_with (first | (go_at_call 70; refine (l1In_any _ _ _ _).mono ?_; (first | rw [H0.out] | rw [H1.out] | rw [H4.out] | rw [H5.out]); rintro e w' ⟨rfl, rfl⟩) | (go_at_call 86; refine (l2Word_any _ _ hs).mono ?_; rw [H2.out]; rintro e w' ⟨rfl, rfl⟩) | (go_at_call 61; refine (l2Day_any _ _).mono ?_; (first | rw [H3.out] | rw [H6.out]); rintro e w' ⟨rfl, rfl⟩))
      go_ret
      exact ⟨rfl, below_al (Below.refl _ _) _⟩
    · skip
      cases b2
      · go_enter Tryd.func68, Tryd.ntmps68
        go_wp2_with (first | (go_at_call 70; refine (l1In_any _ _ _ _).mono ?_; (first | rw [H0.out] | rw [H1.out] | rw [H4.out] | rw [H5.out]); rintro e w' ⟨rfl, rfl⟩) | (go_at_call 86; refine (l2Word_any _ _ hs).mono ?_; rw [H2.out]; rintro e w' ⟨rfl, rfl⟩) | (go_at_call 61; refine (l2Day_any _ _).mono ?_; (first | rw [H3.out] | rw [H6.out]); rintro e w' ⟨rfl, rfl⟩))
        go_ret
        exact ⟨rfl, below_al (Below.refl _ _) _⟩
      · skip
        cases b3
        · go_enter Tryd.func68, Tryd.ntmps68
          go_wp2_with (first | (go_at_call 70; refine (l1In_any _ _ _ _).mono ?_; (first | rw [H0.out] | rw [H1.out] | rw [H4.out] | rw [H5.out]); rintro e w' ⟨rfl, rfl⟩) | (go_at_call 86; refine (l2Word_any _ _ hs).mono ?_; rw [H2.out]; rintro e w' ⟨rfl, rfl⟩) | (go_at_call 61; refine (l2Day_any _ _).mono ?_; (first | rw [H3.out] | rw [H6.out]); rintro e w' ⟨rfl, rfl⟩))
          go_ret
          exact ⟨rfl, below_al (Below.refl _ _) _⟩
        · skip
          cases b4
          · go_enter Tryd.func68, Tryd.ntmps68
            go_wp2_with (first | (go_at_call 70; refine (l1In_any _ _ _ _).mono ?_; (first | rw [H0.out] | rw [H1.out] | rw [H4.out] | rw [H5.out]); rintro e w' ⟨rfl, rfl⟩) | (go_at_call 86; refine (l2Word_any _ _ hs).mono ?_; rw [H2.out]; rintro e w' ⟨rfl, rfl⟩) | (go_at_call 61; refine (l2Day_any _ _).mono ?_; (first | rw [H3.out] | rw [H6.out]); rintro e w' ⟨rfl, rfl⟩))
            go_ret
            exact ⟨rfl, below_al (Below.refl _ _) _⟩
          · skip
            cases b5
            · go_enter Tryd.func68, Tryd.ntmps68
              go_wp2_with (first | (go_at_call 70; refine (l1In_any _ _ _ _).mono ?_; (first | rw [H0.out] | rw [H1.out] | rw [H4.out] | rw [H5.out]); rintro e w' ⟨rfl, rfl⟩) | (go_at_call 86; refine (l2Word_any _ _ hs).mono ?_; rw [H2.out]; rintro e w' ⟨rfl, rfl⟩) | (go_at_call 61; refine (l2Day_any _ _).mono ?_; (first | rw [H3.out] | rw [H6.out]); rintro e w' ⟨rfl, rfl⟩))
              go_ret
              exact ⟨rfl, below_al (Below.refl _ _) _⟩
            · skip
              by_cases z5 : x5 = 0
              · subst z5
                by_cases z4 : x4 = 0
                · subst z4
                  go_enter Tryd.func68, Tryd.ntmps68
                  go_wp2_with (first | (go_at_call 70; refine (l1In_any _ _ _ _).mono ?_; (first | rw [H0.out] | rw [H1.out] | rw [H4.out] | rw [H5.out]); rintro e w' ⟨rfl, rfl⟩) | (go_at_call 86; refine (l2Word_any _ _ hs).mono ?_; rw [H2.out]; rintro e w' ⟨rfl, rfl⟩) | (go_at_call 61; refine (l2Day_any _ _).mono ?_; (first | rw [H3.out] | rw [H6.out]); rintro e w' ⟨rfl, rfl⟩))
                  go_ret
                  exact ⟨ret_bool (by rw [← H7.out]; simp), below_al (Below.refl _ _) _⟩
                · have e4 : (x4 == 0) = false := by simp [z4]
                  have Z4 := Lib.hid z4
                  clear z4
                  go_enter Tryd.func68, Tryd.ntmps68
                  go_wp2_with (first | (go_at_call 70; refine (l1In_any _ _ _ _).mono ?_; (first | rw [H0.out] | rw [H1.out] | rw [H4.out] | rw [H5.out]); rintro e w' ⟨rfl, rfl⟩) | (go_at_call 86; refine (l2Word_any _ _ hs).mono ?_; rw [H2.out]; rintro e w' ⟨rfl, rfl⟩) | (go_at_call 61; refine (l2Day_any _ _).mono ?_; (first | rw [H3.out] | rw [H6.out]); rintro e w' ⟨rfl, rfl⟩))
                  go_ret
                  exact ⟨ret_bool (by rw [← H7.out]; have := Z4.out; simp [this]), below_al (Below.refl _ _) _⟩
              · have e5 : (x5 == 0) = false := by simp [z5]
                have Z5 := Lib.hid z5
                clear z5
                cases b6
                · go_enter Tryd.func68, Tryd.ntmps68
                  go_wp2_with (first | (go_at_call 70; refine (l1In_any _ _ _ _).mono ?_; (first | rw [H0.out] | rw [H1.out] | rw [H4.out] | rw [H5.out]); rintro e w' ⟨rfl, rfl⟩) | (go_at_call 86; refine (l2Word_any _ _ hs).mono ?_; rw [H2.out]; rintro e w' ⟨rfl, rfl⟩) | (go_at_call 61; refine (l2Day_any _ _).mono ?_; (first | rw [H3.out] | rw [H6.out]); rintro e w' ⟨rfl, rfl⟩))
                  go_ret
                  exact ⟨ret_bool (by rw [← H7.out]; have := Z5.out; simp [this]), below_al (Below.refl _ _) _⟩
                · go_enter Tryd.func68, Tryd.ntmps68
                  go_wp2_with (first | (go_at_call 70; refine (l1In_any _ _ _ _).mono ?_; (first | rw [H0.out] | rw [H1.out] | rw [H4.out] | rw [H5.out]); rintro e w' ⟨rfl, rfl⟩) | (go_at_call 86; refine (l2Word_any _ _ hs).mono ?_; rw [H2.out]; rintro e w' ⟨rfl, rfl⟩) | (go_at_call 61; refine (l2Day_any _ _).mono ?_; (first | rw [H3.out] | rw [H6.out]); rintro e w' ⟨rfl, rfl⟩))
                  go_ret
                  exact ⟨ret_bool (by rw [← H7.out]; have := Z5.out; simp [this]), below_al (Below.refl _ _) _⟩

theorem specIsFile_any (x : Fi) (w : World) (hs : x.title.size ≤ maxLen) : Calls Tryd.prog 28 #[.agg #[.int .i64 x.id, .int .i64 x.series, .string x.title, .int .i64 x.opened, .int .i64 x.closed, .int .i64 x.state, .int .i64 x.pages]] w fun e w' => e = .returned (.bool (isFi x)) ∧ Below w.heap.size w w' := by
  go_enter Tryd.func28, Tryd.ntmps28
  go_wp2_with (first | (go_at_call 68; refine (specFi_any x _ hs).mono ?_; rintro e w' ⟨rfl, hb'⟩))
  go_ret
  exact ⟨rfl, below_chain (below_al (Below.refl _ _) _) hb'⟩
end Go.Proofs.YtpbjddiopfkgbaaDoor
