/- What a word and a function are: the model's and the program's functions that say it. -/
import Derived.Test.YtapbajficopnlaaFnM
import Derived.Test.YtapbajficopnlaaTyFn
import Derived.Test.YtapbajficopnlaaL1In
import Derived.Test.YtapbajficopnlaaCells
import Derived.Test.YtapbajficopnlaaBytesNe
import Derived.Test.YtapbajficopnlaaWord
namespace Go.Proofs.Ytapbajficopnlaa
set_option linter.unusedVariables false
open Go.RowKit

theorem specFn_any (x : Fn) (w : World) (hs : x.name.size ≤ maxLen) : Calls Try.prog 78 #[.agg #[.int .i64 x.id, .int .i64 x.parent, .string x.name]] w fun e w' => e = .returned (.bool (isFn x)) ∧ Below w.heap.size w w' := by
  obtain ⟨i, p, s⟩ := x
  simp only at hs ⊢
  obtain ⟨b1, hb1⟩ : ∃ b, decide (1 ≤ i ∧ i ≤ 99) = b := ⟨_, rfl⟩
  obtain ⟨b2, hb2⟩ : ∃ b, decide (0 ≤ p ∧ p ≤ i - 1) = b := ⟨_, rfl⟩
  have HB1 := Lib.hid hb1
  have HB2 := Lib.hid hb2
  have e2 : decide (0 ≤ p ∧ p < i) = b2 := by rw [← hb2]; apply decide_eq_decide.2; omega
  have E2 := Lib.hid e2
  clear hb1 hb2 e2
  cases b1
  · go_enter Try.func78, Try.ntmps78
    go_wp2_with (first | (go_at_call 106; refine (l1In_any _ _ _ _).mono ?_; rw [HB1.out]; rintro e w' ⟨rfl, rfl⟩))
    go_ret
    exact ⟨ret_bool (Eq.symm (by simp only [isFn]; rw [HB1.out]; rfl)), below_al (Below.refl _ _) _⟩
  · have hi : IntKind.i64.wrap (i - 1) = i - 1 := Go.IntWalk.i64_in _ (by have := of_decide_eq_true HB1.out; omega)
    cases b2
    · go_enter Try.func78, Try.ntmps78
      go_wp2_with (first | (go_at_call 106; refine (l1In_any _ _ _ _).mono ?_; (first | rw [HB1.out] | rw [HB2.out]); rintro e w' ⟨rfl, rfl⟩))
      go_ret
      exact ⟨ret_bool (Eq.symm (by simp only [isFn]; rw [HB1.out, E2.out]; rfl)), below_al (Below.refl _ _) _⟩
    · go_enter Try.func78, Try.ntmps78
      go_wp2_with (first | (go_at_call 106; refine (l1In_any _ _ _ _).mono ?_; (first | rw [HB1.out] | rw [HB2.out]); rintro e w' ⟨rfl, rfl⟩) | (go_at_call 107; refine (l2Word_any _ _ hs).mono ?_; rintro e w' ⟨rfl, rfl⟩))
      go_ret
      exact ⟨ret_bool (Eq.symm (by simp only [isFn]; rw [HB1.out, E2.out]; rfl)), below_al (Below.refl _ _) _⟩

theorem implIsFn_any (x : Fn) (w : World) (hs : x.name.size ≤ maxLen) : Calls Try.prog 39 #[.agg #[.int .i64 x.id, .int .i64 x.parent, .string x.name]] w fun e w' => e = .returned (.bool (isFn x)) ∧ Below w.heap.size w w' := by
  obtain ⟨i, p, s⟩ := x
  simp only at hs ⊢
  by_cases h1 : 0 ≤ p
  · by_cases h2 : p < i
    · by_cases h3 : i ≤ 99
      · go_enter Try.func39, Try.ntmps39
        go_wp2_with (first | (go_at_call 77; refine (implIsWord_any _ _ hs).mono ?_; rintro e w' ⟨rfl, rfl⟩))
        go_ret
        exact ⟨ret_bool (Eq.symm (by simp only [isFn]; rw [decide_eq_true (show 1 ≤ i ∧ i ≤ 99 by omega), decide_eq_true (show 0 ≤ p ∧ p < i by omega)]; rfl)), below_al (Below.refl _ _) _⟩
      · go_enter Try.func39, Try.ntmps39
        go_wp2_with fail
        go_ret
        exact ⟨ret_bool (Eq.symm (by simp only [isFn]; rw [decide_eq_false (show ¬ (1 ≤ i ∧ i ≤ 99) by omega)]; rfl)), below_al (Below.refl _ _) _⟩
    · go_enter Try.func39, Try.ntmps39
      go_wp2_with fail
      go_ret
      exact ⟨ret_bool (Eq.symm (by simp only [isFn]; rw [decide_eq_false (show ¬ (0 ≤ p ∧ p < i) by omega)]; simp)), below_al (Below.refl _ _) _⟩
  · go_enter Try.func39, Try.ntmps39
    go_wp2_with fail
    go_ret
    exact ⟨ret_bool (Eq.symm (by simp only [isFn]; rw [decide_eq_false (show ¬ (0 ≤ p ∧ p < i) by omega)]; simp)), below_al (Below.refl _ _) _⟩

theorem specIsFn_any (x : Fn) (w : World) (hs : x.name.size ≤ maxLen) : Calls Try.prog 40 #[.agg #[.int .i64 x.id, .int .i64 x.parent, .string x.name]] w fun e w' => e = .returned (.bool (isFn x)) ∧ Below w.heap.size w w' := by
  go_enter Try.func40, Try.ntmps40
  go_wp2_with (first | (go_at_call 78; refine (specFn_any x _ hs).mono ?_; rintro e w' ⟨rfl, hb'⟩))
  go_ret
  exact ⟨rfl, below_chain (below_al (Below.refl _ _) _) hb'⟩
end Go.Proofs.Ytapbajficopnlaa
