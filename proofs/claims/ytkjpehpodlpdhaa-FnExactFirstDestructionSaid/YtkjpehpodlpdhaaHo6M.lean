/- When a record may be destroyed: what MayDestroy and FirstDestruction answer (chapter 9). No program is named here. -/
import Derived.Test.YtkjpehpodlpdhaaHoM
namespace Go.Proofs.Ytkjpehpodlpdhaa
set_option linter.unusedVariables false

theorem rule_none {r : Rec} {u : List Ru} (h : dueF r u < 0) : ruleF r u = ruD := by
  unfold dueF ruleF at *
  generalize forRu u r.series = us at *
  unfold decR at *
  by_cases ho : ∃ x ∈ us, endR r x < 0
  · rw [decF_open us _ _ ho]
  · have hs : ∀ x ∈ us, ¬ endR r x < 0 := fun x hx hn => ho ⟨x, hx, hn⟩
    obtain ⟨_, _, i3⟩ := decF_shut us ruD (-1) hs
    rcases i3 with ⟨e, _⟩ | ⟨e1, e2⟩
    · exact e
    · have := hs _ e1
      omega
theorem rule_act {r : Rec} {u : List Ru} (h : (ruleF r u).act = 3) : 0 ≤ dueF r u := by
  rcases Int.lt_or_le (dueF r u) 0 with h1 | h1
  · rw [rule_none h1] at h
    simp [ruD] at h
  · exact h1
theorem may_eq {t : List Ho} {r : Rec} {u : List Ru} {d : Int} {bq ba bh : Bool} (h1 : decide (0 ≤ dueF r u ∧ dueF r u ≤ d) = bq) (h2 : decide ((ruleF r u).act = 3) = ba) (h3 : heldB t r d = bh) : mayB t r u d = ((bq && ba) && !bh) := by
  unfold mayB
  rw [Bool.decide_and, h1, h2, h3]
theorem askH_zero {t : List Ho} {r : Rec} : askH t r 0 = true ↔ areHo t = true ∧ isRec r = true := by
  rw [askH_iff]
  constructor
  · rintro ⟨a, b, _⟩; exact ⟨a, b⟩
  · rintro ⟨a, b⟩; exact ⟨a, b, by omega⟩
theorem fd_free {t : List Ho} {r : Rec} {u : List Ru} (h : askB r u = true) (h0 : 0 ≤ dueF r u) (h3 : (ruleF r u).act = 3) : fdRes t r u = freRes t r (dueF r u) := by
  obtain ⟨hr, hu⟩ := ask_iff.1 h
  unfold fdRes freRes
  by_cases hc : fdAsk t r u = true
  · obtain ⟨q1, q2, q3, q4, q5⟩ := fdAsk_iff.1 hc
    rw [if_pos hc, if_pos ⟨askH_iff.2 ⟨(askH_zero.1 q1).1, hr, q3⟩, q5⟩]
  · rw [if_neg hc, if_neg]
    rintro ⟨q1, q2⟩
    obtain ⟨a, b, c⟩ := askH_iff.1 q1
    exact hc (fdAsk_iff.2 ⟨askH_zero.2 ⟨a, b⟩, hu, c, h3, q2⟩)
theorem fd_none {t : List Ho} {r : Rec} {u : List Ru} (h : askB r u = false ∨ dueF r u < 0 ∨ ¬ (ruleF r u).act = 3) : fdRes t r u = (0, false) := by
  unfold fdRes
  rw [if_neg]
  intro hc
  obtain ⟨q1, q2, q3, q4, q5⟩ := fdAsk_iff.1 hc
  rcases h with h | h | h
  · rw [ask_iff.2 ⟨(askH_zero.1 q1).2, q2⟩] at h; cases h
  · omega
  · exact h q4
end Go.Proofs.Ytkjpehpodlpdhaa
