/- Arguments of plain types: how they read. -/
import Derived.Test.YtenjajcknmfhfaaFrame
import Derived.Test.YtenjajcknmfhfaaOpen
namespace Go.Proofs.Ytenjajcknmfhfaa
set_option linter.unusedVariables false
set_option maxRecDepth 20000
open Go.RowKit Go.ChangeShapes Go.WideShapes Go.Deep

section
variable {H : Type} {enc : TypeId × Value → H} {w : World} {base b0 : Nat} {spare : Nat → Bool} {held : Bool} {r : Reach} {v : Value} {d : DataW H} {p : List MemPlace}
theorem arg_int (hv : Value.okWide Try.prog w r b0 3 v) (h : DataW.Trod enc Try.prog w base spare held 3 v d p) : ∃ x, v = .int .i64 x ∧ inI x := by
  obtain ⟨n, rfl⟩ := okWide_int Try.underlying3 hv
  obtain ⟨fuel, hf⟩ := h
  obtain ⟨x, e, hx⟩ := opens_int Try.underlying3 enc w base spare held fuel _ _ hf
  exact ⟨x, by simpa [Value.cells] using e, hx⟩
theorem arg_str (hv : Value.okWide Try.prog w r b0 9 v) (h : DataW.Trod enc Try.prog w base spare held 9 v d p) : ∃ x, v = .string x ∧ x.size ≤ maxLen := by
  obtain ⟨n, rfl⟩ := okWide_string Try.underlying9 hv
  obtain ⟨fuel, hf⟩ := h
  obtain ⟨x, e, hx⟩ := opens_str Try.underlying9 enc w base spare held fuel _ _ hf
  exact ⟨x, by simpa [Value.cells] using e, hx⟩
end
end Go.Proofs.Ytenjajcknmfhfaa
