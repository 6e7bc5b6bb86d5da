/- An argument of integers: what the frame reads. -/
import Derived.Test.YtedckfbjhhabgaaIntsN
import Derived.Test.YtedckfbjhhabgaaFrame
import Derived.Test.YtedckfbjhhabgaaArg
namespace Go.Proofs.Ytedckfbjhhabgaa
set_option linter.unusedVariables false
set_option maxRecDepth 20000
open Go.RowKit Go.ChangeShapes Go.WideShapes Go.Deep
theorem arg_ints {H : Type} {enc : TypeId × Value → H} {w : World} {base b0 : Nat} {spare : Nat → Bool} {held : Bool} {r : Reach} {v : Value} {d : DataW H} {p : List MemPlace}
    (hv : Value.okWide Try.prog w r b0 30 v) (h : DataW.Trod enc Try.prog w base spare held 30 v d p) : ∃ x, RowOf vI w v x := by
  obtain ⟨a, len, cap, rfl⟩ := okWide_slice Try.underlying30 hv
  obtain ⟨fuel, hf⟩ := h
  obtain ⟨x, s, e, hx⟩ := opens_ints Try.underlying30 Try.underlying3 (by kernel_rfl) enc w base spare held fuel _ _ hf
  obtain rfl : Value.slice a len cap = s := by simpa [Value.cells] using e
  exact ⟨x, hx⟩
end Go.Proofs.Ytedckfbjhhabgaa
