/- A truth value that is handed in. -/
import Derived.Test.YtpbjddiopfkgbaaDoorArg
namespace Go.Proofs.YtpbjddiopfkgbaaDoor
set_option linter.unusedVariables false
set_option maxRecDepth 20000
open Go.RowKit Go.ChangeShapes Go.WideShapes Go.Deep
section
variable {H : Type} {enc : TypeId × Value → H} {w : World} {base b0 : Nat} {spare : Nat → Bool} {held : Bool} {r : Reach} {v : Value} {d : DataW H} {p : List MemPlace}
theorem arg_bool (hv : Value.okWide Tryd.prog w r b0 4 v) (h : DataW.Trod enc Tryd.prog w base spare held 4 v d p) : ∃ x : Bool, v = .bool x ∧ True := by
  obtain ⟨b, rfl⟩ := okWide_bool Tryd.underlying4 hv
  exact ⟨b, rfl, trivial⟩
end
end Go.Proofs.YtpbjddiopfkgbaaDoor
