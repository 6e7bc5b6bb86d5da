/- spec.l1Stands: whether a byte stands in a text; strings.Contains at one byte says the same. -/
import Derived.Test.YtpbjddiopfkgbaaRows
import Derived.Test.YtpbjddiopfkgbaaStr
import Derived.Lib.IndexLaws
namespace Go.Proofs.Ytpbjddiopfkgbaa
set_option linter.unusedVariables false
open Go.RowKit

/-- The byte c stands in l. -/
def stands (l : List UInt8) (c : UInt8) : Bool := decide (c ∈ l)
theorem stands_iff (l : List UInt8) (c : UInt8) : stands l c = true ↔ c ∈ l := by simp [stands]
theorem stands_no (l : List UInt8) (c : UInt8) : stands l c = false ↔ ¬ c ∈ l := by simp [stands]
theorem indexByte_cons (b : UInt8) (l : List UInt8) (c : UInt8) : Lib.indexByte (b :: l) c = if b == c then 0 else if Lib.indexByte l c == -1 then -1 else Lib.indexByte l c + 1 := by
  conv => lhs; unfold Lib.indexByte
theorem indexByte_stands (l : List UInt8) (c : UInt8) : decide (0 ≤ Lib.indexByte l c) = stands l c := by
  induction l with
  | nil => rfl
  | cons b l ih =>
    have hg := Lib.indexByte_ge l c
    rw [indexByte_cons, Bool.eq_iff_iff, stands_iff]
    rw [Bool.eq_iff_iff, stands_iff] at ih
    by_cases h : b = c
    · subst h; simp
    · have h' : ¬ c = b := fun e => h e.symm
      by_cases h2 : Lib.indexByte l c = -1
      · simp [h, h2, h', ← ih]
      · simp [h, h2, h', ← ih]; omega

end Go.Proofs.Ytpbjddiopfkgbaa
