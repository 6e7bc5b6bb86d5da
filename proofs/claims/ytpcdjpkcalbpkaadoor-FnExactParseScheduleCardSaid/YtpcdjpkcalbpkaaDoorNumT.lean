/- The text of a number and of a byte. No program is named here. -/
import Derived.Test.YtpcdjpkcalbpkaaDoorOpen
import Derived.Lib.ItoaLen
namespace Go.Proofs.YtpcdjpkcalbpkaaDoor
set_option linter.unusedVariables false

/-- The text of a number. -/
def num (n : Int) : ByteArray := ⟨(Lib.itoa n).toArray⟩
theorem num_size (n : Int) (h : inI n) : (num n).size ≤ 21 := by
  have := Lib.itoa_length_le n h.1 h.2
  simpa [num, ByteArray.size] using this
def ba (x : UInt8) : ByteArray := ⟨#[x]⟩
theorem ba_size (x : UInt8) : (ba x).size = 1 := rfl
end Go.Proofs.YtpcdjpkcalbpkaaDoor
