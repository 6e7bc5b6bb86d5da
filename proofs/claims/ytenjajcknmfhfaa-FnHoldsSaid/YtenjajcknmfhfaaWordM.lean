/- What a word is. No program is named here. -/
import Derived.Test.YtenjajcknmfhfaaUpto
namespace Go.Proofs.Ytenjajcknmfhfaa
set_option linter.unusedVariables false

def lowAt (s : ByteArray) (i : Nat) : Bool := decide (97 ≤ (s.data.toList.getD i 0).toNat ∧ (s.data.toList.getD i 0).toNat ≤ 122)
/-- A word: 1 to 10 letters. -/
def isWord (s : ByteArray) : Bool := decide (1 ≤ s.size ∧ s.size ≤ 10) && upto (lowAt s) s.size
end Go.Proofs.Ytenjajcknmfhfaa
