/- The model's l1Split. -/
import Derived.Test.YtpbjddiopfkgbaaSplitPlain
import Derived.Test.YtpbjddiopfkgbaaCopy
import Derived.WalkSpells
import Derived.WalkLawsBesides
import Derived.Maps.AppendAt
import Derived.Outline
namespace Go.Proofs.Ytpbjddiopfkgbaa
set_option linter.unusedVariables false
open Go.RowKit

theorem ownsRow_lt_cap {w : World} {base e : Nat} {v : Value} {n : Nat} {xs : List Value} (h : w.ownsRow base e 1 v n xs) : xs.length = n := by simpa using h.1


/-- What SplitString hands back: a slice of new memory that holds the pieces; or, where it cannot, none and false. -/
def SplitGives (ss : List ByteArray) (b : Bool) (w : World) (e : Ending) (w' : World) : Prop :=
  ∃ v, e = .returned (.tuple #[v, .bool b]) ∧ w'.ownsRow w.heap.size 9 1 v ss.length (ss.map Value.string) ∧ Below w.heap.size w w'
end Go.Proofs.Ytpbjddiopfkgbaa
