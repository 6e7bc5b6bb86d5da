/- The model's JoinStrings: what it answers at every list of texts and every separator. -/
import Derived.Test.YtpbjddiopfkgbaaStands
import Derived.Test.YtpbjddiopfkgbaaJoinPlain
import Derived.BigQuiet
import Derived.Deep.QuietTactic
import Derived.WalkSmall
import Derived.WalkSpells
import Derived.WalkLawsBesides
import Derived.Outline
namespace Go.Proofs.Ytpbjddiopfkgbaa
set_option linter.unusedVariables false
open Go.RowKit

def noJoin : Value := .tuple #[.string ⟨#[]⟩, .bool false]



end Go.Proofs.Ytpbjddiopfkgbaa
