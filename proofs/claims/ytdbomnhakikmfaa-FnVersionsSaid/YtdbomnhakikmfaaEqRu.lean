/- The laws' own sizes and comparisons of Rule. -/
import Derived.Test.YtdbomnhakikmfaaToRu
import Derived.Test.YtdbomnhakikmfaaBytesNe
import Derived.Deep.RegionHeld3
import Derived.WalkSmall
namespace Go.Proofs.Ytdbomnhakikmfaa
set_option linter.unusedVariables false
open Go.RowKit

def szRu (xs : List Ru) : Nat := 0


end Go.Proofs.Ytdbomnhakikmfaa
