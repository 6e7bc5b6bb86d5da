/- A day's range: the model's and the program's functions that say it. -/
import Derived.Test.YtedckfbjhhabgaaL1In
import Derived.Test.YtedckfbjhhabgaaProg
import Derived.WalkSmall
namespace Go.Proofs.Ytedckfbjhhabgaa
set_option linter.unusedVariables false
open Go.RowKit


end Go.Proofs.Ytedckfbjhhabgaa
