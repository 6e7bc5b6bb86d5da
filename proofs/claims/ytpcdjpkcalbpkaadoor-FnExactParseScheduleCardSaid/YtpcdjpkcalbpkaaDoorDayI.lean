/- A day's range: the model's and the program's functions that say it. -/
import Derived.Test.YtpcdjpkcalbpkaaDoorL1In
import Derived.Test.YtpcdjpkcalbpkaaDoorProg
import Derived.WalkSmall
namespace Go.Proofs.YtpcdjpkcalbpkaaDoor
set_option linter.unusedVariables false
open Go.RowKit


end Go.Proofs.YtpcdjpkcalbpkaaDoor
