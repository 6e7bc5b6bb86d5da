/- The laws' own comparisons of events and records, and what they hold of a size. -/
import Derived.Test.YtnfcfinecjgakaaToRec
import Derived.Deep.RegionHeld3
import Derived.WalkSmall
namespace Go.Proofs.Ytnfcfinecjgakaa
set_option linter.unusedVariables false
open Go.RowKit





end Go.Proofs.Ytnfcfinecjgakaa
