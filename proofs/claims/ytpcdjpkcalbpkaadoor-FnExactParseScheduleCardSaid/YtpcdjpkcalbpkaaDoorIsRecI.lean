/- The program's own IsRecord answers isRec. -/
import Derived.Test.YtpcdjpkcalbpkaaDoorIsRec
namespace Go.Proofs.YtpcdjpkcalbpkaaDoor
set_option linter.unusedVariables false
open Go.RowKit Go.Sort

end Go.Proofs.YtpcdjpkcalbpkaaDoor
