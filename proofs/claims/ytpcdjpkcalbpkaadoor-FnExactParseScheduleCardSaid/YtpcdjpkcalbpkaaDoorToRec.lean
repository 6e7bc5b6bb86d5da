/- The laws' own copies of an event, of events, of a record: what they answer, and where it lies. -/
import Derived.Test.YtpcdjpkcalbpkaaDoorTyRec
import Derived.Test.YtpcdjpkcalbpkaaDoorOwn
import Derived.Test.YtpcdjpkcalbpkaaDoorCells
import Derived.Test.YtpcdjpkcalbpkaaDoorProg
import Derived.WalkSmall
namespace Go.Proofs.YtpcdjpkcalbpkaaDoor
set_option linter.unusedVariables false
open Go.RowKit





section
variable {lo hi lo' hi' : Nat} {w w' : World} {v : Value} {xs : List Ev} {r : Rec}
end

end Go.Proofs.YtpcdjpkcalbpkaaDoor
