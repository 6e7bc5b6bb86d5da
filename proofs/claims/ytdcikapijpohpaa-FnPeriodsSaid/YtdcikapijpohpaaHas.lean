/- Whether a number stands in a list, the model's. -/
import Derived.Test.YtdcikapijpohpaaInts
import Derived.Lib.Hide
namespace Go.Proofs.Ytdcikapijpohpaa
set_option linter.unusedVariables false
open Go.RowKit

theorem Try.info_int : (Try.prog.info? 3).map (fun i => (i.zero, i.size, i.bytes)) = some (some (.int .i64 0), 1, 8) := by kernel_rfl


end Go.Proofs.Ytdcikapijpohpaa
