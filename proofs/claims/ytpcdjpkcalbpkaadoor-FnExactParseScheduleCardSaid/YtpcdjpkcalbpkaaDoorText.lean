/- The text of a valid record, the model's and the program's. -/
import Derived.Test.YtpcdjpkcalbpkaaDoorIsRecI
import Derived.Test.YtpcdjpkcalbpkaaDoorTabI
import Derived.Test.YtpcdjpkcalbpkaaDoorNumT
import Derived.Lib.QuietBelow
import Derived.BigQuiet
namespace Go.Proofs.YtpcdjpkcalbpkaaDoor
set_option linter.unusedVariables false
open Go.RowKit Go.Sort

/-- The text of the record with its first k events. -/
def textAt (r : Rec) : Nat → ByteArray
  | 0 => num r.id ++ ba 115 ++ num r.series ++ ba 64 ++ num r.made
  | k + 1 => textAt r k ++ ba 32 ++ num (r.evs.getD k evD).kind ++ ba 64 ++ num (r.evs.getD k evD).day
def evsOk (r : Rec) : Prop := ∀ i, i < r.evs.length → (r.evs.getD i evD).ok
theorem textAt_size (r : Rec) (hr : r.ok) (he : evsOk r) : ∀ k, k ≤ r.evs.length → (textAt r k).size ≤ 65 + k * 44
  | 0, _ => by
    have h1 := num_size _ hr.1
    have h2 := num_size _ hr.2.1
    have h3 := num_size _ hr.2.2
    simp only [textAt, ByteArray.size_append, ba_size]
    omega
  | k + 1, h => by
    have ih := textAt_size r hr he k (by omega)
    have h1 := num_size _ (he k (by omega)).1
    have h2 := num_size _ (he k (by omega)).2
    simp only [textAt, ByteArray.size_append, ba_size]
    omega




end Go.Proofs.YtpcdjpkcalbpkaaDoor
