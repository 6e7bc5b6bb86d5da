/- IsSchedule, the model's. -/
import Derived.Test.YtpcdjpkcalbpkaaRuS
namespace Go.Proofs.Ytpcdjpkcalbpkaa
set_option linter.unusedVariables false
open Go.RowKit
theorem specIsSchedule_any (v : Value) (t : List Ru) (w : World) (h : RowR 4 rRu w v t) :
    Calls Try.prog 13 #[v] w fun e w' => e = .returned (.bool (isSch t)) ∧ Below w.heap.size w w' := by
  go_enter Try.func13, Try.ntmps13
  go_wp2_with (first | (go_at_call 33; refine (l4Good_any _ t _ h).mono ?_; rintro e w' ⟨rfl, hb'⟩))
  go_ret
  exact ⟨rfl, hb'⟩
end Go.Proofs.Ytpcdjpkcalbpkaa
