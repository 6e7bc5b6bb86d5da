/- IsSchedule, the model's. -/
import Derived.Test.YtlmolkdcnepomaaRuS
namespace Go.Proofs.Ytlmolkdcnepomaa
set_option linter.unusedVariables false
open Go.RowKit
theorem specIsSchedule_any (v : Value) (t : List Ru) (w : World) (h : RowR 4 rRu w v t) :
    Calls Try.prog 14 #[v] w fun e w' => e = .returned (.bool (isSch t)) ∧ Below w.heap.size w w' := by
  go_enter Try.func14, Try.ntmps14
  go_wp2_with (first | (go_at_call 41; refine (l4Good_any _ t _ h).mono ?_; rintro e w' ⟨rfl, hb'⟩))
  go_ret
  exact ⟨rfl, hb'⟩
end Go.Proofs.Ytlmolkdcnepomaa
