/-
  No cell of these rows narrows 'for every input' (looked for: loops, veiled, ifaces, maps, wideKeys, modest, calm, conditions, laid).
  DERIVED. THE GIVEN ROWS OF THIS SEAT. 10 by the template 'for every input the law returns true; each argument reads behind the call as it read before'; 0 by the template 'total and deterministic' (their statements: YtedckfbjhhabgaaTotals.lean).
  GIVEN WITH THE SEED: the statements are not yours to turn. If you find one false, say at which input.
  Laid BY PROGRAM, IN A SANDBOX (cutbox-rows.mjs): the forced cells as the released guide's own fill.sh prints them over the translation d56aaf5047bd2ef3… (all of the seat's roots in one cut). By AI agents, Wed Nov 11 2026. No macro, syntax, notation, axiom, sorry.
-/
import Derived.Test.YtedckfbjhhabgaaChecked
import GoSem.Claim
import GoSem.ClaimJoined
import GoSem.ClaimMapViews
import Derived.JoinedTies
import Derived.KernelRfl
namespace Go.Proofs.Ytedckfbjhhabgaa
/- THE CELL 'sum', in the pinned program and in every row, IS THE sha256 OF THE DUMP (.gsa) THAT YtedckfbjhhabgaaProg.lean LOADS. Nothing in Lean hashes anything: it is a label: what it is worth is what the hold of that sum in a sandbox is worth. -/
noncomputable def Try.pinned : Pinned := { name := "ytedckfbjhhabgaa", sum := "d56aaf5047bd2ef34c666ee152210f1f6fe95cd107b8560a811943df8b84e409", checked := Try.checked }
namespace Rows
def none {H : Type} : Left H := { results := [], args := [] }

/-- 'laws.FnExactAreTriggers': WHATEVER THE INPUT: true; the input reads as it did. -/
def fnExactAreTriggersSpec : ChangeSpec := { name := "fnExactAreTriggers", fn := fun _ => fun
  | [d] => { results := [.lit (.bool true)], args := [d] }
  | _ => none }
def fnExactAreTriggersRow : OpenClaim := { program := "ytedckfbjhhabgaa", sum := "d56aaf5047bd2ef34c666ee152210f1f6fe95cd107b8560a811943df8b84e409", func := "loop.example/g01035/laws.FnExactAreTriggers", spec := "fnExactAreTriggers", apart := false }
def FnExactAreTriggersSaid : Prop := fnExactAreTriggersRow.holds Try.pinned (OpenSpec.ofChange fnExactAreTriggersSpec)

/-- ITS FALSE NEIGHBOUR: 'it returns false'. Refute it at one input. -/
def fnExactAreTriggersWrong : ChangeSpec := { name := "fnExactAreTriggers", fn := fun _ => fun
  | [d] => { results := [.lit (.bool false)], args := [d] }
  | _ => none }
def FnExactAreTriggersWrongFalsely : Prop := fnExactAreTriggersRow.holds Try.pinned (OpenSpec.ofChange fnExactAreTriggersWrong)

/-- 'laws.FnExactSeriesGaps': WHATEVER THE INPUT: true; the input reads as it did. -/
def fnExactSeriesGapsSpec : ChangeSpec := { name := "fnExactSeriesGaps", fn := fun _ => fun
  | [d1, d2] => { results := [.lit (.bool true)], args := [d1, d2] }
  | _ => none }
def fnExactSeriesGapsRow : OpenClaim := { program := "ytedckfbjhhabgaa", sum := "d56aaf5047bd2ef34c666ee152210f1f6fe95cd107b8560a811943df8b84e409", func := "loop.example/g01035/laws.FnExactSeriesGaps", spec := "fnExactSeriesGaps", apart := false }
def FnExactSeriesGapsSaid : Prop := fnExactSeriesGapsRow.holds Try.pinned (OpenSpec.ofChange fnExactSeriesGapsSpec)

/-- ITS FALSE NEIGHBOUR: 'it returns false'. Refute it at one input. -/
def fnExactSeriesGapsWrong : ChangeSpec := { name := "fnExactSeriesGaps", fn := fun _ => fun
  | [d1, d2] => { results := [.lit (.bool false)], args := [d1, d2] }
  | _ => none }
def FnExactSeriesGapsWrongFalsely : Prop := fnExactSeriesGapsRow.holds Try.pinned (OpenSpec.ofChange fnExactSeriesGapsWrong)

/-- 'laws.FnExactContradictions': WHATEVER THE INPUT: true; the input reads as it did. -/
def fnExactContradictionsSpec : ChangeSpec := { name := "fnExactContradictions", fn := fun _ => fun
  | [d] => { results := [.lit (.bool true)], args := [d] }
  | _ => none }
def fnExactContradictionsRow : OpenClaim := { program := "ytedckfbjhhabgaa", sum := "d56aaf5047bd2ef34c666ee152210f1f6fe95cd107b8560a811943df8b84e409", func := "loop.example/g01035/laws.FnExactContradictions", spec := "fnExactContradictions", apart := false }
def FnExactContradictionsSaid : Prop := fnExactContradictionsRow.holds Try.pinned (OpenSpec.ofChange fnExactContradictionsSpec)

/-- ITS FALSE NEIGHBOUR: 'it returns false'. Refute it at one input. -/
def fnExactContradictionsWrong : ChangeSpec := { name := "fnExactContradictions", fn := fun _ => fun
  | [d] => { results := [.lit (.bool false)], args := [d] }
  | _ => none }
def FnExactContradictionsWrongFalsely : Prop := fnExactContradictionsRow.holds Try.pinned (OpenSpec.ofChange fnExactContradictionsWrong)

/-- 'laws.FnExactNeverDecides': WHATEVER THE INPUT: true; the input reads as it did. -/
def fnExactNeverDecidesSpec : ChangeSpec := { name := "fnExactNeverDecides", fn := fun _ => fun
  | [d] => { results := [.lit (.bool true)], args := [d] }
  | _ => none }
def fnExactNeverDecidesRow : OpenClaim := { program := "ytedckfbjhhabgaa", sum := "d56aaf5047bd2ef34c666ee152210f1f6fe95cd107b8560a811943df8b84e409", func := "loop.example/g01035/laws.FnExactNeverDecides", spec := "fnExactNeverDecides", apart := false }
def FnExactNeverDecidesSaid : Prop := fnExactNeverDecidesRow.holds Try.pinned (OpenSpec.ofChange fnExactNeverDecidesSpec)

/-- ITS FALSE NEIGHBOUR: 'it returns false'. Refute it at one input. -/
def fnExactNeverDecidesWrong : ChangeSpec := { name := "fnExactNeverDecides", fn := fun _ => fun
  | [d] => { results := [.lit (.bool false)], args := [d] }
  | _ => none }
def FnExactNeverDecidesWrongFalsely : Prop := fnExactNeverDecidesRow.holds Try.pinned (OpenSpec.ofChange fnExactNeverDecidesWrong)

/-- 'laws.FnExactHasCycle': WHATEVER THE INPUT: true; the input reads as it did. -/
def fnExactHasCycleSpec : ChangeSpec := { name := "fnExactHasCycle", fn := fun _ => fun
  | [d] => { results := [.lit (.bool true)], args := [d] }
  | _ => none }
def fnExactHasCycleRow : OpenClaim := { program := "ytedckfbjhhabgaa", sum := "d56aaf5047bd2ef34c666ee152210f1f6fe95cd107b8560a811943df8b84e409", func := "loop.example/g01035/laws.FnExactHasCycle", spec := "fnExactHasCycle", recurses := true, apart := false }
def FnExactHasCycleSaid : Prop := fnExactHasCycleRow.holds Try.pinned (OpenSpec.ofChange fnExactHasCycleSpec)

/-- ITS FALSE NEIGHBOUR: 'it returns false'. Refute it at one input. -/
def fnExactHasCycleWrong : ChangeSpec := { name := "fnExactHasCycle", fn := fun _ => fun
  | [d] => { results := [.lit (.bool false)], args := [d] }
  | _ => none }
def FnExactHasCycleWrongFalsely : Prop := fnExactHasCycleRow.holds Try.pinned (OpenSpec.ofChange fnExactHasCycleWrong)

/-- 'laws.FnExactFirstCycle': WHATEVER THE INPUT: true; the input reads as it did. -/
def fnExactFirstCycleSpec : ChangeSpec := { name := "fnExactFirstCycle", fn := fun _ => fun
  | [d] => { results := [.lit (.bool true)], args := [d] }
  | _ => none }
def fnExactFirstCycleRow : OpenClaim := { program := "ytedckfbjhhabgaa", sum := "d56aaf5047bd2ef34c666ee152210f1f6fe95cd107b8560a811943df8b84e409", func := "loop.example/g01035/laws.FnExactFirstCycle", spec := "fnExactFirstCycle", recurses := true, apart := false }
def FnExactFirstCycleSaid : Prop := fnExactFirstCycleRow.holds Try.pinned (OpenSpec.ofChange fnExactFirstCycleSpec)

/-- ITS FALSE NEIGHBOUR: 'it returns false'. Refute it at one input. -/
def fnExactFirstCycleWrong : ChangeSpec := { name := "fnExactFirstCycle", fn := fun _ => fun
  | [d] => { results := [.lit (.bool false)], args := [d] }
  | _ => none }
def FnExactFirstCycleWrongFalsely : Prop := fnExactFirstCycleRow.holds Try.pinned (OpenSpec.ofChange fnExactFirstCycleWrong)

/-- 'laws.FnExactExpectedDay': WHATEVER THE INPUT: true; the input reads as it did. -/
def fnExactExpectedDaySpec : ChangeSpec := { name := "fnExactExpectedDay", fn := fun _ => fun
  | [d1, d2] => { results := [.lit (.bool true)], args := [d1, d2] }
  | _ => none }
def fnExactExpectedDayRow : OpenClaim := { program := "ytedckfbjhhabgaa", sum := "d56aaf5047bd2ef34c666ee152210f1f6fe95cd107b8560a811943df8b84e409", func := "loop.example/g01035/laws.FnExactExpectedDay", spec := "fnExactExpectedDay", recurses := true, apart := false }
def FnExactExpectedDaySaid : Prop := fnExactExpectedDayRow.holds Try.pinned (OpenSpec.ofChange fnExactExpectedDaySpec)

/-- ITS FALSE NEIGHBOUR: 'it returns false'. Refute it at one input. -/
def fnExactExpectedDayWrong : ChangeSpec := { name := "fnExactExpectedDay", fn := fun _ => fun
  | [d1, d2] => { results := [.lit (.bool false)], args := [d1, d2] }
  | _ => none }
def FnExactExpectedDayWrongFalsely : Prop := fnExactExpectedDayRow.holds Try.pinned (OpenSpec.ofChange fnExactExpectedDayWrong)

/-- 'laws.FnExactExpectedDue': WHATEVER THE INPUT: true; the input reads as it did. -/
def fnExactExpectedDueSpec : ChangeSpec := { name := "fnExactExpectedDue", fn := fun _ => fun
  | [d1, d2, d3] => { results := [.lit (.bool true)], args := [d1, d2, d3] }
  | _ => none }
def fnExactExpectedDueRow : OpenClaim := { program := "ytedckfbjhhabgaa", sum := "d56aaf5047bd2ef34c666ee152210f1f6fe95cd107b8560a811943df8b84e409", func := "loop.example/g01035/laws.FnExactExpectedDue", spec := "fnExactExpectedDue", recurses := true, apart := false }
def FnExactExpectedDueSaid : Prop := fnExactExpectedDueRow.holds Try.pinned (OpenSpec.ofChange fnExactExpectedDueSpec)

/-- ITS FALSE NEIGHBOUR: 'it returns false'. Refute it at one input. -/
def fnExactExpectedDueWrong : ChangeSpec := { name := "fnExactExpectedDue", fn := fun _ => fun
  | [d1, d2, d3] => { results := [.lit (.bool false)], args := [d1, d2, d3] }
  | _ => none }
def FnExactExpectedDueWrongFalsely : Prop := fnExactExpectedDueRow.holds Try.pinned (OpenSpec.ofChange fnExactExpectedDueWrong)

/-- 'laws.FnExactUnexpectedEvents': WHATEVER THE INPUT: true; the input reads as it did. -/
def fnExactUnexpectedEventsSpec : ChangeSpec := { name := "fnExactUnexpectedEvents", fn := fun _ => fun
  | [d1, d2] => { results := [.lit (.bool true)], args := [d1, d2] }
  | _ => none }
def fnExactUnexpectedEventsRow : OpenClaim := { program := "ytedckfbjhhabgaa", sum := "d56aaf5047bd2ef34c666ee152210f1f6fe95cd107b8560a811943df8b84e409", func := "loop.example/g01035/laws.FnExactUnexpectedEvents", spec := "fnExactUnexpectedEvents", recurses := true, apart := false }
def FnExactUnexpectedEventsSaid : Prop := fnExactUnexpectedEventsRow.holds Try.pinned (OpenSpec.ofChange fnExactUnexpectedEventsSpec)

/-- ITS FALSE NEIGHBOUR: 'it returns false'. Refute it at one input. -/
def fnExactUnexpectedEventsWrong : ChangeSpec := { name := "fnExactUnexpectedEvents", fn := fun _ => fun
  | [d1, d2] => { results := [.lit (.bool false)], args := [d1, d2] }
  | _ => none }
def FnExactUnexpectedEventsWrongFalsely : Prop := fnExactUnexpectedEventsRow.holds Try.pinned (OpenSpec.ofChange fnExactUnexpectedEventsWrong)

/-- 'laws.FnExactDropTriggers': WHATEVER THE INPUT: true; the input reads as it did. -/
def fnExactDropTriggersSpec : ChangeSpec := { name := "fnExactDropTriggers", fn := fun _ => fun
  | [d1, d2] => { results := [.lit (.bool true)], args := [d1, d2] }
  | _ => none }
def fnExactDropTriggersRow : OpenClaim := { program := "ytedckfbjhhabgaa", sum := "d56aaf5047bd2ef34c666ee152210f1f6fe95cd107b8560a811943df8b84e409", func := "loop.example/g01035/laws.FnExactDropTriggers", spec := "fnExactDropTriggers", apart := false }
def FnExactDropTriggersSaid : Prop := fnExactDropTriggersRow.holds Try.pinned (OpenSpec.ofChange fnExactDropTriggersSpec)

/-- ITS FALSE NEIGHBOUR: 'it returns false'. Refute it at one input. -/
def fnExactDropTriggersWrong : ChangeSpec := { name := "fnExactDropTriggers", fn := fun _ => fun
  | [d1, d2] => { results := [.lit (.bool false)], args := [d1, d2] }
  | _ => none }
def FnExactDropTriggersWrongFalsely : Prop := fnExactDropTriggersRow.holds Try.pinned (OpenSpec.ofChange fnExactDropTriggersWrong)

/- THE SECOND FORM. 'bulk': how many values and letters a reading holds, each counted each time it is reached (what is shared counts as often as it is met; a slice's spare places count too). A statement '..UptoSaid' is the law's where the arguments, and the package variables that the reading takes, are together of bulk at most 1048576: NARROWER than '..Said'. Prove '..Said' where nothing that the law and all that it calls make is longer than what came in: it says more and counts as full. Else prove '..UptoSaid'. A law counts once. -/
mutual
def uptoBulk {H : Type} : DataW H → Nat
  | .lit (.string bytes) => bytes.length + 1
  | .lit _ => 1
  | .nil => 1
  | .ptr d => uptoBulk d + 1
  | .slice elems spare => uptoBulkAll elems + uptoBulkAll spare + 1
  | .agg parts => uptoBulkAll parts + 1
  | .iface _ d => uptoBulk d + 1
  | .map entries => uptoBulkEntries entries + 1
  | .held _ => 1
def uptoBulkAll {H : Type} : List (DataW H) → Nat
  | [] => 0
  | d :: r => uptoBulk d + uptoBulkAll r
def uptoBulkEntries {H : Type} : List (Lit × DataW H) → Nat
  | [] => 0
  | x :: r => uptoBulkEntry x + uptoBulkEntries r
def uptoBulkEntry {H : Type} : Lit × DataW H → Nat
  | (.string bytes, d) => bytes.length + uptoBulk d + 1
  | (_, d) => uptoBulk d + 1
 end
def uptoSmall : (H : Type) → List (DataW H) → Bool := fun _ ds => decide (uptoBulkAll ds ≤ 1048576)
def OpenSpec.upto (s : _root_.Go.ChangeSpec) : _root_.Go.OpenSpec := { _root_.Go.OpenSpec.ofChange s with cond := some uptoSmall }

/-- 'laws.FnExactAreTriggers', WHERE WHAT IT READS IS OF BULK AT MOST 1048576: true; the input reads as it did. -/
def fnExactAreTriggersUptoRow : OpenClaim := { program := "ytedckfbjhhabgaa", sum := "d56aaf5047bd2ef34c666ee152210f1f6fe95cd107b8560a811943df8b84e409", func := "loop.example/g01035/laws.FnExactAreTriggers", spec := "fnExactAreTriggers", apart := false, narrowed := true }
def FnExactAreTriggersUptoSaid : Prop := fnExactAreTriggersUptoRow.holds Try.pinned (OpenSpec.upto fnExactAreTriggersSpec)

/-- 'laws.FnExactSeriesGaps', WHERE WHAT IT READS IS OF BULK AT MOST 1048576: true; the input reads as it did. -/
def fnExactSeriesGapsUptoRow : OpenClaim := { program := "ytedckfbjhhabgaa", sum := "d56aaf5047bd2ef34c666ee152210f1f6fe95cd107b8560a811943df8b84e409", func := "loop.example/g01035/laws.FnExactSeriesGaps", spec := "fnExactSeriesGaps", apart := false, narrowed := true }
def FnExactSeriesGapsUptoSaid : Prop := fnExactSeriesGapsUptoRow.holds Try.pinned (OpenSpec.upto fnExactSeriesGapsSpec)

/-- 'laws.FnExactContradictions', WHERE WHAT IT READS IS OF BULK AT MOST 1048576: true; the input reads as it did. -/
def fnExactContradictionsUptoRow : OpenClaim := { program := "ytedckfbjhhabgaa", sum := "d56aaf5047bd2ef34c666ee152210f1f6fe95cd107b8560a811943df8b84e409", func := "loop.example/g01035/laws.FnExactContradictions", spec := "fnExactContradictions", apart := false, narrowed := true }
def FnExactContradictionsUptoSaid : Prop := fnExactContradictionsUptoRow.holds Try.pinned (OpenSpec.upto fnExactContradictionsSpec)

/-- 'laws.FnExactNeverDecides', WHERE WHAT IT READS IS OF BULK AT MOST 1048576: true; the input reads as it did. -/
def fnExactNeverDecidesUptoRow : OpenClaim := { program := "ytedckfbjhhabgaa", sum := "d56aaf5047bd2ef34c666ee152210f1f6fe95cd107b8560a811943df8b84e409", func := "loop.example/g01035/laws.FnExactNeverDecides", spec := "fnExactNeverDecides", apart := false, narrowed := true }
def FnExactNeverDecidesUptoSaid : Prop := fnExactNeverDecidesUptoRow.holds Try.pinned (OpenSpec.upto fnExactNeverDecidesSpec)

/-- 'laws.FnExactHasCycle', WHERE WHAT IT READS IS OF BULK AT MOST 1048576: true; the input reads as it did. -/
def fnExactHasCycleUptoRow : OpenClaim := { program := "ytedckfbjhhabgaa", sum := "d56aaf5047bd2ef34c666ee152210f1f6fe95cd107b8560a811943df8b84e409", func := "loop.example/g01035/laws.FnExactHasCycle", spec := "fnExactHasCycle", recurses := true, apart := false, narrowed := true }
def FnExactHasCycleUptoSaid : Prop := fnExactHasCycleUptoRow.holds Try.pinned (OpenSpec.upto fnExactHasCycleSpec)

/-- 'laws.FnExactFirstCycle', WHERE WHAT IT READS IS OF BULK AT MOST 1048576: true; the input reads as it did. -/
def fnExactFirstCycleUptoRow : OpenClaim := { program := "ytedckfbjhhabgaa", sum := "d56aaf5047bd2ef34c666ee152210f1f6fe95cd107b8560a811943df8b84e409", func := "loop.example/g01035/laws.FnExactFirstCycle", spec := "fnExactFirstCycle", recurses := true, apart := false, narrowed := true }
def FnExactFirstCycleUptoSaid : Prop := fnExactFirstCycleUptoRow.holds Try.pinned (OpenSpec.upto fnExactFirstCycleSpec)

/-- 'laws.FnExactExpectedDay', WHERE WHAT IT READS IS OF BULK AT MOST 1048576: true; the input reads as it did. -/
def fnExactExpectedDayUptoRow : OpenClaim := { program := "ytedckfbjhhabgaa", sum := "d56aaf5047bd2ef34c666ee152210f1f6fe95cd107b8560a811943df8b84e409", func := "loop.example/g01035/laws.FnExactExpectedDay", spec := "fnExactExpectedDay", recurses := true, apart := false, narrowed := true }
def FnExactExpectedDayUptoSaid : Prop := fnExactExpectedDayUptoRow.holds Try.pinned (OpenSpec.upto fnExactExpectedDaySpec)

/-- 'laws.FnExactExpectedDue', WHERE WHAT IT READS IS OF BULK AT MOST 1048576: true; the input reads as it did. -/
def fnExactExpectedDueUptoRow : OpenClaim := { program := "ytedckfbjhhabgaa", sum := "d56aaf5047bd2ef34c666ee152210f1f6fe95cd107b8560a811943df8b84e409", func := "loop.example/g01035/laws.FnExactExpectedDue", spec := "fnExactExpectedDue", recurses := true, apart := false, narrowed := true }
def FnExactExpectedDueUptoSaid : Prop := fnExactExpectedDueUptoRow.holds Try.pinned (OpenSpec.upto fnExactExpectedDueSpec)

/-- 'laws.FnExactUnexpectedEvents', WHERE WHAT IT READS IS OF BULK AT MOST 1048576: true; the input reads as it did. -/
def fnExactUnexpectedEventsUptoRow : OpenClaim := { program := "ytedckfbjhhabgaa", sum := "d56aaf5047bd2ef34c666ee152210f1f6fe95cd107b8560a811943df8b84e409", func := "loop.example/g01035/laws.FnExactUnexpectedEvents", spec := "fnExactUnexpectedEvents", recurses := true, apart := false, narrowed := true }
def FnExactUnexpectedEventsUptoSaid : Prop := fnExactUnexpectedEventsUptoRow.holds Try.pinned (OpenSpec.upto fnExactUnexpectedEventsSpec)

/-- 'laws.FnExactDropTriggers', WHERE WHAT IT READS IS OF BULK AT MOST 1048576: true; the input reads as it did. -/
def fnExactDropTriggersUptoRow : OpenClaim := { program := "ytedckfbjhhabgaa", sum := "d56aaf5047bd2ef34c666ee152210f1f6fe95cd107b8560a811943df8b84e409", func := "loop.example/g01035/laws.FnExactDropTriggers", spec := "fnExactDropTriggers", apart := false, narrowed := true }
def FnExactDropTriggersUptoSaid : Prop := fnExactDropTriggersUptoRow.holds Try.pinned (OpenSpec.upto fnExactDropTriggersSpec)

end Rows
end Go.Proofs.Ytedckfbjhhabgaa
