/-
  No cell of these rows narrows 'for every input' (looked for: loops, veiled, ifaces, maps, wideKeys, modest, calm, conditions, laid).
  DERIVED. THE GIVEN ROWS OF THIS SEAT. 6 by the template 'for every input the law returns true; each argument reads behind the call as it read before'; 0 by the template 'total and deterministic' (their statements: YtpcdjpkcalbpkaaTotals.lean).
  GIVEN WITH THE SEED: the statements are not yours to turn. If you find one false, say at which input.
  Laid BY PROGRAM, IN A SANDBOX (cutbox-rows.mjs): the forced cells as the released guide's own fill.sh prints them over the translation ea73959df7b7814b… (all of the seat's roots in one cut). By AI agents, Wed Nov 11 2026. No macro, syntax, notation, axiom, sorry.
-/
import Derived.Test.YtpcdjpkcalbpkaaChecked
import GoSem.Claim
import GoSem.ClaimJoined
import GoSem.ClaimMapViews
import Derived.JoinedTies
import Derived.KernelRfl
namespace Go.Proofs.Ytpcdjpkcalbpkaa
/- THE CELL 'sum', in the pinned program and in every row, IS THE sha256 OF THE DUMP (.gsa) THAT YtpcdjpkcalbpkaaProg.lean LOADS. Nothing in Lean hashes anything: it is a label: what it is worth is what the hold of that sum in a sandbox is worth. -/
noncomputable def Try.pinned : Pinned := { name := "ytpcdjpkcalbpkaa", sum := "ea73959df7b7814b78dee24e97f3361f75d4161167d1fb239923eda616ce0616", checked := Try.checked }
namespace Rows
def none {H : Type} : Left H := { results := [], args := [] }

/-- 'laws.FnExactIsRule': WHATEVER THE INPUT: true; the input reads as it did. -/
def fnExactIsRuleSpec : ChangeSpec := { name := "fnExactIsRule", fn := fun _ => fun
  | [d] => { results := [.lit (.bool true)], args := [d] }
  | _ => none }
def fnExactIsRuleRow : OpenClaim := { program := "ytpcdjpkcalbpkaa", sum := "ea73959df7b7814b78dee24e97f3361f75d4161167d1fb239923eda616ce0616", func := "loop.example/g01035/laws.FnExactIsRule", spec := "fnExactIsRule", apart := false }
def FnExactIsRuleSaid : Prop := fnExactIsRuleRow.holds Try.pinned (OpenSpec.ofChange fnExactIsRuleSpec)

/-- ITS FALSE NEIGHBOUR: 'it returns false'. Refute it at one input. -/
def fnExactIsRuleWrong : ChangeSpec := { name := "fnExactIsRule", fn := fun _ => fun
  | [d] => { results := [.lit (.bool false)], args := [d] }
  | _ => none }
def FnExactIsRuleWrongFalsely : Prop := fnExactIsRuleRow.holds Try.pinned (OpenSpec.ofChange fnExactIsRuleWrong)

/-- 'laws.FnExactIsSchedule': WHATEVER THE INPUT: true; the input reads as it did. -/
def fnExactIsScheduleSpec : ChangeSpec := { name := "fnExactIsSchedule", fn := fun _ => fun
  | [d] => { results := [.lit (.bool true)], args := [d] }
  | _ => none }
def fnExactIsScheduleRow : OpenClaim := { program := "ytpcdjpkcalbpkaa", sum := "ea73959df7b7814b78dee24e97f3361f75d4161167d1fb239923eda616ce0616", func := "loop.example/g01035/laws.FnExactIsSchedule", spec := "fnExactIsSchedule", apart := false }
def FnExactIsScheduleSaid : Prop := fnExactIsScheduleRow.holds Try.pinned (OpenSpec.ofChange fnExactIsScheduleSpec)

/-- ITS FALSE NEIGHBOUR: 'it returns false'. Refute it at one input. -/
def fnExactIsScheduleWrong : ChangeSpec := { name := "fnExactIsSchedule", fn := fun _ => fun
  | [d] => { results := [.lit (.bool false)], args := [d] }
  | _ => none }
def FnExactIsScheduleWrongFalsely : Prop := fnExactIsScheduleRow.holds Try.pinned (OpenSpec.ofChange fnExactIsScheduleWrong)

/-- 'laws.FnExactRulesFor': WHATEVER THE INPUT: true; the input reads as it did. -/
def fnExactRulesForSpec : ChangeSpec := { name := "fnExactRulesFor", fn := fun _ => fun
  | [d1, d2] => { results := [.lit (.bool true)], args := [d1, d2] }
  | _ => none }
def fnExactRulesForRow : OpenClaim := { program := "ytpcdjpkcalbpkaa", sum := "ea73959df7b7814b78dee24e97f3361f75d4161167d1fb239923eda616ce0616", func := "loop.example/g01035/laws.FnExactRulesFor", spec := "fnExactRulesFor", apart := false }
def FnExactRulesForSaid : Prop := fnExactRulesForRow.holds Try.pinned (OpenSpec.ofChange fnExactRulesForSpec)

/-- ITS FALSE NEIGHBOUR: 'it returns false'. Refute it at one input. -/
def fnExactRulesForWrong : ChangeSpec := { name := "fnExactRulesFor", fn := fun _ => fun
  | [d1, d2] => { results := [.lit (.bool false)], args := [d1, d2] }
  | _ => none }
def FnExactRulesForWrongFalsely : Prop := fnExactRulesForRow.holds Try.pinned (OpenSpec.ofChange fnExactRulesForWrong)

/-- 'laws.FnExactStrongestAct': WHATEVER THE INPUT: true; the input reads as it did. -/
def fnExactStrongestActSpec : ChangeSpec := { name := "fnExactStrongestAct", fn := fun _ => fun
  | [d1, d2] => { results := [.lit (.bool true)], args := [d1, d2] }
  | _ => none }
def fnExactStrongestActRow : OpenClaim := { program := "ytpcdjpkcalbpkaa", sum := "ea73959df7b7814b78dee24e97f3361f75d4161167d1fb239923eda616ce0616", func := "loop.example/g01035/laws.FnExactStrongestAct", spec := "fnExactStrongestAct", apart := false }
def FnExactStrongestActSaid : Prop := fnExactStrongestActRow.holds Try.pinned (OpenSpec.ofChange fnExactStrongestActSpec)

/-- ITS FALSE NEIGHBOUR: 'it returns false'. Refute it at one input. -/
def fnExactStrongestActWrong : ChangeSpec := { name := "fnExactStrongestAct", fn := fun _ => fun
  | [d1, d2] => { results := [.lit (.bool false)], args := [d1, d2] }
  | _ => none }
def FnExactStrongestActWrongFalsely : Prop := fnExactStrongestActRow.holds Try.pinned (OpenSpec.ofChange fnExactStrongestActWrong)

/-- 'laws.FnExactLongestPeriod': WHATEVER THE INPUT: true; the input reads as it did. -/
def fnExactLongestPeriodSpec : ChangeSpec := { name := "fnExactLongestPeriod", fn := fun _ => fun
  | [d1, d2] => { results := [.lit (.bool true)], args := [d1, d2] }
  | _ => none }
def fnExactLongestPeriodRow : OpenClaim := { program := "ytpcdjpkcalbpkaa", sum := "ea73959df7b7814b78dee24e97f3361f75d4161167d1fb239923eda616ce0616", func := "loop.example/g01035/laws.FnExactLongestPeriod", spec := "fnExactLongestPeriod", apart := false }
def FnExactLongestPeriodSaid : Prop := fnExactLongestPeriodRow.holds Try.pinned (OpenSpec.ofChange fnExactLongestPeriodSpec)

/-- ITS FALSE NEIGHBOUR: 'it returns false'. Refute it at one input. -/
def fnExactLongestPeriodWrong : ChangeSpec := { name := "fnExactLongestPeriod", fn := fun _ => fun
  | [d1, d2] => { results := [.lit (.bool false)], args := [d1, d2] }
  | _ => none }
def FnExactLongestPeriodWrongFalsely : Prop := fnExactLongestPeriodRow.holds Try.pinned (OpenSpec.ofChange fnExactLongestPeriodWrong)

/-- 'laws.FnExactSeriesIn': WHATEVER THE INPUT: true; the input reads as it did. -/
def fnExactSeriesInSpec : ChangeSpec := { name := "fnExactSeriesIn", fn := fun _ => fun
  | [d] => { results := [.lit (.bool true)], args := [d] }
  | _ => none }
def fnExactSeriesInRow : OpenClaim := { program := "ytpcdjpkcalbpkaa", sum := "ea73959df7b7814b78dee24e97f3361f75d4161167d1fb239923eda616ce0616", func := "loop.example/g01035/laws.FnExactSeriesIn", spec := "fnExactSeriesIn", apart := false }
def FnExactSeriesInSaid : Prop := fnExactSeriesInRow.holds Try.pinned (OpenSpec.ofChange fnExactSeriesInSpec)

/-- ITS FALSE NEIGHBOUR: 'it returns false'. Refute it at one input. -/
def fnExactSeriesInWrong : ChangeSpec := { name := "fnExactSeriesIn", fn := fun _ => fun
  | [d] => { results := [.lit (.bool false)], args := [d] }
  | _ => none }
def FnExactSeriesInWrongFalsely : Prop := fnExactSeriesInRow.holds Try.pinned (OpenSpec.ofChange fnExactSeriesInWrong)

/- THE SECOND FORM. 'bulk': how many values and letters a reading holds, each counted each time it is reached (what is shared counts as often as it is met; a slice's spare places count too). A statement '..UptoSaid' is the law's where the arguments, and the package variables that the reading takes, are together of bulk at most 1048576: NARROWER than '..Said'. Prove '..Said' where nothing that the law and all that it calls make is longer than what came in: it says more and counts as full. Else prove '..UptoSaid'. A law counts once. -/
mutual
def uptoBulk {H : Type} : DataW H → Nat
  | .lit (.string bytes) => bytes.length + 1
  | .lit _ => 1
  | .nil => 1
  | .ptr d => uptoBulk d + 1
  | .slice elems spare => uptoBulkAll elems + uptoBulkAll spare + 1
  | .agg parts => uptoBulkAll parts + 1
  | .iface _ d => uptoBulk d + 1
  | .map entries => uptoBulkEntries entries + 1
  | .held _ => 1
def uptoBulkAll {H : Type} : List (DataW H) → Nat
  | [] => 0
  | d :: r => uptoBulk d + uptoBulkAll r
def uptoBulkEntries {H : Type} : List (Lit × DataW H) → Nat
  | [] => 0
  | x :: r => uptoBulkEntry x + uptoBulkEntries r
def uptoBulkEntry {H : Type} : Lit × DataW H → Nat
  | (.string bytes, d) => bytes.length + uptoBulk d + 1
  | (_, d) => uptoBulk d + 1
 end
def uptoSmall : (H : Type) → List (DataW H) → Bool := fun _ ds => decide (uptoBulkAll ds ≤ 1048576)
def OpenSpec.upto (s : _root_.Go.ChangeSpec) : _root_.Go.OpenSpec := { _root_.Go.OpenSpec.ofChange s with cond := some uptoSmall }

/-- 'laws.FnExactIsRule', WHERE WHAT IT READS IS OF BULK AT MOST 1048576: true; the input reads as it did. -/
def fnExactIsRuleUptoRow : OpenClaim := { program := "ytpcdjpkcalbpkaa", sum := "ea73959df7b7814b78dee24e97f3361f75d4161167d1fb239923eda616ce0616", func := "loop.example/g01035/laws.FnExactIsRule", spec := "fnExactIsRule", apart := false, narrowed := true }
def FnExactIsRuleUptoSaid : Prop := fnExactIsRuleUptoRow.holds Try.pinned (OpenSpec.upto fnExactIsRuleSpec)

/-- 'laws.FnExactIsSchedule', WHERE WHAT IT READS IS OF BULK AT MOST 1048576: true; the input reads as it did. -/
def fnExactIsScheduleUptoRow : OpenClaim := { program := "ytpcdjpkcalbpkaa", sum := "ea73959df7b7814b78dee24e97f3361f75d4161167d1fb239923eda616ce0616", func := "loop.example/g01035/laws.FnExactIsSchedule", spec := "fnExactIsSchedule", apart := false, narrowed := true }
def FnExactIsScheduleUptoSaid : Prop := fnExactIsScheduleUptoRow.holds Try.pinned (OpenSpec.upto fnExactIsScheduleSpec)

/-- 'laws.FnExactRulesFor', WHERE WHAT IT READS IS OF BULK AT MOST 1048576: true; the input reads as it did. -/
def fnExactRulesForUptoRow : OpenClaim := { program := "ytpcdjpkcalbpkaa", sum := "ea73959df7b7814b78dee24e97f3361f75d4161167d1fb239923eda616ce0616", func := "loop.example/g01035/laws.FnExactRulesFor", spec := "fnExactRulesFor", apart := false, narrowed := true }
def FnExactRulesForUptoSaid : Prop := fnExactRulesForUptoRow.holds Try.pinned (OpenSpec.upto fnExactRulesForSpec)

/-- 'laws.FnExactStrongestAct', WHERE WHAT IT READS IS OF BULK AT MOST 1048576: true; the input reads as it did. -/
def fnExactStrongestActUptoRow : OpenClaim := { program := "ytpcdjpkcalbpkaa", sum := "ea73959df7b7814b78dee24e97f3361f75d4161167d1fb239923eda616ce0616", func := "loop.example/g01035/laws.FnExactStrongestAct", spec := "fnExactStrongestAct", apart := false, narrowed := true }
def FnExactStrongestActUptoSaid : Prop := fnExactStrongestActUptoRow.holds Try.pinned (OpenSpec.upto fnExactStrongestActSpec)

/-- 'laws.FnExactLongestPeriod', WHERE WHAT IT READS IS OF BULK AT MOST 1048576: true; the input reads as it did. -/
def fnExactLongestPeriodUptoRow : OpenClaim := { program := "ytpcdjpkcalbpkaa", sum := "ea73959df7b7814b78dee24e97f3361f75d4161167d1fb239923eda616ce0616", func := "loop.example/g01035/laws.FnExactLongestPeriod", spec := "fnExactLongestPeriod", apart := false, narrowed := true }
def FnExactLongestPeriodUptoSaid : Prop := fnExactLongestPeriodUptoRow.holds Try.pinned (OpenSpec.upto fnExactLongestPeriodSpec)

/-- 'laws.FnExactSeriesIn', WHERE WHAT IT READS IS OF BULK AT MOST 1048576: true; the input reads as it did. -/
def fnExactSeriesInUptoRow : OpenClaim := { program := "ytpcdjpkcalbpkaa", sum := "ea73959df7b7814b78dee24e97f3361f75d4161167d1fb239923eda616ce0616", func := "loop.example/g01035/laws.FnExactSeriesIn", spec := "fnExactSeriesIn", apart := false, narrowed := true }
def FnExactSeriesInUptoSaid : Prop := fnExactSeriesInUptoRow.holds Try.pinned (OpenSpec.upto fnExactSeriesInSpec)

end Rows
end Go.Proofs.Ytpcdjpkcalbpkaa
