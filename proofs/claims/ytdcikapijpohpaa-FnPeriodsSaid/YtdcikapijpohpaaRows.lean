/-
  No cell of these rows narrows 'for every input' (looked for: loops, veiled, ifaces, maps, wideKeys, modest, calm, conditions, laid).
  DERIVED. THE GIVEN ROWS OF THIS SEAT. 11 by the template 'for every input the law returns true; each argument reads behind the call as it read before'; 0 by the template 'total and deterministic' (their statements: YtdcikapijpohpaaTotals.lean).
  GIVEN WITH THE SEED: the statements are not yours to turn. If you find one false, say at which input.
  Laid BY PROGRAM, IN A SANDBOX (cutbox-rows.mjs): the forced cells as the released guide's own fill.sh prints them over the translation 856c3e5223f36bc9… (all of the seat's roots in one cut). By AI agents, Wed Nov 11 2026. No macro, syntax, notation, axiom, sorry.
-/
import Derived.Test.YtdcikapijpohpaaChecked
import GoSem.Claim
import GoSem.ClaimJoined
import GoSem.ClaimMapViews
import Derived.JoinedTies
import Derived.KernelRfl
namespace Go.Proofs.Ytdcikapijpohpaa
/- THE CELL 'sum', in the pinned program and in every row, IS THE sha256 OF THE DUMP (.gsa) THAT YtdcikapijpohpaaProg.lean LOADS. Nothing in Lean hashes anything: it is a label: what it is worth is what the hold of that sum in a sandbox is worth. -/
noncomputable def Try.pinned : Pinned := { name := "ytdcikapijpohpaa", sum := "856c3e5223f36bc9478aed45766c1fb4c00a996d5ad6fd6d734acabf370076c5", checked := Try.checked }
namespace Rows
def none {H : Type} : Left H := { results := [], args := [] }

/-- 'laws.FnPeriods': WHATEVER THE INPUT: true; the input reads as it did. -/
def fnPeriodsSpec : ChangeSpec := { name := "fnPeriods", fn := fun _ => fun
  | [d] => { results := [.lit (.bool true)], args := [d] }
  | _ => none }
def fnPeriodsRow : OpenClaim := { program := "ytdcikapijpohpaa", sum := "856c3e5223f36bc9478aed45766c1fb4c00a996d5ad6fd6d734acabf370076c5", func := "loop.example/g01035/laws.FnPeriods", spec := "fnPeriods", unfollowed := true, recurses := true, apart := false }
def FnPeriodsSaid : Prop := fnPeriodsRow.holds Try.pinned (OpenSpec.ofChange fnPeriodsSpec)

/-- ITS FALSE NEIGHBOUR: 'it returns false'. Refute it at one input. -/
def fnPeriodsWrong : ChangeSpec := { name := "fnPeriods", fn := fun _ => fun
  | [d] => { results := [.lit (.bool false)], args := [d] }
  | _ => none }
def FnPeriodsWrongFalsely : Prop := fnPeriodsRow.holds Try.pinned (OpenSpec.ofChange fnPeriodsWrong)

/-- 'laws.FnDue': WHATEVER THE INPUT: true; the input reads as it did. -/
def fnDueSpec : ChangeSpec := { name := "fnDue", fn := fun _ => fun
  | [d] => { results := [.lit (.bool true)], args := [d] }
  | _ => none }
def fnDueRow : OpenClaim := { program := "ytdcikapijpohpaa", sum := "856c3e5223f36bc9478aed45766c1fb4c00a996d5ad6fd6d734acabf370076c5", func := "loop.example/g01035/laws.FnDue", spec := "fnDue", apart := false }
def FnDueSaid : Prop := fnDueRow.holds Try.pinned (OpenSpec.ofChange fnDueSpec)

/-- ITS FALSE NEIGHBOUR: 'it returns false'. Refute it at one input. -/
def fnDueWrong : ChangeSpec := { name := "fnDue", fn := fun _ => fun
  | [d] => { results := [.lit (.bool false)], args := [d] }
  | _ => none }
def FnDueWrongFalsely : Prop := fnDueRow.holds Try.pinned (OpenSpec.ofChange fnDueWrong)

/-- 'laws.FnExactEndsOf': WHATEVER THE INPUT: true; the input reads as it did. -/
def fnExactEndsOfSpec : ChangeSpec := { name := "fnExactEndsOf", fn := fun _ => fun
  | [d1, d2] => { results := [.lit (.bool true)], args := [d1, d2] }
  | _ => none }
def fnExactEndsOfRow : OpenClaim := { program := "ytdcikapijpohpaa", sum := "856c3e5223f36bc9478aed45766c1fb4c00a996d5ad6fd6d734acabf370076c5", func := "loop.example/g01035/laws.FnExactEndsOf", spec := "fnExactEndsOf", apart := false }
def FnExactEndsOfSaid : Prop := fnExactEndsOfRow.holds Try.pinned (OpenSpec.ofChange fnExactEndsOfSpec)

/-- ITS FALSE NEIGHBOUR: 'it returns false'. Refute it at one input. -/
def fnExactEndsOfWrong : ChangeSpec := { name := "fnExactEndsOf", fn := fun _ => fun
  | [d1, d2] => { results := [.lit (.bool false)], args := [d1, d2] }
  | _ => none }
def FnExactEndsOfWrongFalsely : Prop := fnExactEndsOfRow.holds Try.pinned (OpenSpec.ofChange fnExactEndsOfWrong)

/-- 'laws.FnExactWaitsFor': WHATEVER THE INPUT: true; the input reads as it did. -/
def fnExactWaitsForSpec : ChangeSpec := { name := "fnExactWaitsFor", fn := fun _ => fun
  | [d1, d2] => { results := [.lit (.bool true)], args := [d1, d2] }
  | _ => none }
def fnExactWaitsForRow : OpenClaim := { program := "ytdcikapijpohpaa", sum := "856c3e5223f36bc9478aed45766c1fb4c00a996d5ad6fd6d734acabf370076c5", func := "loop.example/g01035/laws.FnExactWaitsFor", spec := "fnExactWaitsFor", apart := false }
def FnExactWaitsForSaid : Prop := fnExactWaitsForRow.holds Try.pinned (OpenSpec.ofChange fnExactWaitsForSpec)

/-- ITS FALSE NEIGHBOUR: 'it returns false'. Refute it at one input. -/
def fnExactWaitsForWrong : ChangeSpec := { name := "fnExactWaitsFor", fn := fun _ => fun
  | [d1, d2] => { results := [.lit (.bool false)], args := [d1, d2] }
  | _ => none }
def FnExactWaitsForWrongFalsely : Prop := fnExactWaitsForRow.holds Try.pinned (OpenSpec.ofChange fnExactWaitsForWrong)

/-- 'laws.FnExactDueDay': WHATEVER THE INPUT: true; the input reads as it did. -/
def fnExactDueDaySpec : ChangeSpec := { name := "fnExactDueDay", fn := fun _ => fun
  | [d1, d2] => { results := [.lit (.bool true)], args := [d1, d2] }
  | _ => none }
def fnExactDueDayRow : OpenClaim := { program := "ytdcikapijpohpaa", sum := "856c3e5223f36bc9478aed45766c1fb4c00a996d5ad6fd6d734acabf370076c5", func := "loop.example/g01035/laws.FnExactDueDay", spec := "fnExactDueDay", apart := false }
def FnExactDueDaySaid : Prop := fnExactDueDayRow.holds Try.pinned (OpenSpec.ofChange fnExactDueDaySpec)

/-- ITS FALSE NEIGHBOUR: 'it returns false'. Refute it at one input. -/
def fnExactDueDayWrong : ChangeSpec := { name := "fnExactDueDay", fn := fun _ => fun
  | [d1, d2] => { results := [.lit (.bool false)], args := [d1, d2] }
  | _ => none }
def FnExactDueDayWrongFalsely : Prop := fnExactDueDayRow.holds Try.pinned (OpenSpec.ofChange fnExactDueDayWrong)

/-- 'laws.FnExactDecidingRule': WHATEVER THE INPUT: true; the input reads as it did. -/
def fnExactDecidingRuleSpec : ChangeSpec := { name := "fnExactDecidingRule", fn := fun _ => fun
  | [d1, d2] => { results := [.lit (.bool true)], args := [d1, d2] }
  | _ => none }
def fnExactDecidingRuleRow : OpenClaim := { program := "ytdcikapijpohpaa", sum := "856c3e5223f36bc9478aed45766c1fb4c00a996d5ad6fd6d734acabf370076c5", func := "loop.example/g01035/laws.FnExactDecidingRule", spec := "fnExactDecidingRule", apart := false }
def FnExactDecidingRuleSaid : Prop := fnExactDecidingRuleRow.holds Try.pinned (OpenSpec.ofChange fnExactDecidingRuleSpec)

/-- ITS FALSE NEIGHBOUR: 'it returns false'. Refute it at one input. -/
def fnExactDecidingRuleWrong : ChangeSpec := { name := "fnExactDecidingRule", fn := fun _ => fun
  | [d1, d2] => { results := [.lit (.bool false)], args := [d1, d2] }
  | _ => none }
def FnExactDecidingRuleWrongFalsely : Prop := fnExactDecidingRuleRow.holds Try.pinned (OpenSpec.ofChange fnExactDecidingRuleWrong)

/-- 'laws.FnExactIsDue': WHATEVER THE INPUT: true; the input reads as it did. -/
def fnExactIsDueSpec : ChangeSpec := { name := "fnExactIsDue", fn := fun _ => fun
  | [d1, d2, d3] => { results := [.lit (.bool true)], args := [d1, d2, d3] }
  | _ => none }
def fnExactIsDueRow : OpenClaim := { program := "ytdcikapijpohpaa", sum := "856c3e5223f36bc9478aed45766c1fb4c00a996d5ad6fd6d734acabf370076c5", func := "loop.example/g01035/laws.FnExactIsDue", spec := "fnExactIsDue", apart := false }
def FnExactIsDueSaid : Prop := fnExactIsDueRow.holds Try.pinned (OpenSpec.ofChange fnExactIsDueSpec)

/-- ITS FALSE NEIGHBOUR: 'it returns false'. Refute it at one input. -/
def fnExactIsDueWrong : ChangeSpec := { name := "fnExactIsDue", fn := fun _ => fun
  | [d1, d2, d3] => { results := [.lit (.bool false)], args := [d1, d2, d3] }
  | _ => none }
def FnExactIsDueWrongFalsely : Prop := fnExactIsDueRow.holds Try.pinned (OpenSpec.ofChange fnExactIsDueWrong)

/-- 'laws.FnExactDueRecords': WHATEVER THE INPUT: true; the input reads as it did. -/
def fnExactDueRecordsSpec : ChangeSpec := { name := "fnExactDueRecords", fn := fun _ => fun
  | [d1, d2, d3, d4] => { results := [.lit (.bool true)], args := [d1, d2, d3, d4] }
  | _ => none }
def fnExactDueRecordsRow : OpenClaim := { program := "ytdcikapijpohpaa", sum := "856c3e5223f36bc9478aed45766c1fb4c00a996d5ad6fd6d734acabf370076c5", func := "loop.example/g01035/laws.FnExactDueRecords", spec := "fnExactDueRecords", apart := false }
def FnExactDueRecordsSaid : Prop := fnExactDueRecordsRow.holds Try.pinned (OpenSpec.ofChange fnExactDueRecordsSpec)

/-- ITS FALSE NEIGHBOUR: 'it returns false'. Refute it at one input. -/
def fnExactDueRecordsWrong : ChangeSpec := { name := "fnExactDueRecords", fn := fun _ => fun
  | [d1, d2, d3, d4] => { results := [.lit (.bool false)], args := [d1, d2, d3, d4] }
  | _ => none }
def FnExactDueRecordsWrongFalsely : Prop := fnExactDueRecordsRow.holds Try.pinned (OpenSpec.ofChange fnExactDueRecordsWrong)

/-- 'laws.FnExactNextDue': WHATEVER THE INPUT: true; the input reads as it did. -/
def fnExactNextDueSpec : ChangeSpec := { name := "fnExactNextDue", fn := fun _ => fun
  | [d1, d2, d3] => { results := [.lit (.bool true)], args := [d1, d2, d3] }
  | _ => none }
def fnExactNextDueRow : OpenClaim := { program := "ytdcikapijpohpaa", sum := "856c3e5223f36bc9478aed45766c1fb4c00a996d5ad6fd6d734acabf370076c5", func := "loop.example/g01035/laws.FnExactNextDue", spec := "fnExactNextDue", apart := false }
def FnExactNextDueSaid : Prop := fnExactNextDueRow.holds Try.pinned (OpenSpec.ofChange fnExactNextDueSpec)

/-- ITS FALSE NEIGHBOUR: 'it returns false'. Refute it at one input. -/
def fnExactNextDueWrong : ChangeSpec := { name := "fnExactNextDue", fn := fun _ => fun
  | [d1, d2, d3] => { results := [.lit (.bool false)], args := [d1, d2, d3] }
  | _ => none }
def FnExactNextDueWrongFalsely : Prop := fnExactNextDueRow.holds Try.pinned (OpenSpec.ofChange fnExactNextDueWrong)

/-- 'laws.FnExactNotScheduled': WHATEVER THE INPUT: true; the input reads as it did. -/
def fnExactNotScheduledSpec : ChangeSpec := { name := "fnExactNotScheduled", fn := fun _ => fun
  | [d1, d2] => { results := [.lit (.bool true)], args := [d1, d2] }
  | _ => none }
def fnExactNotScheduledRow : OpenClaim := { program := "ytdcikapijpohpaa", sum := "856c3e5223f36bc9478aed45766c1fb4c00a996d5ad6fd6d734acabf370076c5", func := "loop.example/g01035/laws.FnExactNotScheduled", spec := "fnExactNotScheduled", apart := false }
def FnExactNotScheduledSaid : Prop := fnExactNotScheduledRow.holds Try.pinned (OpenSpec.ofChange fnExactNotScheduledSpec)

/-- ITS FALSE NEIGHBOUR: 'it returns false'. Refute it at one input. -/
def fnExactNotScheduledWrong : ChangeSpec := { name := "fnExactNotScheduled", fn := fun _ => fun
  | [d1, d2] => { results := [.lit (.bool false)], args := [d1, d2] }
  | _ => none }
def FnExactNotScheduledWrongFalsely : Prop := fnExactNotScheduledRow.holds Try.pinned (OpenSpec.ofChange fnExactNotScheduledWrong)

/-- 'laws.FnExactDueAfter': WHATEVER THE INPUT: true; the input reads as it did. -/
def fnExactDueAfterSpec : ChangeSpec := { name := "fnExactDueAfter", fn := fun _ => fun
  | [d1, d2, d3] => { results := [.lit (.bool true)], args := [d1, d2, d3] }
  | _ => none }
def fnExactDueAfterRow : OpenClaim := { program := "ytdcikapijpohpaa", sum := "856c3e5223f36bc9478aed45766c1fb4c00a996d5ad6fd6d734acabf370076c5", func := "loop.example/g01035/laws.FnExactDueAfter", spec := "fnExactDueAfter", unfollowed := true, recurses := true, apart := false }
def FnExactDueAfterSaid : Prop := fnExactDueAfterRow.holds Try.pinned (OpenSpec.ofChange fnExactDueAfterSpec)

/-- ITS FALSE NEIGHBOUR: 'it returns false'. Refute it at one input. -/
def fnExactDueAfterWrong : ChangeSpec := { name := "fnExactDueAfter", fn := fun _ => fun
  | [d1, d2, d3] => { results := [.lit (.bool false)], args := [d1, d2, d3] }
  | _ => none }
def FnExactDueAfterWrongFalsely : Prop := fnExactDueAfterRow.holds Try.pinned (OpenSpec.ofChange fnExactDueAfterWrong)

/- THE SECOND FORM. 'bulk': how many values and letters a reading holds, each counted each time it is reached (what is shared counts as often as it is met; a slice's spare places count too). A statement '..UptoSaid' is the law's where the arguments, and the package variables that the reading takes, are together of bulk at most 1048576: NARROWER than '..Said'. Prove '..Said' where nothing that the law and all that it calls make is longer than what came in: it says more and counts as full. Else prove '..UptoSaid'. A law counts once. -/
mutual
def uptoBulk {H : Type} : DataW H → Nat
  | .lit (.string bytes) => bytes.length + 1
  | .lit _ => 1
  | .nil => 1
  | .ptr d => uptoBulk d + 1
  | .slice elems spare => uptoBulkAll elems + uptoBulkAll spare + 1
  | .agg parts => uptoBulkAll parts + 1
  | .iface _ d => uptoBulk d + 1
  | .map entries => uptoBulkEntries entries + 1
  | .held _ => 1
def uptoBulkAll {H : Type} : List (DataW H) → Nat
  | [] => 0
  | d :: r => uptoBulk d + uptoBulkAll r
def uptoBulkEntries {H : Type} : List (Lit × DataW H) → Nat
  | [] => 0
  | x :: r => uptoBulkEntry x + uptoBulkEntries r
def uptoBulkEntry {H : Type} : Lit × DataW H → Nat
  | (.string bytes, d) => bytes.length + uptoBulk d + 1
  | (_, d) => uptoBulk d + 1
 end
def uptoSmall : (H : Type) → List (DataW H) → Bool := fun _ ds => decide (uptoBulkAll ds ≤ 1048576)
def OpenSpec.upto (s : _root_.Go.ChangeSpec) : _root_.Go.OpenSpec := { _root_.Go.OpenSpec.ofChange s with cond := some uptoSmall }

/-- 'laws.FnPeriods', WHERE WHAT IT READS IS OF BULK AT MOST 1048576: true; the input reads as it did. -/
def fnPeriodsUptoRow : OpenClaim := { program := "ytdcikapijpohpaa", sum := "856c3e5223f36bc9478aed45766c1fb4c00a996d5ad6fd6d734acabf370076c5", func := "loop.example/g01035/laws.FnPeriods", spec := "fnPeriods", unfollowed := true, recurses := true, apart := false, narrowed := true }
def FnPeriodsUptoSaid : Prop := fnPeriodsUptoRow.holds Try.pinned (OpenSpec.upto fnPeriodsSpec)

/-- 'laws.FnDue', WHERE WHAT IT READS IS OF BULK AT MOST 1048576: true; the input reads as it did. -/
def fnDueUptoRow : OpenClaim := { program := "ytdcikapijpohpaa", sum := "856c3e5223f36bc9478aed45766c1fb4c00a996d5ad6fd6d734acabf370076c5", func := "loop.example/g01035/laws.FnDue", spec := "fnDue", apart := false, narrowed := true }
def FnDueUptoSaid : Prop := fnDueUptoRow.holds Try.pinned (OpenSpec.upto fnDueSpec)

/-- 'laws.FnExactEndsOf', WHERE WHAT IT READS IS OF BULK AT MOST 1048576: true; the input reads as it did. -/
def fnExactEndsOfUptoRow : OpenClaim := { program := "ytdcikapijpohpaa", sum := "856c3e5223f36bc9478aed45766c1fb4c00a996d5ad6fd6d734acabf370076c5", func := "loop.example/g01035/laws.FnExactEndsOf", spec := "fnExactEndsOf", apart := false, narrowed := true }
def FnExactEndsOfUptoSaid : Prop := fnExactEndsOfUptoRow.holds Try.pinned (OpenSpec.upto fnExactEndsOfSpec)

/-- 'laws.FnExactWaitsFor', WHERE WHAT IT READS IS OF BULK AT MOST 1048576: true; the input reads as it did. -/
def fnExactWaitsForUptoRow : OpenClaim := { program := "ytdcikapijpohpaa", sum := "856c3e5223f36bc9478aed45766c1fb4c00a996d5ad6fd6d734acabf370076c5", func := "loop.example/g01035/laws.FnExactWaitsFor", spec := "fnExactWaitsFor", apart := false, narrowed := true }
def FnExactWaitsForUptoSaid : Prop := fnExactWaitsForUptoRow.holds Try.pinned (OpenSpec.upto fnExactWaitsForSpec)

/-- 'laws.FnExactDueDay', WHERE WHAT IT READS IS OF BULK AT MOST 1048576: true; the input reads as it did. -/
def fnExactDueDayUptoRow : OpenClaim := { program := "ytdcikapijpohpaa", sum := "856c3e5223f36bc9478aed45766c1fb4c00a996d5ad6fd6d734acabf370076c5", func := "loop.example/g01035/laws.FnExactDueDay", spec := "fnExactDueDay", apart := false, narrowed := true }
def FnExactDueDayUptoSaid : Prop := fnExactDueDayUptoRow.holds Try.pinned (OpenSpec.upto fnExactDueDaySpec)

/-- 'laws.FnExactDecidingRule', WHERE WHAT IT READS IS OF BULK AT MOST 1048576: true; the input reads as it did. -/
def fnExactDecidingRuleUptoRow : OpenClaim := { program := "ytdcikapijpohpaa", sum := "856c3e5223f36bc9478aed45766c1fb4c00a996d5ad6fd6d734acabf370076c5", func := "loop.example/g01035/laws.FnExactDecidingRule", spec := "fnExactDecidingRule", apart := false, narrowed := true }
def FnExactDecidingRuleUptoSaid : Prop := fnExactDecidingRuleUptoRow.holds Try.pinned (OpenSpec.upto fnExactDecidingRuleSpec)

/-- 'laws.FnExactIsDue', WHERE WHAT IT READS IS OF BULK AT MOST 1048576: true; the input reads as it did. -/
def fnExactIsDueUptoRow : OpenClaim := { program := "ytdcikapijpohpaa", sum := "856c3e5223f36bc9478aed45766c1fb4c00a996d5ad6fd6d734acabf370076c5", func := "loop.example/g01035/laws.FnExactIsDue", spec := "fnExactIsDue", apart := false, narrowed := true }
def FnExactIsDueUptoSaid : Prop := fnExactIsDueUptoRow.holds Try.pinned (OpenSpec.upto fnExactIsDueSpec)

/-- 'laws.FnExactDueRecords', WHERE WHAT IT READS IS OF BULK AT MOST 1048576: true; the input reads as it did. -/
def fnExactDueRecordsUptoRow : OpenClaim := { program := "ytdcikapijpohpaa", sum := "856c3e5223f36bc9478aed45766c1fb4c00a996d5ad6fd6d734acabf370076c5", func := "loop.example/g01035/laws.FnExactDueRecords", spec := "fnExactDueRecords", apart := false, narrowed := true }
def FnExactDueRecordsUptoSaid : Prop := fnExactDueRecordsUptoRow.holds Try.pinned (OpenSpec.upto fnExactDueRecordsSpec)

/-- 'laws.FnExactNextDue', WHERE WHAT IT READS IS OF BULK AT MOST 1048576: true; the input reads as it did. -/
def fnExactNextDueUptoRow : OpenClaim := { program := "ytdcikapijpohpaa", sum := "856c3e5223f36bc9478aed45766c1fb4c00a996d5ad6fd6d734acabf370076c5", func := "loop.example/g01035/laws.FnExactNextDue", spec := "fnExactNextDue", apart := false, narrowed := true }
def FnExactNextDueUptoSaid : Prop := fnExactNextDueUptoRow.holds Try.pinned (OpenSpec.upto fnExactNextDueSpec)

/-- 'laws.FnExactNotScheduled', WHERE WHAT IT READS IS OF BULK AT MOST 1048576: true; the input reads as it did. -/
def fnExactNotScheduledUptoRow : OpenClaim := { program := "ytdcikapijpohpaa", sum := "856c3e5223f36bc9478aed45766c1fb4c00a996d5ad6fd6d734acabf370076c5", func := "loop.example/g01035/laws.FnExactNotScheduled", spec := "fnExactNotScheduled", apart := false, narrowed := true }
def FnExactNotScheduledUptoSaid : Prop := fnExactNotScheduledUptoRow.holds Try.pinned (OpenSpec.upto fnExactNotScheduledSpec)

/-- 'laws.FnExactDueAfter', WHERE WHAT IT READS IS OF BULK AT MOST 1048576: true; the input reads as it did. -/
def fnExactDueAfterUptoRow : OpenClaim := { program := "ytdcikapijpohpaa", sum := "856c3e5223f36bc9478aed45766c1fb4c00a996d5ad6fd6d734acabf370076c5", func := "loop.example/g01035/laws.FnExactDueAfter", spec := "fnExactDueAfter", unfollowed := true, recurses := true, apart := false, narrowed := true }
def FnExactDueAfterUptoSaid : Prop := fnExactDueAfterUptoRow.holds Try.pinned (OpenSpec.upto fnExactDueAfterSpec)

end Rows
end Go.Proofs.Ytdcikapijpohpaa
