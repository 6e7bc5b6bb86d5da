/-
  No cell of these rows narrows 'for every input' (looked for: loops, veiled, ifaces, maps, wideKeys, modest, calm, conditions, laid).
  DERIVED. THE GIVEN ROWS OF THIS SEAT. 12 by the template 'for every input the law returns true; each argument reads behind the call as it read before'; 0 by the template 'total and deterministic' (their statements: YtkjpehpodlpdhaaTotals.lean).
  GIVEN WITH THE SEED: the statements are not yours to turn. If you find one false, say at which input.
  Laid BY PROGRAM, IN A SANDBOX (cutbox-rows.mjs): the forced cells as the released guide's own fill.sh prints them over the translation 9ece5586034445fa… (all of the seat's roots in one cut). By AI agents, Wed Nov 11 2026. No macro, syntax, notation, axiom, sorry.
-/
import Derived.Test.YtkjpehpodlpdhaaChecked
import GoSem.Claim
import GoSem.ClaimJoined
import GoSem.ClaimMapViews
import Derived.JoinedTies
import Derived.KernelRfl
namespace Go.Proofs.Ytkjpehpodlpdhaa
/- THE CELL 'sum', in the pinned program and in every row, IS THE sha256 OF THE DUMP (.gsa) THAT YtkjpehpodlpdhaaProg.lean LOADS. Nothing in Lean hashes anything: it is a label: what it is worth is what the hold of that sum in a sandbox is worth. -/
noncomputable def Try.pinned : Pinned := { name := "ytkjpehpodlpdhaa", sum := "9ece5586034445fa8b557d904375420c4fcaa863bf8c87660ef228788515e1f0", checked := Try.checked }
namespace Rows
def none {H : Type} : Left H := { results := [], args := [] }

/-- 'laws.FnExactAreHolds': WHATEVER THE INPUT: true; the input reads as it did. -/
def fnExactAreHoldsSpec : ChangeSpec := { name := "fnExactAreHolds", fn := fun _ => fun
  | [d] => { results := [.lit (.bool true)], args := [d] }
  | _ => none }
def fnExactAreHoldsRow : OpenClaim := { program := "ytkjpehpodlpdhaa", sum := "9ece5586034445fa8b557d904375420c4fcaa863bf8c87660ef228788515e1f0", func := "loop.example/g01035/laws.FnExactAreHolds", spec := "fnExactAreHolds", apart := false }
def FnExactAreHoldsSaid : Prop := fnExactAreHoldsRow.holds Try.pinned (OpenSpec.ofChange fnExactAreHoldsSpec)

/-- ITS FALSE NEIGHBOUR: 'it returns false'. Refute it at one input. -/
def fnExactAreHoldsWrong : ChangeSpec := { name := "fnExactAreHolds", fn := fun _ => fun
  | [d] => { results := [.lit (.bool false)], args := [d] }
  | _ => none }
def FnExactAreHoldsWrongFalsely : Prop := fnExactAreHoldsRow.holds Try.pinned (OpenSpec.ofChange fnExactAreHoldsWrong)

/-- 'laws.FnExactHoldsOn': WHATEVER THE INPUT: true; the input reads as it did. -/
def fnExactHoldsOnSpec : ChangeSpec := { name := "fnExactHoldsOn", fn := fun _ => fun
  | [d1, d2, d3] => { results := [.lit (.bool true)], args := [d1, d2, d3] }
  | _ => none }
def fnExactHoldsOnRow : OpenClaim := { program := "ytkjpehpodlpdhaa", sum := "9ece5586034445fa8b557d904375420c4fcaa863bf8c87660ef228788515e1f0", func := "loop.example/g01035/laws.FnExactHoldsOn", spec := "fnExactHoldsOn", unfollowed := true, recurses := true, apart := false }
def FnExactHoldsOnSaid : Prop := fnExactHoldsOnRow.holds Try.pinned (OpenSpec.ofChange fnExactHoldsOnSpec)

/-- ITS FALSE NEIGHBOUR: 'it returns false'. Refute it at one input. -/
def fnExactHoldsOnWrong : ChangeSpec := { name := "fnExactHoldsOn", fn := fun _ => fun
  | [d1, d2, d3] => { results := [.lit (.bool false)], args := [d1, d2, d3] }
  | _ => none }
def FnExactHoldsOnWrongFalsely : Prop := fnExactHoldsOnRow.holds Try.pinned (OpenSpec.ofChange fnExactHoldsOnWrong)

/-- 'laws.FnExactFreeDay': WHATEVER THE INPUT: true; the input reads as it did. -/
def fnExactFreeDaySpec : ChangeSpec := { name := "fnExactFreeDay", fn := fun _ => fun
  | [d1, d2, d3] => { results := [.lit (.bool true)], args := [d1, d2, d3] }
  | _ => none }
def fnExactFreeDayRow : OpenClaim := { program := "ytkjpehpodlpdhaa", sum := "9ece5586034445fa8b557d904375420c4fcaa863bf8c87660ef228788515e1f0", func := "loop.example/g01035/laws.FnExactFreeDay", spec := "fnExactFreeDay", unfollowed := true, recurses := true, apart := false }
def FnExactFreeDaySaid : Prop := fnExactFreeDayRow.holds Try.pinned (OpenSpec.ofChange fnExactFreeDaySpec)

/-- ITS FALSE NEIGHBOUR: 'it returns false'. Refute it at one input. -/
def fnExactFreeDayWrong : ChangeSpec := { name := "fnExactFreeDay", fn := fun _ => fun
  | [d1, d2, d3] => { results := [.lit (.bool false)], args := [d1, d2, d3] }
  | _ => none }
def FnExactFreeDayWrongFalsely : Prop := fnExactFreeDayRow.holds Try.pinned (OpenSpec.ofChange fnExactFreeDayWrong)

/-- 'laws.FnExactReleaseHold': WHATEVER THE INPUT: true; the input reads as it did. -/
def fnExactReleaseHoldSpec : ChangeSpec := { name := "fnExactReleaseHold", fn := fun _ => fun
  | [d1, d2, d3] => { results := [.lit (.bool true)], args := [d1, d2, d3] }
  | _ => none }
def fnExactReleaseHoldRow : OpenClaim := { program := "ytkjpehpodlpdhaa", sum := "9ece5586034445fa8b557d904375420c4fcaa863bf8c87660ef228788515e1f0", func := "loop.example/g01035/laws.FnExactReleaseHold", spec := "fnExactReleaseHold", unfollowed := true, recurses := true, apart := false }
def FnExactReleaseHoldSaid : Prop := fnExactReleaseHoldRow.holds Try.pinned (OpenSpec.ofChange fnExactReleaseHoldSpec)

/-- ITS FALSE NEIGHBOUR: 'it returns false'. Refute it at one input. -/
def fnExactReleaseHoldWrong : ChangeSpec := { name := "fnExactReleaseHold", fn := fun _ => fun
  | [d1, d2, d3] => { results := [.lit (.bool false)], args := [d1, d2, d3] }
  | _ => none }
def FnExactReleaseHoldWrongFalsely : Prop := fnExactReleaseHoldRow.holds Try.pinned (OpenSpec.ofChange fnExactReleaseHoldWrong)

/-- 'laws.FnExactHeldOn': WHATEVER THE INPUT: true; the input reads as it did. -/
def fnExactHeldOnSpec : ChangeSpec := { name := "fnExactHeldOn", fn := fun _ => fun
  | [d1, d2, d3] => { results := [.lit (.bool true)], args := [d1, d2, d3] }
  | _ => none }
def fnExactHeldOnRow : OpenClaim := { program := "ytkjpehpodlpdhaa", sum := "9ece5586034445fa8b557d904375420c4fcaa863bf8c87660ef228788515e1f0", func := "loop.example/g01035/laws.FnExactHeldOn", spec := "fnExactHeldOn", unfollowed := true, recurses := true, apart := false }
def FnExactHeldOnSaid : Prop := fnExactHeldOnRow.holds Try.pinned (OpenSpec.ofChange fnExactHeldOnSpec)

/-- ITS FALSE NEIGHBOUR: 'it returns false'. Refute it at one input. -/
def fnExactHeldOnWrong : ChangeSpec := { name := "fnExactHeldOn", fn := fun _ => fun
  | [d1, d2, d3] => { results := [.lit (.bool false)], args := [d1, d2, d3] }
  | _ => none }
def FnExactHeldOnWrongFalsely : Prop := fnExactHeldOnRow.holds Try.pinned (OpenSpec.ofChange fnExactHeldOnWrong)

/-- 'laws.FnExactMayDestroy': WHATEVER THE INPUT: true; the input reads as it did. -/
def fnExactMayDestroySpec : ChangeSpec := { name := "fnExactMayDestroy", fn := fun _ => fun
  | [d1, d2, d3, d4] => { results := [.lit (.bool true)], args := [d1, d2, d3, d4] }
  | _ => none }
def fnExactMayDestroyRow : OpenClaim := { program := "ytkjpehpodlpdhaa", sum := "9ece5586034445fa8b557d904375420c4fcaa863bf8c87660ef228788515e1f0", func := "loop.example/g01035/laws.FnExactMayDestroy", spec := "fnExactMayDestroy", unfollowed := true, recurses := true, apart := false }
def FnExactMayDestroySaid : Prop := fnExactMayDestroyRow.holds Try.pinned (OpenSpec.ofChange fnExactMayDestroySpec)

/-- ITS FALSE NEIGHBOUR: 'it returns false'. Refute it at one input. -/
def fnExactMayDestroyWrong : ChangeSpec := { name := "fnExactMayDestroy", fn := fun _ => fun
  | [d1, d2, d3, d4] => { results := [.lit (.bool false)], args := [d1, d2, d3, d4] }
  | _ => none }
def FnExactMayDestroyWrongFalsely : Prop := fnExactMayDestroyRow.holds Try.pinned (OpenSpec.ofChange fnExactMayDestroyWrong)

/-- 'laws.FnExactFirstDestruction': WHATEVER THE INPUT: true; the input reads as it did. -/
def fnExactFirstDestructionSpec : ChangeSpec := { name := "fnExactFirstDestruction", fn := fun _ => fun
  | [d1, d2, d3] => { results := [.lit (.bool true)], args := [d1, d2, d3] }
  | _ => none }
def fnExactFirstDestructionRow : OpenClaim := { program := "ytkjpehpodlpdhaa", sum := "9ece5586034445fa8b557d904375420c4fcaa863bf8c87660ef228788515e1f0", func := "loop.example/g01035/laws.FnExactFirstDestruction", spec := "fnExactFirstDestruction", unfollowed := true, recurses := true, apart := false }
def FnExactFirstDestructionSaid : Prop := fnExactFirstDestructionRow.holds Try.pinned (OpenSpec.ofChange fnExactFirstDestructionSpec)

/-- ITS FALSE NEIGHBOUR: 'it returns false'. Refute it at one input. -/
def fnExactFirstDestructionWrong : ChangeSpec := { name := "fnExactFirstDestruction", fn := fun _ => fun
  | [d1, d2, d3] => { results := [.lit (.bool false)], args := [d1, d2, d3] }
  | _ => none }
def FnExactFirstDestructionWrongFalsely : Prop := fnExactFirstDestructionRow.holds Try.pinned (OpenSpec.ofChange fnExactFirstDestructionWrong)

/-- 'laws.FnExactMostHolds': WHATEVER THE INPUT: true; the input reads as it did. -/
def fnExactMostHoldsSpec : ChangeSpec := { name := "fnExactMostHolds", fn := fun _ => fun
  | [d1, d2] => { results := [.lit (.bool true)], args := [d1, d2] }
  | _ => none }
def fnExactMostHoldsRow : OpenClaim := { program := "ytkjpehpodlpdhaa", sum := "9ece5586034445fa8b557d904375420c4fcaa863bf8c87660ef228788515e1f0", func := "loop.example/g01035/laws.FnExactMostHolds", spec := "fnExactMostHolds", unfollowed := true, recurses := true, apart := false }
def FnExactMostHoldsSaid : Prop := fnExactMostHoldsRow.holds Try.pinned (OpenSpec.ofChange fnExactMostHoldsSpec)

/-- ITS FALSE NEIGHBOUR: 'it returns false'. Refute it at one input. -/
def fnExactMostHoldsWrong : ChangeSpec := { name := "fnExactMostHolds", fn := fun _ => fun
  | [d1, d2] => { results := [.lit (.bool false)], args := [d1, d2] }
  | _ => none }
def FnExactMostHoldsWrongFalsely : Prop := fnExactMostHoldsRow.holds Try.pinned (OpenSpec.ofChange fnExactMostHoldsWrong)

/-- 'laws.FnExactNeededHolds': WHATEVER THE INPUT: true; the input reads as it did. -/
def fnExactNeededHoldsSpec : ChangeSpec := { name := "fnExactNeededHolds", fn := fun _ => fun
  | [d1, d2, d3] => { results := [.lit (.bool true)], args := [d1, d2, d3] }
  | _ => none }
def fnExactNeededHoldsRow : OpenClaim := { program := "ytkjpehpodlpdhaa", sum := "9ece5586034445fa8b557d904375420c4fcaa863bf8c87660ef228788515e1f0", func := "loop.example/g01035/laws.FnExactNeededHolds", spec := "fnExactNeededHolds", unfollowed := true, recurses := true, apart := false }
def FnExactNeededHoldsSaid : Prop := fnExactNeededHoldsRow.holds Try.pinned (OpenSpec.ofChange fnExactNeededHoldsSpec)

/-- ITS FALSE NEIGHBOUR: 'it returns false'. Refute it at one input. -/
def fnExactNeededHoldsWrong : ChangeSpec := { name := "fnExactNeededHolds", fn := fun _ => fun
  | [d1, d2, d3] => { results := [.lit (.bool false)], args := [d1, d2, d3] }
  | _ => none }
def FnExactNeededHoldsWrongFalsely : Prop := fnExactNeededHoldsRow.holds Try.pinned (OpenSpec.ofChange fnExactNeededHoldsWrong)

/-- 'laws.FnExactHeldDays': WHATEVER THE INPUT: true; the input reads as it did. -/
def fnExactHeldDaysSpec : ChangeSpec := { name := "fnExactHeldDays", fn := fun _ => fun
  | [d1, d2] => { results := [.lit (.bool true)], args := [d1, d2] }
  | _ => none }
def fnExactHeldDaysRow : OpenClaim := { program := "ytkjpehpodlpdhaa", sum := "9ece5586034445fa8b557d904375420c4fcaa863bf8c87660ef228788515e1f0", func := "loop.example/g01035/laws.FnExactHeldDays", spec := "fnExactHeldDays", unfollowed := true, recurses := true, apart := false }
def FnExactHeldDaysSaid : Prop := fnExactHeldDaysRow.holds Try.pinned (OpenSpec.ofChange fnExactHeldDaysSpec)

/-- ITS FALSE NEIGHBOUR: 'it returns false'. Refute it at one input. -/
def fnExactHeldDaysWrong : ChangeSpec := { name := "fnExactHeldDays", fn := fun _ => fun
  | [d1, d2] => { results := [.lit (.bool false)], args := [d1, d2] }
  | _ => none }
def FnExactHeldDaysWrongFalsely : Prop := fnExactHeldDaysRow.holds Try.pinned (OpenSpec.ofChange fnExactHeldDaysWrong)

/-- 'laws.FnVersionLists': WHATEVER THE INPUT: true; the input reads as it did. -/
def fnVersionListsSpec : ChangeSpec := { name := "fnVersionLists", fn := fun _ => fun
  | [d] => { results := [.lit (.bool true)], args := [d] }
  | _ => none }
def fnVersionListsRow : OpenClaim := { program := "ytkjpehpodlpdhaa", sum := "9ece5586034445fa8b557d904375420c4fcaa863bf8c87660ef228788515e1f0", func := "loop.example/g01035/laws.FnVersionLists", spec := "fnVersionLists", inPlace := ["slices.overlaps[loop.example/g01035/impl.Version]"], unfollowed := true, recurses := true, apart := false }
def FnVersionListsSaid : Prop := fnVersionListsRow.holds Try.pinned (OpenSpec.ofChange fnVersionListsSpec)

/-- ITS FALSE NEIGHBOUR: 'it returns false'. Refute it at one input. -/
def fnVersionListsWrong : ChangeSpec := { name := "fnVersionLists", fn := fun _ => fun
  | [d] => { results := [.lit (.bool false)], args := [d] }
  | _ => none }
def FnVersionListsWrongFalsely : Prop := fnVersionListsRow.holds Try.pinned (OpenSpec.ofChange fnVersionListsWrong)

/-- 'laws.FnHolds': WHATEVER THE INPUT: true; the input reads as it did. -/
def fnHoldsSpec : ChangeSpec := { name := "fnHolds", fn := fun _ => fun
  | [d] => { results := [.lit (.bool true)], args := [d] }
  | _ => none }
def fnHoldsRow : OpenClaim := { program := "ytkjpehpodlpdhaa", sum := "9ece5586034445fa8b557d904375420c4fcaa863bf8c87660ef228788515e1f0", func := "loop.example/g01035/laws.FnHolds", spec := "fnHolds", unfollowed := true, recurses := true, apart := false }
def FnHoldsSaid : Prop := fnHoldsRow.holds Try.pinned (OpenSpec.ofChange fnHoldsSpec)

/-- ITS FALSE NEIGHBOUR: 'it returns false'. Refute it at one input. -/
def fnHoldsWrong : ChangeSpec := { name := "fnHolds", fn := fun _ => fun
  | [d] => { results := [.lit (.bool false)], args := [d] }
  | _ => none }
def FnHoldsWrongFalsely : Prop := fnHoldsRow.holds Try.pinned (OpenSpec.ofChange fnHoldsWrong)

/- THE SECOND FORM. 'bulk': how many values and letters a reading holds, each counted each time it is reached (what is shared counts as often as it is met; a slice's spare places count too). A statement '..UptoSaid' is the law's where the arguments, and the package variables that the reading takes, are together of bulk at most 1048576: NARROWER than '..Said'. Prove '..Said' where nothing that the law and all that it calls make is longer than what came in: it says more and counts as full. Else prove '..UptoSaid'. A law counts once. -/
mutual
def uptoBulk {H : Type} : DataW H → Nat
  | .lit (.string bytes) => bytes.length + 1
  | .lit _ => 1
  | .nil => 1
  | .ptr d => uptoBulk d + 1
  | .slice elems spare => uptoBulkAll elems + uptoBulkAll spare + 1
  | .agg parts => uptoBulkAll parts + 1
  | .iface _ d => uptoBulk d + 1
  | .map entries => uptoBulkEntries entries + 1
  | .held _ => 1
def uptoBulkAll {H : Type} : List (DataW H) → Nat
  | [] => 0
  | d :: r => uptoBulk d + uptoBulkAll r
def uptoBulkEntries {H : Type} : List (Lit × DataW H) → Nat
  | [] => 0
  | x :: r => uptoBulkEntry x + uptoBulkEntries r
def uptoBulkEntry {H : Type} : Lit × DataW H → Nat
  | (.string bytes, d) => bytes.length + uptoBulk d + 1
  | (_, d) => uptoBulk d + 1
 end
def uptoSmall : (H : Type) → List (DataW H) → Bool := fun _ ds => decide (uptoBulkAll ds ≤ 1048576)
def OpenSpec.upto (s : _root_.Go.ChangeSpec) : _root_.Go.OpenSpec := { _root_.Go.OpenSpec.ofChange s with cond := some uptoSmall }

/-- 'laws.FnExactAreHolds', WHERE WHAT IT READS IS OF BULK AT MOST 1048576: true; the input reads as it did. -/
def fnExactAreHoldsUptoRow : OpenClaim := { program := "ytkjpehpodlpdhaa", sum := "9ece5586034445fa8b557d904375420c4fcaa863bf8c87660ef228788515e1f0", func := "loop.example/g01035/laws.FnExactAreHolds", spec := "fnExactAreHolds", apart := false, narrowed := true }
def FnExactAreHoldsUptoSaid : Prop := fnExactAreHoldsUptoRow.holds Try.pinned (OpenSpec.upto fnExactAreHoldsSpec)

/-- 'laws.FnExactHoldsOn', WHERE WHAT IT READS IS OF BULK AT MOST 1048576: true; the input reads as it did. -/
def fnExactHoldsOnUptoRow : OpenClaim := { program := "ytkjpehpodlpdhaa", sum := "9ece5586034445fa8b557d904375420c4fcaa863bf8c87660ef228788515e1f0", func := "loop.example/g01035/laws.FnExactHoldsOn", spec := "fnExactHoldsOn", unfollowed := true, recurses := true, apart := false, narrowed := true }
def FnExactHoldsOnUptoSaid : Prop := fnExactHoldsOnUptoRow.holds Try.pinned (OpenSpec.upto fnExactHoldsOnSpec)

/-- 'laws.FnExactFreeDay', WHERE WHAT IT READS IS OF BULK AT MOST 1048576: true; the input reads as it did. -/
def fnExactFreeDayUptoRow : OpenClaim := { program := "ytkjpehpodlpdhaa", sum := "9ece5586034445fa8b557d904375420c4fcaa863bf8c87660ef228788515e1f0", func := "loop.example/g01035/laws.FnExactFreeDay", spec := "fnExactFreeDay", unfollowed := true, recurses := true, apart := false, narrowed := true }
def FnExactFreeDayUptoSaid : Prop := fnExactFreeDayUptoRow.holds Try.pinned (OpenSpec.upto fnExactFreeDaySpec)

/-- 'laws.FnExactReleaseHold', WHERE WHAT IT READS IS OF BULK AT MOST 1048576: true; the input reads as it did. -/
def fnExactReleaseHoldUptoRow : OpenClaim := { program := "ytkjpehpodlpdhaa", sum := "9ece5586034445fa8b557d904375420c4fcaa863bf8c87660ef228788515e1f0", func := "loop.example/g01035/laws.FnExactReleaseHold", spec := "fnExactReleaseHold", unfollowed := true, recurses := true, apart := false, narrowed := true }
def FnExactReleaseHoldUptoSaid : Prop := fnExactReleaseHoldUptoRow.holds Try.pinned (OpenSpec.upto fnExactReleaseHoldSpec)

/-- 'laws.FnExactHeldOn', WHERE WHAT IT READS IS OF BULK AT MOST 1048576: true; the input reads as it did. -/
def fnExactHeldOnUptoRow : OpenClaim := { program := "ytkjpehpodlpdhaa", sum := "9ece5586034445fa8b557d904375420c4fcaa863bf8c87660ef228788515e1f0", func := "loop.example/g01035/laws.FnExactHeldOn", spec := "fnExactHeldOn", unfollowed := true, recurses := true, apart := false, narrowed := true }
def FnExactHeldOnUptoSaid : Prop := fnExactHeldOnUptoRow.holds Try.pinned (OpenSpec.upto fnExactHeldOnSpec)

/-- 'laws.FnExactMayDestroy', WHERE WHAT IT READS IS OF BULK AT MOST 1048576: true; the input reads as it did. -/
def fnExactMayDestroyUptoRow : OpenClaim := { program := "ytkjpehpodlpdhaa", sum := "9ece5586034445fa8b557d904375420c4fcaa863bf8c87660ef228788515e1f0", func := "loop.example/g01035/laws.FnExactMayDestroy", spec := "fnExactMayDestroy", unfollowed := true, recurses := true, apart := false, narrowed := true }
def FnExactMayDestroyUptoSaid : Prop := fnExactMayDestroyUptoRow.holds Try.pinned (OpenSpec.upto fnExactMayDestroySpec)

/-- 'laws.FnExactFirstDestruction', WHERE WHAT IT READS IS OF BULK AT MOST 1048576: true; the input reads as it did. -/
def fnExactFirstDestructionUptoRow : OpenClaim := { program := "ytkjpehpodlpdhaa", sum := "9ece5586034445fa8b557d904375420c4fcaa863bf8c87660ef228788515e1f0", func := "loop.example/g01035/laws.FnExactFirstDestruction", spec := "fnExactFirstDestruction", unfollowed := true, recurses := true, apart := false, narrowed := true }
def FnExactFirstDestructionUptoSaid : Prop := fnExactFirstDestructionUptoRow.holds Try.pinned (OpenSpec.upto fnExactFirstDestructionSpec)

/-- 'laws.FnExactMostHolds', WHERE WHAT IT READS IS OF BULK AT MOST 1048576: true; the input reads as it did. -/
def fnExactMostHoldsUptoRow : OpenClaim := { program := "ytkjpehpodlpdhaa", sum := "9ece5586034445fa8b557d904375420c4fcaa863bf8c87660ef228788515e1f0", func := "loop.example/g01035/laws.FnExactMostHolds", spec := "fnExactMostHolds", unfollowed := true, recurses := true, apart := false, narrowed := true }
def FnExactMostHoldsUptoSaid : Prop := fnExactMostHoldsUptoRow.holds Try.pinned (OpenSpec.upto fnExactMostHoldsSpec)

/-- 'laws.FnExactNeededHolds', WHERE WHAT IT READS IS OF BULK AT MOST 1048576: true; the input reads as it did. -/
def fnExactNeededHoldsUptoRow : OpenClaim := { program := "ytkjpehpodlpdhaa", sum := "9ece5586034445fa8b557d904375420c4fcaa863bf8c87660ef228788515e1f0", func := "loop.example/g01035/laws.FnExactNeededHolds", spec := "fnExactNeededHolds", unfollowed := true, recurses := true, apart := false, narrowed := true }
def FnExactNeededHoldsUptoSaid : Prop := fnExactNeededHoldsUptoRow.holds Try.pinned (OpenSpec.upto fnExactNeededHoldsSpec)

/-- 'laws.FnExactHeldDays', WHERE WHAT IT READS IS OF BULK AT MOST 1048576: true; the input reads as it did. -/
def fnExactHeldDaysUptoRow : OpenClaim := { program := "ytkjpehpodlpdhaa", sum := "9ece5586034445fa8b557d904375420c4fcaa863bf8c87660ef228788515e1f0", func := "loop.example/g01035/laws.FnExactHeldDays", spec := "fnExactHeldDays", unfollowed := true, recurses := true, apart := false, narrowed := true }
def FnExactHeldDaysUptoSaid : Prop := fnExactHeldDaysUptoRow.holds Try.pinned (OpenSpec.upto fnExactHeldDaysSpec)

/-- 'laws.FnVersionLists', WHERE WHAT IT READS IS OF BULK AT MOST 1048576: true; the input reads as it did. -/
def fnVersionListsUptoRow : OpenClaim := { program := "ytkjpehpodlpdhaa", sum := "9ece5586034445fa8b557d904375420c4fcaa863bf8c87660ef228788515e1f0", func := "loop.example/g01035/laws.FnVersionLists", spec := "fnVersionLists", inPlace := ["slices.overlaps[loop.example/g01035/impl.Version]"], unfollowed := true, recurses := true, apart := false, narrowed := true }
def FnVersionListsUptoSaid : Prop := fnVersionListsUptoRow.holds Try.pinned (OpenSpec.upto fnVersionListsSpec)

/-- 'laws.FnHolds', WHERE WHAT IT READS IS OF BULK AT MOST 1048576: true; the input reads as it did. -/
def fnHoldsUptoRow : OpenClaim := { program := "ytkjpehpodlpdhaa", sum := "9ece5586034445fa8b557d904375420c4fcaa863bf8c87660ef228788515e1f0", func := "loop.example/g01035/laws.FnHolds", spec := "fnHolds", unfollowed := true, recurses := true, apart := false, narrowed := true }
def FnHoldsUptoSaid : Prop := fnHoldsUptoRow.holds Try.pinned (OpenSpec.upto fnHoldsSpec)

end Rows
end Go.Proofs.Ytkjpehpodlpdhaa
