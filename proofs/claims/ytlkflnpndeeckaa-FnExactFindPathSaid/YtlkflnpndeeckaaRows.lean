/-
  No cell of these rows narrows 'for every input' (looked for: loops, veiled, ifaces, maps, wideKeys, modest, calm, conditions, laid).
  DERIVED. THE GIVEN ROWS OF THIS SEAT. 14 by the template 'for every input the law returns true; each argument reads behind the call as it read before'; 0 by the template 'total and deterministic' (their statements: YtlkflnpndeeckaaTotals.lean).
  GIVEN WITH THE SEED: the statements are not yours to turn. If you find one false, say at which input.
  Laid BY PROGRAM, IN A SANDBOX (cutbox-rows.mjs): the forced cells as the released guide's own fill.sh prints them over the translation b0c9cbca4b431ad8… (all of the seat's roots in one cut). By AI agents, Wed Nov 11 2026. No macro, syntax, notation, axiom, sorry.
-/
import Derived.Test.YtlkflnpndeeckaaChecked
import GoSem.Claim
import GoSem.ClaimJoined
import GoSem.ClaimMapViews
import Derived.JoinedTies
import Derived.KernelRfl
namespace Go.Proofs.Ytlkflnpndeeckaa
/- THE CELL 'sum', in the pinned program and in every row, IS THE sha256 OF THE DUMP (.gsa) THAT YtlkflnpndeeckaaProg.lean LOADS. Nothing in Lean hashes anything: it is a label: what it is worth is what the hold of that sum in a sandbox is worth. -/
noncomputable def Try.pinned : Pinned := { name := "ytlkflnpndeeckaa", sum := "b0c9cbca4b431ad897a34bc6669e14594f8361c2e672e1ca69279b40fb3777df", checked := Try.checked }
namespace Rows
def none {H : Type} : Left H := { results := [], args := [] }

/-- 'laws.FnExactAddEvent': WHATEVER THE INPUT: true; the input reads as it did. -/
def fnExactAddEventSpec : ChangeSpec := { name := "fnExactAddEvent", fn := fun _ => fun
  | [d1, d2] => { results := [.lit (.bool true)], args := [d1, d2] }
  | _ => none }
def fnExactAddEventRow : OpenClaim := { program := "ytlkflnpndeeckaa", sum := "b0c9cbca4b431ad897a34bc6669e14594f8361c2e672e1ca69279b40fb3777df", func := "loop.example/g01035/laws.FnExactAddEvent", spec := "fnExactAddEvent", unfollowed := true, recurses := true, apart := false }
def FnExactAddEventSaid : Prop := fnExactAddEventRow.holds Try.pinned (OpenSpec.ofChange fnExactAddEventSpec)

/-- ITS FALSE NEIGHBOUR: 'it returns false'. Refute it at one input. -/
def fnExactAddEventWrong : ChangeSpec := { name := "fnExactAddEvent", fn := fun _ => fun
  | [d1, d2] => { results := [.lit (.bool false)], args := [d1, d2] }
  | _ => none }
def FnExactAddEventWrongFalsely : Prop := fnExactAddEventRow.holds Try.pinned (OpenSpec.ofChange fnExactAddEventWrong)

/-- 'laws.FnTrees': WHATEVER THE INPUT: true; the input reads as it did. -/
def fnTreesSpec : ChangeSpec := { name := "fnTrees", fn := fun _ => fun
  | [d] => { results := [.lit (.bool true)], args := [d] }
  | _ => none }
def fnTreesRow : OpenClaim := { program := "ytlkflnpndeeckaa", sum := "b0c9cbca4b431ad897a34bc6669e14594f8361c2e672e1ca69279b40fb3777df", func := "loop.example/g01035/laws.FnTrees", spec := "fnTrees", inPlace := ["internal/bytealg.IndexByteString", "internal/bytealg.IndexString", "internal/abi.NoEscape", "internal/bytealg.MakeNoZero"], unfollowed := true, recurses := true, named := ["internal/bytealg.MaxLen"], apart := false }
def FnTreesSaid : Prop := fnTreesRow.holds Try.pinned (OpenSpec.ofChange fnTreesSpec)

/-- ITS FALSE NEIGHBOUR: 'it returns false'. Refute it at one input. -/
def fnTreesWrong : ChangeSpec := { name := "fnTrees", fn := fun _ => fun
  | [d] => { results := [.lit (.bool false)], args := [d] }
  | _ => none }
def FnTreesWrongFalsely : Prop := fnTreesRow.holds Try.pinned (OpenSpec.ofChange fnTreesWrong)

/-- 'laws.FnGrowth': WHATEVER THE INPUT: true; the input reads as it did. -/
def fnGrowthSpec : ChangeSpec := { name := "fnGrowth", fn := fun _ => fun
  | [d] => { results := [.lit (.bool true)], args := [d] }
  | _ => none }
def fnGrowthRow : OpenClaim := { program := "ytlkflnpndeeckaa", sum := "b0c9cbca4b431ad897a34bc6669e14594f8361c2e672e1ca69279b40fb3777df", func := "loop.example/g01035/laws.FnGrowth", spec := "fnGrowth", unfollowed := true, recurses := true, apart := false }
def FnGrowthSaid : Prop := fnGrowthRow.holds Try.pinned (OpenSpec.ofChange fnGrowthSpec)

/-- ITS FALSE NEIGHBOUR: 'it returns false'. Refute it at one input. -/
def fnGrowthWrong : ChangeSpec := { name := "fnGrowth", fn := fun _ => fun
  | [d] => { results := [.lit (.bool false)], args := [d] }
  | _ => none }
def FnGrowthWrongFalsely : Prop := fnGrowthRow.holds Try.pinned (OpenSpec.ofChange fnGrowthWrong)

/-- 'laws.FnExactIsFunction': WHATEVER THE INPUT: true; the input reads as it did. -/
def fnExactIsFunctionSpec : ChangeSpec := { name := "fnExactIsFunction", fn := fun _ => fun
  | [d] => { results := [.lit (.bool true)], args := [d] }
  | _ => none }
def fnExactIsFunctionRow : OpenClaim := { program := "ytlkflnpndeeckaa", sum := "b0c9cbca4b431ad897a34bc6669e14594f8361c2e672e1ca69279b40fb3777df", func := "loop.example/g01035/laws.FnExactIsFunction", spec := "fnExactIsFunction", apart := false }
def FnExactIsFunctionSaid : Prop := fnExactIsFunctionRow.holds Try.pinned (OpenSpec.ofChange fnExactIsFunctionSpec)

/-- ITS FALSE NEIGHBOUR: 'it returns false'. Refute it at one input. -/
def fnExactIsFunctionWrong : ChangeSpec := { name := "fnExactIsFunction", fn := fun _ => fun
  | [d] => { results := [.lit (.bool false)], args := [d] }
  | _ => none }
def FnExactIsFunctionWrongFalsely : Prop := fnExactIsFunctionRow.holds Try.pinned (OpenSpec.ofChange fnExactIsFunctionWrong)

/-- 'laws.FnExactIsTree': WHATEVER THE INPUT: true; the input reads as it did. -/
def fnExactIsTreeSpec : ChangeSpec := { name := "fnExactIsTree", fn := fun _ => fun
  | [d] => { results := [.lit (.bool true)], args := [d] }
  | _ => none }
def fnExactIsTreeRow : OpenClaim := { program := "ytlkflnpndeeckaa", sum := "b0c9cbca4b431ad897a34bc6669e14594f8361c2e672e1ca69279b40fb3777df", func := "loop.example/g01035/laws.FnExactIsTree", spec := "fnExactIsTree", apart := false }
def FnExactIsTreeSaid : Prop := fnExactIsTreeRow.holds Try.pinned (OpenSpec.ofChange fnExactIsTreeSpec)

/-- ITS FALSE NEIGHBOUR: 'it returns false'. Refute it at one input. -/
def fnExactIsTreeWrong : ChangeSpec := { name := "fnExactIsTree", fn := fun _ => fun
  | [d] => { results := [.lit (.bool false)], args := [d] }
  | _ => none }
def FnExactIsTreeWrongFalsely : Prop := fnExactIsTreeRow.holds Try.pinned (OpenSpec.ofChange fnExactIsTreeWrong)

/-- 'laws.FnExactPathTo': WHATEVER THE INPUT: true; the input reads as it did. -/
def fnExactPathToSpec : ChangeSpec := { name := "fnExactPathTo", fn := fun _ => fun
  | [d1, d2] => { results := [.lit (.bool true)], args := [d1, d2] }
  | _ => none }
def fnExactPathToRow : OpenClaim := { program := "ytlkflnpndeeckaa", sum := "b0c9cbca4b431ad897a34bc6669e14594f8361c2e672e1ca69279b40fb3777df", func := "loop.example/g01035/laws.FnExactPathTo", spec := "fnExactPathTo", unfollowed := true, recurses := true, apart := false }
def FnExactPathToSaid : Prop := fnExactPathToRow.holds Try.pinned (OpenSpec.ofChange fnExactPathToSpec)

/-- ITS FALSE NEIGHBOUR: 'it returns false'. Refute it at one input. -/
def fnExactPathToWrong : ChangeSpec := { name := "fnExactPathTo", fn := fun _ => fun
  | [d1, d2] => { results := [.lit (.bool false)], args := [d1, d2] }
  | _ => none }
def FnExactPathToWrongFalsely : Prop := fnExactPathToRow.holds Try.pinned (OpenSpec.ofChange fnExactPathToWrong)

/-- 'laws.FnExactUnderOf': WHATEVER THE INPUT: true; the input reads as it did. -/
def fnExactUnderOfSpec : ChangeSpec := { name := "fnExactUnderOf", fn := fun _ => fun
  | [d1, d2] => { results := [.lit (.bool true)], args := [d1, d2] }
  | _ => none }
def fnExactUnderOfRow : OpenClaim := { program := "ytlkflnpndeeckaa", sum := "b0c9cbca4b431ad897a34bc6669e14594f8361c2e672e1ca69279b40fb3777df", func := "loop.example/g01035/laws.FnExactUnderOf", spec := "fnExactUnderOf", apart := false }
def FnExactUnderOfSaid : Prop := fnExactUnderOfRow.holds Try.pinned (OpenSpec.ofChange fnExactUnderOfSpec)

/-- ITS FALSE NEIGHBOUR: 'it returns false'. Refute it at one input. -/
def fnExactUnderOfWrong : ChangeSpec := { name := "fnExactUnderOf", fn := fun _ => fun
  | [d1, d2] => { results := [.lit (.bool false)], args := [d1, d2] }
  | _ => none }
def FnExactUnderOfWrongFalsely : Prop := fnExactUnderOfRow.holds Try.pinned (OpenSpec.ofChange fnExactUnderOfWrong)

/-- 'laws.FnExactSharedPath': WHATEVER THE INPUT: true; the input reads as it did. -/
def fnExactSharedPathSpec : ChangeSpec := { name := "fnExactSharedPath", fn := fun _ => fun
  | [d1, d2, d3] => { results := [.lit (.bool true)], args := [d1, d2, d3] }
  | _ => none }
def fnExactSharedPathRow : OpenClaim := { program := "ytlkflnpndeeckaa", sum := "b0c9cbca4b431ad897a34bc6669e14594f8361c2e672e1ca69279b40fb3777df", func := "loop.example/g01035/laws.FnExactSharedPath", spec := "fnExactSharedPath", unfollowed := true, recurses := true, apart := false }
def FnExactSharedPathSaid : Prop := fnExactSharedPathRow.holds Try.pinned (OpenSpec.ofChange fnExactSharedPathSpec)

/-- ITS FALSE NEIGHBOUR: 'it returns false'. Refute it at one input. -/
def fnExactSharedPathWrong : ChangeSpec := { name := "fnExactSharedPath", fn := fun _ => fun
  | [d1, d2, d3] => { results := [.lit (.bool false)], args := [d1, d2, d3] }
  | _ => none }
def FnExactSharedPathWrongFalsely : Prop := fnExactSharedPathRow.holds Try.pinned (OpenSpec.ofChange fnExactSharedPathWrong)

/-- 'laws.FnExactNamedPath': WHATEVER THE INPUT: true; the input reads as it did. -/
def fnExactNamedPathSpec : ChangeSpec := { name := "fnExactNamedPath", fn := fun _ => fun
  | [d1, d2] => { results := [.lit (.bool true)], args := [d1, d2] }
  | _ => none }
def fnExactNamedPathRow : OpenClaim := { program := "ytlkflnpndeeckaa", sum := "b0c9cbca4b431ad897a34bc6669e14594f8361c2e672e1ca69279b40fb3777df", func := "loop.example/g01035/laws.FnExactNamedPath", spec := "fnExactNamedPath", inPlace := ["internal/bytealg.IndexByteString", "internal/bytealg.IndexString", "internal/abi.NoEscape", "internal/bytealg.MakeNoZero"], unfollowed := true, recurses := true, named := ["internal/bytealg.MaxLen"], apart := false }
def FnExactNamedPathSaid : Prop := fnExactNamedPathRow.holds Try.pinned (OpenSpec.ofChange fnExactNamedPathSpec)

/-- ITS FALSE NEIGHBOUR: 'it returns false'. Refute it at one input. -/
def fnExactNamedPathWrong : ChangeSpec := { name := "fnExactNamedPath", fn := fun _ => fun
  | [d1, d2] => { results := [.lit (.bool false)], args := [d1, d2] }
  | _ => none }
def FnExactNamedPathWrongFalsely : Prop := fnExactNamedPathRow.holds Try.pinned (OpenSpec.ofChange fnExactNamedPathWrong)

/-- 'laws.FnExactFindPath': WHATEVER THE INPUT: true; the input reads as it did. -/
def fnExactFindPathSpec : ChangeSpec := { name := "fnExactFindPath", fn := fun _ => fun
  | [d1, d2] => { results := [.lit (.bool true)], args := [d1, d2] }
  | _ => none }
def fnExactFindPathRow : OpenClaim := { program := "ytlkflnpndeeckaa", sum := "b0c9cbca4b431ad897a34bc6669e14594f8361c2e672e1ca69279b40fb3777df", func := "loop.example/g01035/laws.FnExactFindPath", spec := "fnExactFindPath", unfollowed := true, recurses := true, apart := false }
def FnExactFindPathSaid : Prop := fnExactFindPathRow.holds Try.pinned (OpenSpec.ofChange fnExactFindPathSpec)

/-- ITS FALSE NEIGHBOUR: 'it returns false'. Refute it at one input. -/
def fnExactFindPathWrong : ChangeSpec := { name := "fnExactFindPath", fn := fun _ => fun
  | [d1, d2] => { results := [.lit (.bool false)], args := [d1, d2] }
  | _ => none }
def FnExactFindPathWrongFalsely : Prop := fnExactFindPathRow.holds Try.pinned (OpenSpec.ofChange fnExactFindPathWrong)

/-- 'laws.FnExactAddFunction': WHATEVER THE INPUT: true; the input reads as it did. -/
def fnExactAddFunctionSpec : ChangeSpec := { name := "fnExactAddFunction", fn := fun _ => fun
  | [d1, d2, d3] => { results := [.lit (.bool true)], args := [d1, d2, d3] }
  | _ => none }
def fnExactAddFunctionRow : OpenClaim := { program := "ytlkflnpndeeckaa", sum := "b0c9cbca4b431ad897a34bc6669e14594f8361c2e672e1ca69279b40fb3777df", func := "loop.example/g01035/laws.FnExactAddFunction", spec := "fnExactAddFunction", apart := false }
def FnExactAddFunctionSaid : Prop := fnExactAddFunctionRow.holds Try.pinned (OpenSpec.ofChange fnExactAddFunctionSpec)

/-- ITS FALSE NEIGHBOUR: 'it returns false'. Refute it at one input. -/
def fnExactAddFunctionWrong : ChangeSpec := { name := "fnExactAddFunction", fn := fun _ => fun
  | [d1, d2, d3] => { results := [.lit (.bool false)], args := [d1, d2, d3] }
  | _ => none }
def FnExactAddFunctionWrongFalsely : Prop := fnExactAddFunctionRow.holds Try.pinned (OpenSpec.ofChange fnExactAddFunctionWrong)

/-- 'laws.FnExactMoveUnder': WHATEVER THE INPUT: true; the input reads as it did. -/
def fnExactMoveUnderSpec : ChangeSpec := { name := "fnExactMoveUnder", fn := fun _ => fun
  | [d1, d2, d3] => { results := [.lit (.bool true)], args := [d1, d2, d3] }
  | _ => none }
def fnExactMoveUnderRow : OpenClaim := { program := "ytlkflnpndeeckaa", sum := "b0c9cbca4b431ad897a34bc6669e14594f8361c2e672e1ca69279b40fb3777df", func := "loop.example/g01035/laws.FnExactMoveUnder", spec := "fnExactMoveUnder", unfollowed := true, recurses := true, apart := false }
def FnExactMoveUnderSaid : Prop := fnExactMoveUnderRow.holds Try.pinned (OpenSpec.ofChange fnExactMoveUnderSpec)

/-- ITS FALSE NEIGHBOUR: 'it returns false'. Refute it at one input. -/
def fnExactMoveUnderWrong : ChangeSpec := { name := "fnExactMoveUnder", fn := fun _ => fun
  | [d1, d2, d3] => { results := [.lit (.bool false)], args := [d1, d2, d3] }
  | _ => none }
def FnExactMoveUnderWrongFalsely : Prop := fnExactMoveUnderRow.holds Try.pinned (OpenSpec.ofChange fnExactMoveUnderWrong)

/-- 'laws.FnExactWithoutLeaf': WHATEVER THE INPUT: true; the input reads as it did. -/
def fnExactWithoutLeafSpec : ChangeSpec := { name := "fnExactWithoutLeaf", fn := fun _ => fun
  | [d1, d2] => { results := [.lit (.bool true)], args := [d1, d2] }
  | _ => none }
def fnExactWithoutLeafRow : OpenClaim := { program := "ytlkflnpndeeckaa", sum := "b0c9cbca4b431ad897a34bc6669e14594f8361c2e672e1ca69279b40fb3777df", func := "loop.example/g01035/laws.FnExactWithoutLeaf", spec := "fnExactWithoutLeaf", unfollowed := true, recurses := true, apart := false }
def FnExactWithoutLeafSaid : Prop := fnExactWithoutLeafRow.holds Try.pinned (OpenSpec.ofChange fnExactWithoutLeafSpec)

/-- ITS FALSE NEIGHBOUR: 'it returns false'. Refute it at one input. -/
def fnExactWithoutLeafWrong : ChangeSpec := { name := "fnExactWithoutLeaf", fn := fun _ => fun
  | [d1, d2] => { results := [.lit (.bool false)], args := [d1, d2] }
  | _ => none }
def FnExactWithoutLeafWrongFalsely : Prop := fnExactWithoutLeafRow.holds Try.pinned (OpenSpec.ofChange fnExactWithoutLeafWrong)

/-- 'laws.FnExactDeepestFunctions': WHATEVER THE INPUT: true; the input reads as it did. -/
def fnExactDeepestFunctionsSpec : ChangeSpec := { name := "fnExactDeepestFunctions", fn := fun _ => fun
  | [d] => { results := [.lit (.bool true)], args := [d] }
  | _ => none }
def fnExactDeepestFunctionsRow : OpenClaim := { program := "ytlkflnpndeeckaa", sum := "b0c9cbca4b431ad897a34bc6669e14594f8361c2e672e1ca69279b40fb3777df", func := "loop.example/g01035/laws.FnExactDeepestFunctions", spec := "fnExactDeepestFunctions", apart := false }
def FnExactDeepestFunctionsSaid : Prop := fnExactDeepestFunctionsRow.holds Try.pinned (OpenSpec.ofChange fnExactDeepestFunctionsSpec)

/-- ITS FALSE NEIGHBOUR: 'it returns false'. Refute it at one input. -/
def fnExactDeepestFunctionsWrong : ChangeSpec := { name := "fnExactDeepestFunctions", fn := fun _ => fun
  | [d] => { results := [.lit (.bool false)], args := [d] }
  | _ => none }
def FnExactDeepestFunctionsWrongFalsely : Prop := fnExactDeepestFunctionsRow.holds Try.pinned (OpenSpec.ofChange fnExactDeepestFunctionsWrong)

/- THE SECOND FORM. 'bulk': how many values and letters a reading holds, each counted each time it is reached (what is shared counts as often as it is met; a slice's spare places count too). A statement '..UptoSaid' is the law's where the arguments, and the package variables that the reading takes, are together of bulk at most 1048576: NARROWER than '..Said'. Prove '..Said' where nothing that the law and all that it calls make is longer than what came in: it says more and counts as full. Else prove '..UptoSaid'. A law counts once. -/
mutual
def uptoBulk {H : Type} : DataW H → Nat
  | .lit (.string bytes) => bytes.length + 1
  | .lit _ => 1
  | .nil => 1
  | .ptr d => uptoBulk d + 1
  | .slice elems spare => uptoBulkAll elems + uptoBulkAll spare + 1
  | .agg parts => uptoBulkAll parts + 1
  | .iface _ d => uptoBulk d + 1
  | .map entries => uptoBulkEntries entries + 1
  | .held _ => 1
def uptoBulkAll {H : Type} : List (DataW H) → Nat
  | [] => 0
  | d :: r => uptoBulk d + uptoBulkAll r
def uptoBulkEntries {H : Type} : List (Lit × DataW H) → Nat
  | [] => 0
  | x :: r => uptoBulkEntry x + uptoBulkEntries r
def uptoBulkEntry {H : Type} : Lit × DataW H → Nat
  | (.string bytes, d) => bytes.length + uptoBulk d + 1
  | (_, d) => uptoBulk d + 1
 end
def uptoSmall : (H : Type) → List (DataW H) → Bool := fun _ ds => decide (uptoBulkAll ds ≤ 1048576)
def OpenSpec.upto (s : _root_.Go.ChangeSpec) : _root_.Go.OpenSpec := { _root_.Go.OpenSpec.ofChange s with cond := some uptoSmall }

/-- 'laws.FnExactAddEvent', WHERE WHAT IT READS IS OF BULK AT MOST 1048576: true; the input reads as it did. -/
def fnExactAddEventUptoRow : OpenClaim := { program := "ytlkflnpndeeckaa", sum := "b0c9cbca4b431ad897a34bc6669e14594f8361c2e672e1ca69279b40fb3777df", func := "loop.example/g01035/laws.FnExactAddEvent", spec := "fnExactAddEvent", unfollowed := true, recurses := true, apart := false, narrowed := true }
def FnExactAddEventUptoSaid : Prop := fnExactAddEventUptoRow.holds Try.pinned (OpenSpec.upto fnExactAddEventSpec)

/-- 'laws.FnTrees', WHERE WHAT IT READS IS OF BULK AT MOST 1048576: true; the input reads as it did. -/
def fnTreesUptoRow : OpenClaim := { program := "ytlkflnpndeeckaa", sum := "b0c9cbca4b431ad897a34bc6669e14594f8361c2e672e1ca69279b40fb3777df", func := "loop.example/g01035/laws.FnTrees", spec := "fnTrees", inPlace := ["internal/bytealg.IndexByteString", "internal/bytealg.IndexString", "internal/abi.NoEscape", "internal/bytealg.MakeNoZero"], unfollowed := true, recurses := true, named := ["internal/bytealg.MaxLen"], apart := false, narrowed := true }
def FnTreesUptoSaid : Prop := fnTreesUptoRow.holds Try.pinned (OpenSpec.upto fnTreesSpec)

/-- 'laws.FnGrowth', WHERE WHAT IT READS IS OF BULK AT MOST 1048576: true; the input reads as it did. -/
def fnGrowthUptoRow : OpenClaim := { program := "ytlkflnpndeeckaa", sum := "b0c9cbca4b431ad897a34bc6669e14594f8361c2e672e1ca69279b40fb3777df", func := "loop.example/g01035/laws.FnGrowth", spec := "fnGrowth", unfollowed := true, recurses := true, apart := false, narrowed := true }
def FnGrowthUptoSaid : Prop := fnGrowthUptoRow.holds Try.pinned (OpenSpec.upto fnGrowthSpec)

/-- 'laws.FnExactIsFunction', WHERE WHAT IT READS IS OF BULK AT MOST 1048576: true; the input reads as it did. -/
def fnExactIsFunctionUptoRow : OpenClaim := { program := "ytlkflnpndeeckaa", sum := "b0c9cbca4b431ad897a34bc6669e14594f8361c2e672e1ca69279b40fb3777df", func := "loop.example/g01035/laws.FnExactIsFunction", spec := "fnExactIsFunction", apart := false, narrowed := true }
def FnExactIsFunctionUptoSaid : Prop := fnExactIsFunctionUptoRow.holds Try.pinned (OpenSpec.upto fnExactIsFunctionSpec)

/-- 'laws.FnExactIsTree', WHERE WHAT IT READS IS OF BULK AT MOST 1048576: true; the input reads as it did. -/
def fnExactIsTreeUptoRow : OpenClaim := { program := "ytlkflnpndeeckaa", sum := "b0c9cbca4b431ad897a34bc6669e14594f8361c2e672e1ca69279b40fb3777df", func := "loop.example/g01035/laws.FnExactIsTree", spec := "fnExactIsTree", apart := false, narrowed := true }
def FnExactIsTreeUptoSaid : Prop := fnExactIsTreeUptoRow.holds Try.pinned (OpenSpec.upto fnExactIsTreeSpec)

/-- 'laws.FnExactPathTo', WHERE WHAT IT READS IS OF BULK AT MOST 1048576: true; the input reads as it did. -/
def fnExactPathToUptoRow : OpenClaim := { program := "ytlkflnpndeeckaa", sum := "b0c9cbca4b431ad897a34bc6669e14594f8361c2e672e1ca69279b40fb3777df", func := "loop.example/g01035/laws.FnExactPathTo", spec := "fnExactPathTo", unfollowed := true, recurses := true, apart := false, narrowed := true }
def FnExactPathToUptoSaid : Prop := fnExactPathToUptoRow.holds Try.pinned (OpenSpec.upto fnExactPathToSpec)

/-- 'laws.FnExactUnderOf', WHERE WHAT IT READS IS OF BULK AT MOST 1048576: true; the input reads as it did. -/
def fnExactUnderOfUptoRow : OpenClaim := { program := "ytlkflnpndeeckaa", sum := "b0c9cbca4b431ad897a34bc6669e14594f8361c2e672e1ca69279b40fb3777df", func := "loop.example/g01035/laws.FnExactUnderOf", spec := "fnExactUnderOf", apart := false, narrowed := true }
def FnExactUnderOfUptoSaid : Prop := fnExactUnderOfUptoRow.holds Try.pinned (OpenSpec.upto fnExactUnderOfSpec)

/-- 'laws.FnExactSharedPath', WHERE WHAT IT READS IS OF BULK AT MOST 1048576: true; the input reads as it did. -/
def fnExactSharedPathUptoRow : OpenClaim := { program := "ytlkflnpndeeckaa", sum := "b0c9cbca4b431ad897a34bc6669e14594f8361c2e672e1ca69279b40fb3777df", func := "loop.example/g01035/laws.FnExactSharedPath", spec := "fnExactSharedPath", unfollowed := true, recurses := true, apart := false, narrowed := true }
def FnExactSharedPathUptoSaid : Prop := fnExactSharedPathUptoRow.holds Try.pinned (OpenSpec.upto fnExactSharedPathSpec)

/-- 'laws.FnExactNamedPath', WHERE WHAT IT READS IS OF BULK AT MOST 1048576: true; the input reads as it did. -/
def fnExactNamedPathUptoRow : OpenClaim := { program := "ytlkflnpndeeckaa", sum := "b0c9cbca4b431ad897a34bc6669e14594f8361c2e672e1ca69279b40fb3777df", func := "loop.example/g01035/laws.FnExactNamedPath", spec := "fnExactNamedPath", inPlace := ["internal/bytealg.IndexByteString", "internal/bytealg.IndexString", "internal/abi.NoEscape", "internal/bytealg.MakeNoZero"], unfollowed := true, recurses := true, named := ["internal/bytealg.MaxLen"], apart := false, narrowed := true }
def FnExactNamedPathUptoSaid : Prop := fnExactNamedPathUptoRow.holds Try.pinned (OpenSpec.upto fnExactNamedPathSpec)

/-- 'laws.FnExactFindPath', WHERE WHAT IT READS IS OF BULK AT MOST 1048576: true; the input reads as it did. -/
def fnExactFindPathUptoRow : OpenClaim := { program := "ytlkflnpndeeckaa", sum := "b0c9cbca4b431ad897a34bc6669e14594f8361c2e672e1ca69279b40fb3777df", func := "loop.example/g01035/laws.FnExactFindPath", spec := "fnExactFindPath", unfollowed := true, recurses := true, apart := false, narrowed := true }
def FnExactFindPathUptoSaid : Prop := fnExactFindPathUptoRow.holds Try.pinned (OpenSpec.upto fnExactFindPathSpec)

/-- 'laws.FnExactAddFunction', WHERE WHAT IT READS IS OF BULK AT MOST 1048576: true; the input reads as it did. -/
def fnExactAddFunctionUptoRow : OpenClaim := { program := "ytlkflnpndeeckaa", sum := "b0c9cbca4b431ad897a34bc6669e14594f8361c2e672e1ca69279b40fb3777df", func := "loop.example/g01035/laws.FnExactAddFunction", spec := "fnExactAddFunction", apart := false, narrowed := true }
def FnExactAddFunctionUptoSaid : Prop := fnExactAddFunctionUptoRow.holds Try.pinned (OpenSpec.upto fnExactAddFunctionSpec)

/-- 'laws.FnExactMoveUnder', WHERE WHAT IT READS IS OF BULK AT MOST 1048576: true; the input reads as it did. -/
def fnExactMoveUnderUptoRow : OpenClaim := { program := "ytlkflnpndeeckaa", sum := "b0c9cbca4b431ad897a34bc6669e14594f8361c2e672e1ca69279b40fb3777df", func := "loop.example/g01035/laws.FnExactMoveUnder", spec := "fnExactMoveUnder", unfollowed := true, recurses := true, apart := false, narrowed := true }
def FnExactMoveUnderUptoSaid : Prop := fnExactMoveUnderUptoRow.holds Try.pinned (OpenSpec.upto fnExactMoveUnderSpec)

/-- 'laws.FnExactWithoutLeaf', WHERE WHAT IT READS IS OF BULK AT MOST 1048576: true; the input reads as it did. -/
def fnExactWithoutLeafUptoRow : OpenClaim := { program := "ytlkflnpndeeckaa", sum := "b0c9cbca4b431ad897a34bc6669e14594f8361c2e672e1ca69279b40fb3777df", func := "loop.example/g01035/laws.FnExactWithoutLeaf", spec := "fnExactWithoutLeaf", unfollowed := true, recurses := true, apart := false, narrowed := true }
def FnExactWithoutLeafUptoSaid : Prop := fnExactWithoutLeafUptoRow.holds Try.pinned (OpenSpec.upto fnExactWithoutLeafSpec)

/-- 'laws.FnExactDeepestFunctions', WHERE WHAT IT READS IS OF BULK AT MOST 1048576: true; the input reads as it did. -/
def fnExactDeepestFunctionsUptoRow : OpenClaim := { program := "ytlkflnpndeeckaa", sum := "b0c9cbca4b431ad897a34bc6669e14594f8361c2e672e1ca69279b40fb3777df", func := "loop.example/g01035/laws.FnExactDeepestFunctions", spec := "fnExactDeepestFunctions", apart := false, narrowed := true }
def FnExactDeepestFunctionsUptoSaid : Prop := fnExactDeepestFunctionsUptoRow.holds Try.pinned (OpenSpec.upto fnExactDeepestFunctionsSpec)

end Rows
end Go.Proofs.Ytlkflnpndeeckaa
