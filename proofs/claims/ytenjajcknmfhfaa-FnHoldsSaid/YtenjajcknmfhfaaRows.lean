/-
  No cell of these rows narrows 'for every input' (looked for: loops, veiled, ifaces, maps, wideKeys, modest, calm, conditions, laid).
  DERIVED. THE GIVEN ROWS OF THIS SEAT. 4 by the template 'for every input the law returns true; each argument reads behind the call as it read before'; 0 by the template 'total and deterministic' (their statements: YtenjajcknmfhfaaTotals.lean).
  GIVEN WITH THE SEED: the statements are not yours to turn. If you find one false, say at which input.
  Laid BY PROGRAM, IN A SANDBOX (cutbox-rows.mjs): the forced cells as the released guide's own fill.sh prints them over the translation 447cd10c0dc3ff5d… (all of the seat's roots in one cut). By AI agents, Wed Nov 11 2026. No macro, syntax, notation, axiom, sorry.
-/
import Derived.Test.YtenjajcknmfhfaaChecked
import GoSem.Claim
import GoSem.ClaimJoined
import GoSem.ClaimMapViews
import Derived.JoinedTies
import Derived.KernelRfl
namespace Go.Proofs.Ytenjajcknmfhfaa
/- THE CELL 'sum', in the pinned program and in every row, IS THE sha256 OF THE DUMP (.gsa) THAT YtenjajcknmfhfaaProg.lean LOADS. Nothing in Lean hashes anything: it is a label: what it is worth is what the hold of that sum in a sandbox is worth. -/
noncomputable def Try.pinned : Pinned := { name := "ytenjajcknmfhfaa", sum := "447cd10c0dc3ff5d9824d5714242ab599d3008878e99cb29aa6614066b05d33b", checked := Try.checked }
namespace Rows
def none {H : Type} : Left H := { results := [], args := [] }

/-- 'laws.FnCycles': WHATEVER THE INPUT: true; the input reads as it did. -/
def fnCyclesSpec : ChangeSpec := { name := "fnCycles", fn := fun _ => fun
  | [d] => { results := [.lit (.bool true)], args := [d] }
  | _ => none }
def fnCyclesRow : OpenClaim := { program := "ytenjajcknmfhfaa", sum := "447cd10c0dc3ff5d9824d5714242ab599d3008878e99cb29aa6614066b05d33b", func := "loop.example/g01035/laws.FnCycles", spec := "fnCycles", recurses := true, apart := false }
def FnCyclesSaid : Prop := fnCyclesRow.holds Try.pinned (OpenSpec.ofChange fnCyclesSpec)

/-- ITS FALSE NEIGHBOUR: 'it returns false'. Refute it at one input. -/
def fnCyclesWrong : ChangeSpec := { name := "fnCycles", fn := fun _ => fun
  | [d] => { results := [.lit (.bool false)], args := [d] }
  | _ => none }
def FnCyclesWrongFalsely : Prop := fnCyclesRow.holds Try.pinned (OpenSpec.ofChange fnCyclesWrong)

/-- 'laws.FnExpected': WHATEVER THE INPUT: true; the input reads as it did. -/
def fnExpectedSpec : ChangeSpec := { name := "fnExpected", fn := fun _ => fun
  | [d] => { results := [.lit (.bool true)], args := [d] }
  | _ => none }
def fnExpectedRow : OpenClaim := { program := "ytenjajcknmfhfaa", sum := "447cd10c0dc3ff5d9824d5714242ab599d3008878e99cb29aa6614066b05d33b", func := "loop.example/g01035/laws.FnExpected", spec := "fnExpected", recurses := true, apart := false }
def FnExpectedSaid : Prop := fnExpectedRow.holds Try.pinned (OpenSpec.ofChange fnExpectedSpec)

/-- ITS FALSE NEIGHBOUR: 'it returns false'. Refute it at one input. -/
def fnExpectedWrong : ChangeSpec := { name := "fnExpected", fn := fun _ => fun
  | [d] => { results := [.lit (.bool false)], args := [d] }
  | _ => none }
def FnExpectedWrongFalsely : Prop := fnExpectedRow.holds Try.pinned (OpenSpec.ofChange fnExpectedWrong)

/-- 'laws.FnVersionLists': WHATEVER THE INPUT: true; the input reads as it did. -/
def fnVersionListsSpec : ChangeSpec := { name := "fnVersionLists", fn := fun _ => fun
  | [d] => { results := [.lit (.bool true)], args := [d] }
  | _ => none }
def fnVersionListsRow : OpenClaim := { program := "ytenjajcknmfhfaa", sum := "447cd10c0dc3ff5d9824d5714242ab599d3008878e99cb29aa6614066b05d33b", func := "loop.example/g01035/laws.FnVersionLists", spec := "fnVersionLists", inPlace := ["slices.overlaps[loop.example/g01035/impl.Version]"], unfollowed := true, recurses := true, apart := false }
def FnVersionListsSaid : Prop := fnVersionListsRow.holds Try.pinned (OpenSpec.ofChange fnVersionListsSpec)

/-- ITS FALSE NEIGHBOUR: 'it returns false'. Refute it at one input. -/
def fnVersionListsWrong : ChangeSpec := { name := "fnVersionLists", fn := fun _ => fun
  | [d] => { results := [.lit (.bool false)], args := [d] }
  | _ => none }
def FnVersionListsWrongFalsely : Prop := fnVersionListsRow.holds Try.pinned (OpenSpec.ofChange fnVersionListsWrong)

/-- 'laws.FnHolds': WHATEVER THE INPUT: true; the input reads as it did. -/
def fnHoldsSpec : ChangeSpec := { name := "fnHolds", fn := fun _ => fun
  | [d] => { results := [.lit (.bool true)], args := [d] }
  | _ => none }
def fnHoldsRow : OpenClaim := { program := "ytenjajcknmfhfaa", sum := "447cd10c0dc3ff5d9824d5714242ab599d3008878e99cb29aa6614066b05d33b", func := "loop.example/g01035/laws.FnHolds", spec := "fnHolds", unfollowed := true, recurses := true, apart := false }
def FnHoldsSaid : Prop := fnHoldsRow.holds Try.pinned (OpenSpec.ofChange fnHoldsSpec)

/-- ITS FALSE NEIGHBOUR: 'it returns false'. Refute it at one input. -/
def fnHoldsWrong : ChangeSpec := { name := "fnHolds", fn := fun _ => fun
  | [d] => { results := [.lit (.bool false)], args := [d] }
  | _ => none }
def FnHoldsWrongFalsely : Prop := fnHoldsRow.holds Try.pinned (OpenSpec.ofChange fnHoldsWrong)

/- THE SECOND FORM. 'bulk': how many values and letters a reading holds, each counted each time it is reached (what is shared counts as often as it is met; a slice's spare places count too). A statement '..UptoSaid' is the law's where the arguments, and the package variables that the reading takes, are together of bulk at most 1048576: NARROWER than '..Said'. Prove '..Said' where nothing that the law and all that it calls make is longer than what came in: it says more and counts as full. Else prove '..UptoSaid'. A law counts once. -/
mutual
def uptoBulk {H : Type} : DataW H → Nat
  | .lit (.string bytes) => bytes.length + 1
  | .lit _ => 1
  | .nil => 1
  | .ptr d => uptoBulk d + 1
  | .slice elems spare => uptoBulkAll elems + uptoBulkAll spare + 1
  | .agg parts => uptoBulkAll parts + 1
  | .iface _ d => uptoBulk d + 1
  | .map entries => uptoBulkEntries entries + 1
  | .held _ => 1
def uptoBulkAll {H : Type} : List (DataW H) → Nat
  | [] => 0
  | d :: r => uptoBulk d + uptoBulkAll r
def uptoBulkEntries {H : Type} : List (Lit × DataW H) → Nat
  | [] => 0
  | x :: r => uptoBulkEntry x + uptoBulkEntries r
def uptoBulkEntry {H : Type} : Lit × DataW H → Nat
  | (.string bytes, d) => bytes.length + uptoBulk d + 1
  | (_, d) => uptoBulk d + 1
 end
def uptoSmall : (H : Type) → List (DataW H) → Bool := fun _ ds => decide (uptoBulkAll ds ≤ 1048576)
def OpenSpec.upto (s : _root_.Go.ChangeSpec) : _root_.Go.OpenSpec := { _root_.Go.OpenSpec.ofChange s with cond := some uptoSmall }

/-- 'laws.FnCycles', WHERE WHAT IT READS IS OF BULK AT MOST 1048576: true; the input reads as it did. -/
def fnCyclesUptoRow : OpenClaim := { program := "ytenjajcknmfhfaa", sum := "447cd10c0dc3ff5d9824d5714242ab599d3008878e99cb29aa6614066b05d33b", func := "loop.example/g01035/laws.FnCycles", spec := "fnCycles", recurses := true, apart := false, narrowed := true }
def FnCyclesUptoSaid : Prop := fnCyclesUptoRow.holds Try.pinned (OpenSpec.upto fnCyclesSpec)

/-- 'laws.FnExpected', WHERE WHAT IT READS IS OF BULK AT MOST 1048576: true; the input reads as it did. -/
def fnExpectedUptoRow : OpenClaim := { program := "ytenjajcknmfhfaa", sum := "447cd10c0dc3ff5d9824d5714242ab599d3008878e99cb29aa6614066b05d33b", func := "loop.example/g01035/laws.FnExpected", spec := "fnExpected", recurses := true, apart := false, narrowed := true }
def FnExpectedUptoSaid : Prop := fnExpectedUptoRow.holds Try.pinned (OpenSpec.upto fnExpectedSpec)

/-- 'laws.FnVersionLists', WHERE WHAT IT READS IS OF BULK AT MOST 1048576: true; the input reads as it did. -/
def fnVersionListsUptoRow : OpenClaim := { program := "ytenjajcknmfhfaa", sum := "447cd10c0dc3ff5d9824d5714242ab599d3008878e99cb29aa6614066b05d33b", func := "loop.example/g01035/laws.FnVersionLists", spec := "fnVersionLists", inPlace := ["slices.overlaps[loop.example/g01035/impl.Version]"], unfollowed := true, recurses := true, apart := false, narrowed := true }
def FnVersionListsUptoSaid : Prop := fnVersionListsUptoRow.holds Try.pinned (OpenSpec.upto fnVersionListsSpec)

/-- 'laws.FnHolds', WHERE WHAT IT READS IS OF BULK AT MOST 1048576: true; the input reads as it did. -/
def fnHoldsUptoRow : OpenClaim := { program := "ytenjajcknmfhfaa", sum := "447cd10c0dc3ff5d9824d5714242ab599d3008878e99cb29aa6614066b05d33b", func := "loop.example/g01035/laws.FnHolds", spec := "fnHolds", unfollowed := true, recurses := true, apart := false, narrowed := true }
def FnHoldsUptoSaid : Prop := fnHoldsUptoRow.holds Try.pinned (OpenSpec.upto fnHoldsSpec)

end Rows
end Go.Proofs.Ytenjajcknmfhfaa
