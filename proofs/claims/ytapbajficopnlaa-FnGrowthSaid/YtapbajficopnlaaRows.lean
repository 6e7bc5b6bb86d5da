/-
  No cell of these rows narrows 'for every input' (looked for: loops, veiled, ifaces, maps, wideKeys, modest, calm, conditions, laid).
  DERIVED. THE GIVEN ROWS OF THIS SEAT. 5 by the template 'for every input the law returns true; each argument reads behind the call as it read before'; 0 by the template 'total and deterministic' (their statements: YtapbajficopnlaaTotals.lean).
  GIVEN WITH THE SEED: the statements are not yours to turn. If you find one false, say at which input.
  Laid BY PROGRAM, IN A SANDBOX (cutbox-rows.mjs): the forced cells as the released guide's own fill.sh prints them over the translation f8569cc9ad5c0d0d… (all of the seat's roots in one cut). By AI agents, Wed Nov 11 2026. No macro, syntax, notation, axiom, sorry.
-/
import Derived.Test.YtapbajficopnlaaChecked
import GoSem.Claim
import GoSem.ClaimJoined
import GoSem.ClaimMapViews
import Derived.JoinedTies
import Derived.KernelRfl
namespace Go.Proofs.Ytapbajficopnlaa
/- THE CELL 'sum', in the pinned program and in every row, IS THE sha256 OF THE DUMP (.gsa) THAT YtapbajficopnlaaProg.lean LOADS. Nothing in Lean hashes anything: it is a label: what it is worth is what the hold of that sum in a sandbox is worth. -/
noncomputable def Try.pinned : Pinned := { name := "ytapbajficopnlaa", sum := "f8569cc9ad5c0d0d76ed062a0df60a0ed773f4abc56b152ecb932f2c6ed0e117", checked := Try.checked }
namespace Rows
def none {H : Type} : Left H := { results := [], args := [] }

/-- 'laws.FnTrees': WHATEVER THE INPUT: true; the input reads as it did. -/
def fnTreesSpec : ChangeSpec := { name := "fnTrees", fn := fun _ => fun
  | [d] => { results := [.lit (.bool true)], args := [d] }
  | _ => none }
def fnTreesRow : OpenClaim := { program := "ytapbajficopnlaa", sum := "f8569cc9ad5c0d0d76ed062a0df60a0ed773f4abc56b152ecb932f2c6ed0e117", func := "loop.example/g01035/laws.FnTrees", spec := "fnTrees", inPlace := ["internal/bytealg.IndexByteString", "internal/bytealg.IndexString", "internal/abi.NoEscape", "internal/bytealg.MakeNoZero"], unfollowed := true, recurses := true, named := ["internal/bytealg.MaxLen"], apart := false }
def FnTreesSaid : Prop := fnTreesRow.holds Try.pinned (OpenSpec.ofChange fnTreesSpec)

/-- ITS FALSE NEIGHBOUR: 'it returns false'. Refute it at one input. -/
def fnTreesWrong : ChangeSpec := { name := "fnTrees", fn := fun _ => fun
  | [d] => { results := [.lit (.bool false)], args := [d] }
  | _ => none }
def FnTreesWrongFalsely : Prop := fnTreesRow.holds Try.pinned (OpenSpec.ofChange fnTreesWrong)

/-- 'laws.FnGrowth': WHATEVER THE INPUT: true; the input reads as it did. -/
def fnGrowthSpec : ChangeSpec := { name := "fnGrowth", fn := fun _ => fun
  | [d] => { results := [.lit (.bool true)], args := [d] }
  | _ => none }
def fnGrowthRow : OpenClaim := { program := "ytapbajficopnlaa", sum := "f8569cc9ad5c0d0d76ed062a0df60a0ed773f4abc56b152ecb932f2c6ed0e117", func := "loop.example/g01035/laws.FnGrowth", spec := "fnGrowth", unfollowed := true, recurses := true, apart := false }
def FnGrowthSaid : Prop := fnGrowthRow.holds Try.pinned (OpenSpec.ofChange fnGrowthSpec)

/-- ITS FALSE NEIGHBOUR: 'it returns false'. Refute it at one input. -/
def fnGrowthWrong : ChangeSpec := { name := "fnGrowth", fn := fun _ => fun
  | [d] => { results := [.lit (.bool false)], args := [d] }
  | _ => none }
def FnGrowthWrongFalsely : Prop := fnGrowthRow.holds Try.pinned (OpenSpec.ofChange fnGrowthWrong)

/-- 'laws.FnExactAreFiles': WHATEVER THE INPUT: true; the input reads as it did. -/
def fnExactAreFilesSpec : ChangeSpec := { name := "fnExactAreFiles", fn := fun _ => fun
  | [d] => { results := [.lit (.bool true)], args := [d] }
  | _ => none }
def fnExactAreFilesRow : OpenClaim := { program := "ytapbajficopnlaa", sum := "f8569cc9ad5c0d0d76ed062a0df60a0ed773f4abc56b152ecb932f2c6ed0e117", func := "loop.example/g01035/laws.FnExactAreFiles", spec := "fnExactAreFiles", unfollowed := true, recurses := true, apart := false }
def FnExactAreFilesSaid : Prop := fnExactAreFilesRow.holds Try.pinned (OpenSpec.ofChange fnExactAreFilesSpec)

/-- ITS FALSE NEIGHBOUR: 'it returns false'. Refute it at one input. -/
def fnExactAreFilesWrong : ChangeSpec := { name := "fnExactAreFiles", fn := fun _ => fun
  | [d] => { results := [.lit (.bool false)], args := [d] }
  | _ => none }
def FnExactAreFilesWrongFalsely : Prop := fnExactAreFilesRow.holds Try.pinned (OpenSpec.ofChange fnExactAreFilesWrong)

/-- 'laws.FnExactSeriesPages': WHATEVER THE INPUT: true; the input reads as it did. -/
def fnExactSeriesPagesSpec : ChangeSpec := { name := "fnExactSeriesPages", fn := fun _ => fun
  | [d] => { results := [.lit (.bool true)], args := [d] }
  | _ => none }
def fnExactSeriesPagesRow : OpenClaim := { program := "ytapbajficopnlaa", sum := "f8569cc9ad5c0d0d76ed062a0df60a0ed773f4abc56b152ecb932f2c6ed0e117", func := "loop.example/g01035/laws.FnExactSeriesPages", spec := "fnExactSeriesPages", unfollowed := true, recurses := true, apart := false }
def FnExactSeriesPagesSaid : Prop := fnExactSeriesPagesRow.holds Try.pinned (OpenSpec.ofChange fnExactSeriesPagesSpec)

/-- ITS FALSE NEIGHBOUR: 'it returns false'. Refute it at one input. -/
def fnExactSeriesPagesWrong : ChangeSpec := { name := "fnExactSeriesPages", fn := fun _ => fun
  | [d] => { results := [.lit (.bool false)], args := [d] }
  | _ => none }
def FnExactSeriesPagesWrongFalsely : Prop := fnExactSeriesPagesRow.holds Try.pinned (OpenSpec.ofChange fnExactSeriesPagesWrong)

/-- 'laws.FnExactDaysOpen': WHATEVER THE INPUT: true; the input reads as it did. -/
def fnExactDaysOpenSpec : ChangeSpec := { name := "fnExactDaysOpen", fn := fun _ => fun
  | [d1, d2, d3] => { results := [.lit (.bool true)], args := [d1, d2, d3] }
  | _ => none }
def fnExactDaysOpenRow : OpenClaim := { program := "ytapbajficopnlaa", sum := "f8569cc9ad5c0d0d76ed062a0df60a0ed773f4abc56b152ecb932f2c6ed0e117", func := "loop.example/g01035/laws.FnExactDaysOpen", spec := "fnExactDaysOpen", unfollowed := true, recurses := true, apart := false }
def FnExactDaysOpenSaid : Prop := fnExactDaysOpenRow.holds Try.pinned (OpenSpec.ofChange fnExactDaysOpenSpec)

/-- ITS FALSE NEIGHBOUR: 'it returns false'. Refute it at one input. -/
def fnExactDaysOpenWrong : ChangeSpec := { name := "fnExactDaysOpen", fn := fun _ => fun
  | [d1, d2, d3] => { results := [.lit (.bool false)], args := [d1, d2, d3] }
  | _ => none }
def FnExactDaysOpenWrongFalsely : Prop := fnExactDaysOpenRow.holds Try.pinned (OpenSpec.ofChange fnExactDaysOpenWrong)

/- THE SECOND FORM. 'bulk': how many values and letters a reading holds, each counted each time it is reached (what is shared counts as often as it is met; a slice's spare places count too). A statement '..UptoSaid' is the law's where the arguments, and the package variables that the reading takes, are together of bulk at most 1048576: NARROWER than '..Said'. Prove '..Said' where nothing that the law and all that it calls make is longer than what came in: it says more and counts as full. Else prove '..UptoSaid'. A law counts once. -/
mutual
def uptoBulk {H : Type} : DataW H → Nat
  | .lit (.string bytes) => bytes.length + 1
  | .lit _ => 1
  | .nil => 1
  | .ptr d => uptoBulk d + 1
  | .slice elems spare => uptoBulkAll elems + uptoBulkAll spare + 1
  | .agg parts => uptoBulkAll parts + 1
  | .iface _ d => uptoBulk d + 1
  | .map entries => uptoBulkEntries entries + 1
  | .held _ => 1
def uptoBulkAll {H : Type} : List (DataW H) → Nat
  | [] => 0
  | d :: r => uptoBulk d + uptoBulkAll r
def uptoBulkEntries {H : Type} : List (Lit × DataW H) → Nat
  | [] => 0
  | x :: r => uptoBulkEntry x + uptoBulkEntries r
def uptoBulkEntry {H : Type} : Lit × DataW H → Nat
  | (.string bytes, d) => bytes.length + uptoBulk d + 1
  | (_, d) => uptoBulk d + 1
 end
def uptoSmall : (H : Type) → List (DataW H) → Bool := fun _ ds => decide (uptoBulkAll ds ≤ 1048576)
def OpenSpec.upto (s : _root_.Go.ChangeSpec) : _root_.Go.OpenSpec := { _root_.Go.OpenSpec.ofChange s with cond := some uptoSmall }

/-- 'laws.FnTrees', WHERE WHAT IT READS IS OF BULK AT MOST 1048576: true; the input reads as it did. -/
def fnTreesUptoRow : OpenClaim := { program := "ytapbajficopnlaa", sum := "f8569cc9ad5c0d0d76ed062a0df60a0ed773f4abc56b152ecb932f2c6ed0e117", func := "loop.example/g01035/laws.FnTrees", spec := "fnTrees", inPlace := ["internal/bytealg.IndexByteString", "internal/bytealg.IndexString", "internal/abi.NoEscape", "internal/bytealg.MakeNoZero"], unfollowed := true, recurses := true, named := ["internal/bytealg.MaxLen"], apart := false, narrowed := true }
def FnTreesUptoSaid : Prop := fnTreesUptoRow.holds Try.pinned (OpenSpec.upto fnTreesSpec)

/-- 'laws.FnGrowth', WHERE WHAT IT READS IS OF BULK AT MOST 1048576: true; the input reads as it did. -/
def fnGrowthUptoRow : OpenClaim := { program := "ytapbajficopnlaa", sum := "f8569cc9ad5c0d0d76ed062a0df60a0ed773f4abc56b152ecb932f2c6ed0e117", func := "loop.example/g01035/laws.FnGrowth", spec := "fnGrowth", unfollowed := true, recurses := true, apart := false, narrowed := true }
def FnGrowthUptoSaid : Prop := fnGrowthUptoRow.holds Try.pinned (OpenSpec.upto fnGrowthSpec)

/-- 'laws.FnExactAreFiles', WHERE WHAT IT READS IS OF BULK AT MOST 1048576: true; the input reads as it did. -/
def fnExactAreFilesUptoRow : OpenClaim := { program := "ytapbajficopnlaa", sum := "f8569cc9ad5c0d0d76ed062a0df60a0ed773f4abc56b152ecb932f2c6ed0e117", func := "loop.example/g01035/laws.FnExactAreFiles", spec := "fnExactAreFiles", unfollowed := true, recurses := true, apart := false, narrowed := true }
def FnExactAreFilesUptoSaid : Prop := fnExactAreFilesUptoRow.holds Try.pinned (OpenSpec.upto fnExactAreFilesSpec)

/-- 'laws.FnExactSeriesPages', WHERE WHAT IT READS IS OF BULK AT MOST 1048576: true; the input reads as it did. -/
def fnExactSeriesPagesUptoRow : OpenClaim := { program := "ytapbajficopnlaa", sum := "f8569cc9ad5c0d0d76ed062a0df60a0ed773f4abc56b152ecb932f2c6ed0e117", func := "loop.example/g01035/laws.FnExactSeriesPages", spec := "fnExactSeriesPages", unfollowed := true, recurses := true, apart := false, narrowed := true }
def FnExactSeriesPagesUptoSaid : Prop := fnExactSeriesPagesUptoRow.holds Try.pinned (OpenSpec.upto fnExactSeriesPagesSpec)

/-- 'laws.FnExactDaysOpen', WHERE WHAT IT READS IS OF BULK AT MOST 1048576: true; the input reads as it did. -/
def fnExactDaysOpenUptoRow : OpenClaim := { program := "ytapbajficopnlaa", sum := "f8569cc9ad5c0d0d76ed062a0df60a0ed773f4abc56b152ecb932f2c6ed0e117", func := "loop.example/g01035/laws.FnExactDaysOpen", spec := "fnExactDaysOpen", unfollowed := true, recurses := true, apart := false, narrowed := true }
def FnExactDaysOpenUptoSaid : Prop := fnExactDaysOpenUptoRow.holds Try.pinned (OpenSpec.upto fnExactDaysOpenSpec)

end Rows
end Go.Proofs.Ytapbajficopnlaa
