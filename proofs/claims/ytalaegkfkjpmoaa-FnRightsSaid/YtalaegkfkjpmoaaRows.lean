/-
  No cell of these rows narrows 'for every input' (looked for: loops, veiled, ifaces, maps, wideKeys, modest, calm, conditions, laid).
  DERIVED. THE GIVEN ROWS OF THIS SEAT. 4 by the template 'for every input the law returns true; each argument reads behind the call as it read before'; 0 by the template 'total and deterministic' (their statements: YtalaegkfkjpmoaaTotals.lean).
  GIVEN WITH THE SEED: the statements are not yours to turn. If you find one false, say at which input.
  Laid BY PROGRAM, IN A SANDBOX (cutbox-rows.mjs): the forced cells as the released guide's own fill.sh prints them over the translation 46c93fdf981f9b34… (all of the seat's roots in one cut). By AI agents, Wed Nov 11 2026. No macro, syntax, notation, axiom, sorry.
-/
import Derived.Test.YtalaegkfkjpmoaaChecked
import GoSem.Claim
import GoSem.ClaimJoined
import GoSem.ClaimMapViews
import Derived.JoinedTies
import Derived.KernelRfl
namespace Go.Proofs.Ytalaegkfkjpmoaa
/- THE CELL 'sum', in the pinned program and in every row, IS THE sha256 OF THE DUMP (.gsa) THAT YtalaegkfkjpmoaaProg.lean LOADS. Nothing in Lean hashes anything: it is a label: what it is worth is what the hold of that sum in a sandbox is worth. -/
noncomputable def Try.pinned : Pinned := { name := "ytalaegkfkjpmoaa", sum := "46c93fdf981f9b344e9ae9d8426491bde117a57ab3a7e3d2eacf2090e142ef4c", checked := Try.checked }
namespace Rows
def none {H : Type} : Left H := { results := [], args := [] }

/-- 'laws.FnFormats': WHATEVER THE INPUT: true; the input reads as it did. -/
def fnFormatsSpec : ChangeSpec := { name := "fnFormats", fn := fun _ => fun
  | [d] => { results := [.lit (.bool true)], args := [d] }
  | _ => none }
def fnFormatsRow : OpenClaim := { program := "ytalaegkfkjpmoaa", sum := "46c93fdf981f9b344e9ae9d8426491bde117a57ab3a7e3d2eacf2090e142ef4c", func := "loop.example/g01035/laws.FnFormats", spec := "fnFormats", unfollowed := true, recurses := true, apart := false }
def FnFormatsSaid : Prop := fnFormatsRow.holds Try.pinned (OpenSpec.ofChange fnFormatsSpec)

/-- ITS FALSE NEIGHBOUR: 'it returns false'. Refute it at one input. -/
def fnFormatsWrong : ChangeSpec := { name := "fnFormats", fn := fun _ => fun
  | [d] => { results := [.lit (.bool false)], args := [d] }
  | _ => none }
def FnFormatsWrongFalsely : Prop := fnFormatsRow.holds Try.pinned (OpenSpec.ofChange fnFormatsWrong)

/-- 'laws.FnPaths': WHATEVER THE INPUT: true; the input reads as it did. -/
def fnPathsSpec : ChangeSpec := { name := "fnPaths", fn := fun _ => fun
  | [d] => { results := [.lit (.bool true)], args := [d] }
  | _ => none }
def fnPathsRow : OpenClaim := { program := "ytalaegkfkjpmoaa", sum := "46c93fdf981f9b344e9ae9d8426491bde117a57ab3a7e3d2eacf2090e142ef4c", func := "loop.example/g01035/laws.FnPaths", spec := "fnPaths", unfollowed := true, recurses := true, apart := false }
def FnPathsSaid : Prop := fnPathsRow.holds Try.pinned (OpenSpec.ofChange fnPathsSpec)

/-- ITS FALSE NEIGHBOUR: 'it returns false'. Refute it at one input. -/
def fnPathsWrong : ChangeSpec := { name := "fnPaths", fn := fun _ => fun
  | [d] => { results := [.lit (.bool false)], args := [d] }
  | _ => none }
def FnPathsWrongFalsely : Prop := fnPathsRow.holds Try.pinned (OpenSpec.ofChange fnPathsWrong)

/-- 'laws.FnClerks': WHATEVER THE INPUT: true; the input reads as it did. -/
def fnClerksSpec : ChangeSpec := { name := "fnClerks", fn := fun _ => fun
  | [d] => { results := [.lit (.bool true)], args := [d] }
  | _ => none }
def fnClerksRow : OpenClaim := { program := "ytalaegkfkjpmoaa", sum := "46c93fdf981f9b344e9ae9d8426491bde117a57ab3a7e3d2eacf2090e142ef4c", func := "loop.example/g01035/laws.FnClerks", spec := "fnClerks", unfollowed := true, recurses := true, apart := false }
def FnClerksSaid : Prop := fnClerksRow.holds Try.pinned (OpenSpec.ofChange fnClerksSpec)

/-- ITS FALSE NEIGHBOUR: 'it returns false'. Refute it at one input. -/
def fnClerksWrong : ChangeSpec := { name := "fnClerks", fn := fun _ => fun
  | [d] => { results := [.lit (.bool false)], args := [d] }
  | _ => none }
def FnClerksWrongFalsely : Prop := fnClerksRow.holds Try.pinned (OpenSpec.ofChange fnClerksWrong)

/-- 'laws.FnRights': WHATEVER THE INPUT: true; the input reads as it did. -/
def fnRightsSpec : ChangeSpec := { name := "fnRights", fn := fun _ => fun
  | [d] => { results := [.lit (.bool true)], args := [d] }
  | _ => none }
def fnRightsRow : OpenClaim := { program := "ytalaegkfkjpmoaa", sum := "46c93fdf981f9b344e9ae9d8426491bde117a57ab3a7e3d2eacf2090e142ef4c", func := "loop.example/g01035/laws.FnRights", spec := "fnRights", unfollowed := true, recurses := true, apart := false }
def FnRightsSaid : Prop := fnRightsRow.holds Try.pinned (OpenSpec.ofChange fnRightsSpec)

/-- ITS FALSE NEIGHBOUR: 'it returns false'. Refute it at one input. -/
def fnRightsWrong : ChangeSpec := { name := "fnRights", fn := fun _ => fun
  | [d] => { results := [.lit (.bool false)], args := [d] }
  | _ => none }
def FnRightsWrongFalsely : Prop := fnRightsRow.holds Try.pinned (OpenSpec.ofChange fnRightsWrong)

/- THE SECOND FORM. 'bulk': how many values and letters a reading holds, each counted each time it is reached (what is shared counts as often as it is met; a slice's spare places count too). A statement '..UptoSaid' is the law's where the arguments, and the package variables that the reading takes, are together of bulk at most 1048576: NARROWER than '..Said'. Prove '..Said' where nothing that the law and all that it calls make is longer than what came in: it says more and counts as full. Else prove '..UptoSaid'. A law counts once. -/
mutual
def uptoBulk {H : Type} : DataW H → Nat
  | .lit (.string bytes) => bytes.length + 1
  | .lit _ => 1
  | .nil => 1
  | .ptr d => uptoBulk d + 1
  | .slice elems spare => uptoBulkAll elems + uptoBulkAll spare + 1
  | .agg parts => uptoBulkAll parts + 1
  | .iface _ d => uptoBulk d + 1
  | .map entries => uptoBulkEntries entries + 1
  | .held _ => 1
def uptoBulkAll {H : Type} : List (DataW H) → Nat
  | [] => 0
  | d :: r => uptoBulk d + uptoBulkAll r
def uptoBulkEntries {H : Type} : List (Lit × DataW H) → Nat
  | [] => 0
  | x :: r => uptoBulkEntry x + uptoBulkEntries r
def uptoBulkEntry {H : Type} : Lit × DataW H → Nat
  | (.string bytes, d) => bytes.length + uptoBulk d + 1
  | (_, d) => uptoBulk d + 1
 end
def uptoSmall : (H : Type) → List (DataW H) → Bool := fun _ ds => decide (uptoBulkAll ds ≤ 1048576)
def OpenSpec.upto (s : _root_.Go.ChangeSpec) : _root_.Go.OpenSpec := { _root_.Go.OpenSpec.ofChange s with cond := some uptoSmall }

/-- 'laws.FnFormats', WHERE WHAT IT READS IS OF BULK AT MOST 1048576: true; the input reads as it did. -/
def fnFormatsUptoRow : OpenClaim := { program := "ytalaegkfkjpmoaa", sum := "46c93fdf981f9b344e9ae9d8426491bde117a57ab3a7e3d2eacf2090e142ef4c", func := "loop.example/g01035/laws.FnFormats", spec := "fnFormats", unfollowed := true, recurses := true, apart := false, narrowed := true }
def FnFormatsUptoSaid : Prop := fnFormatsUptoRow.holds Try.pinned (OpenSpec.upto fnFormatsSpec)

/-- 'laws.FnPaths', WHERE WHAT IT READS IS OF BULK AT MOST 1048576: true; the input reads as it did. -/
def fnPathsUptoRow : OpenClaim := { program := "ytalaegkfkjpmoaa", sum := "46c93fdf981f9b344e9ae9d8426491bde117a57ab3a7e3d2eacf2090e142ef4c", func := "loop.example/g01035/laws.FnPaths", spec := "fnPaths", unfollowed := true, recurses := true, apart := false, narrowed := true }
def FnPathsUptoSaid : Prop := fnPathsUptoRow.holds Try.pinned (OpenSpec.upto fnPathsSpec)

/-- 'laws.FnClerks', WHERE WHAT IT READS IS OF BULK AT MOST 1048576: true; the input reads as it did. -/
def fnClerksUptoRow : OpenClaim := { program := "ytalaegkfkjpmoaa", sum := "46c93fdf981f9b344e9ae9d8426491bde117a57ab3a7e3d2eacf2090e142ef4c", func := "loop.example/g01035/laws.FnClerks", spec := "fnClerks", unfollowed := true, recurses := true, apart := false, narrowed := true }
def FnClerksUptoSaid : Prop := fnClerksUptoRow.holds Try.pinned (OpenSpec.upto fnClerksSpec)

/-- 'laws.FnRights', WHERE WHAT IT READS IS OF BULK AT MOST 1048576: true; the input reads as it did. -/
def fnRightsUptoRow : OpenClaim := { program := "ytalaegkfkjpmoaa", sum := "46c93fdf981f9b344e9ae9d8426491bde117a57ab3a7e3d2eacf2090e142ef4c", func := "loop.example/g01035/laws.FnRights", spec := "fnRights", unfollowed := true, recurses := true, apart := false, narrowed := true }
def FnRightsUptoSaid : Prop := fnRightsUptoRow.holds Try.pinned (OpenSpec.upto fnRightsSpec)

end Rows
end Go.Proofs.Ytalaegkfkjpmoaa
