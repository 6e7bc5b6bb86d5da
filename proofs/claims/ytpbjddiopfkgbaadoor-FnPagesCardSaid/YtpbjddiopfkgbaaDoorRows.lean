/-
  NARROWER THAN 'FOR EVERY INPUT', by the rows' own cells (each row's printed sentence says how): FnFiles: laid · FnPages: laid · FnExactCloseFile: laid · FnExactReopenFile: laid · FnExactLendFile: laid · FnExactAddPages: laid · FnExactSplitFile: laid.
  DERIVED. THE GIVEN ROWS OF THIS SEAT. 7 by the template 'for every input the law returns true; each argument reads behind the call as it read before'; 0 by the template 'total and deterministic' (their statements: YtpbjddiopfkgbaaDoorTotals.lean).
  GIVEN WITH THE SEED: the statements are not yours to turn. If you find one false, say at which input.
  Laid BY PROGRAM, IN A SANDBOX (cutbox-rows.mjs): the forced cells as the released guide's own fill.sh prints them over the translation 6c05dc7826dd971d… (all of the seat's roots in one cut). By AI agents, Wed Nov 11 2026. No macro, syntax, notation, axiom, sorry.
-/
import Derived.Test.YtpbjddiopfkgbaaDoorChecked
import GoSem.Claim
import GoSem.ClaimJoined
import GoSem.ClaimMapViews
import Derived.JoinedTies
import Derived.KernelRfl
namespace Go.Proofs.YtpbjddiopfkgbaaDoor
/- THE CELL 'sum', in the pinned program and in every row, IS THE sha256 OF THE DUMP (.gsa) THAT YtpbjddiopfkgbaaDoorProg.lean LOADS. Nothing in Lean hashes anything: it is a label: what it is worth is what the hold of that sum in a sandbox is worth. -/
noncomputable def Tryd.pinned : Pinned := { name := "ytpbjddiopfkgbaadoor", sum := "6c05dc7826dd971df5996e12402f22654af7144782e1f6acade87546a29e0459", checked := Tryd.checked }
namespace Rows
def none {H : Type} : Left H := { results := [], args := [] }

/- WHAT THE LISTED PACKAGE-LEVEL VARIABLES READ AS WHEN THE CALL BEGINS. Each datum BY PROGRAM (the guide's laid-datum.mjs) off the statement by which the dump's own 'gosem.cut.vars' lays the variable. In a bare row this is a premise. The card (YtpbjddiopfkgbaaDoorCards.lean) ties it to the program's text. -/
def laid_loop_example_g01035_impl_fileSteps {H : Type} : DataW H := .agg [.agg [.lit (.int .i64 0), .lit (.int .i64 0)], .agg [.lit (.int .i64 0), .lit (.int .i64 1)], .agg [.lit (.int .i64 1), .lit (.int .i64 0)], .agg [.lit (.int .i64 1), .lit (.int .i64 2)], .agg [.lit (.int .i64 2), .lit (.int .i64 1)]]

/-- 'laws.FnFiles': WHATEVER THE INPUT: true; the input reads as it did. -/
def fnFilesSpec : ChangeSpec := { name := "fnFiles", vars := ["loop.example/g01035/impl.fileSteps"], fn := fun _ => fun
  | [d, g1] => { results := [.lit (.bool true)], args := [d], vars := [g1] }
  | _ => none }
def fnFilesRow : OpenClaim := { program := "ytpbjddiopfkgbaadoor", sum := "6c05dc7826dd971df5996e12402f22654af7144782e1f6acade87546a29e0459", func := "loop.example/g01035/laws.FnFiles", spec := "fnFiles", unfollowed := true, recurses := true, named := ["loop.example/g01035/impl.fileSteps"], apart := false, laid := [("loop.example/g01035/impl.fileSteps", laid_loop_example_g01035_impl_fileSteps)] }
def FnFilesSaid : Prop := fnFilesRow.holds Tryd.pinned (OpenSpec.ofChange fnFilesSpec)

/-- ITS FALSE NEIGHBOUR: 'it returns false'. Refute it at one input. -/
def fnFilesWrong : ChangeSpec := { name := "fnFiles", vars := ["loop.example/g01035/impl.fileSteps"], fn := fun _ => fun
  | [d, g1] => { results := [.lit (.bool false)], args := [d], vars := [g1] }
  | _ => none }
def FnFilesWrongFalsely : Prop := fnFilesRow.holds Tryd.pinned (OpenSpec.ofChange fnFilesWrong)

/-- 'laws.FnPages': WHATEVER THE INPUT: true; the input reads as it did. -/
def fnPagesSpec : ChangeSpec := { name := "fnPages", vars := ["loop.example/g01035/impl.fileSteps"], fn := fun _ => fun
  | [d, g1] => { results := [.lit (.bool true)], args := [d], vars := [g1] }
  | _ => none }
def fnPagesRow : OpenClaim := { program := "ytpbjddiopfkgbaadoor", sum := "6c05dc7826dd971df5996e12402f22654af7144782e1f6acade87546a29e0459", func := "loop.example/g01035/laws.FnPages", spec := "fnPages", unfollowed := true, recurses := true, named := ["loop.example/g01035/impl.fileSteps"], apart := false, laid := [("loop.example/g01035/impl.fileSteps", laid_loop_example_g01035_impl_fileSteps)] }
def FnPagesSaid : Prop := fnPagesRow.holds Tryd.pinned (OpenSpec.ofChange fnPagesSpec)

/-- ITS FALSE NEIGHBOUR: 'it returns false'. Refute it at one input. -/
def fnPagesWrong : ChangeSpec := { name := "fnPages", vars := ["loop.example/g01035/impl.fileSteps"], fn := fun _ => fun
  | [d, g1] => { results := [.lit (.bool false)], args := [d], vars := [g1] }
  | _ => none }
def FnPagesWrongFalsely : Prop := fnPagesRow.holds Tryd.pinned (OpenSpec.ofChange fnPagesWrong)

/-- 'laws.FnExactCloseFile': WHATEVER THE INPUT: true; the input reads as it did. -/
def fnExactCloseFileSpec : ChangeSpec := { name := "fnExactCloseFile", vars := ["loop.example/g01035/impl.fileSteps"], fn := fun _ => fun
  | [d1, d2, d3, g1] => { results := [.lit (.bool true)], args := [d1, d2, d3], vars := [g1] }
  | _ => none }
def fnExactCloseFileRow : OpenClaim := { program := "ytpbjddiopfkgbaadoor", sum := "6c05dc7826dd971df5996e12402f22654af7144782e1f6acade87546a29e0459", func := "loop.example/g01035/laws.FnExactCloseFile", spec := "fnExactCloseFile", unfollowed := true, recurses := true, named := ["loop.example/g01035/impl.fileSteps"], apart := false, laid := [("loop.example/g01035/impl.fileSteps", laid_loop_example_g01035_impl_fileSteps)] }
def FnExactCloseFileSaid : Prop := fnExactCloseFileRow.holds Tryd.pinned (OpenSpec.ofChange fnExactCloseFileSpec)

/-- ITS FALSE NEIGHBOUR: 'it returns false'. Refute it at one input. -/
def fnExactCloseFileWrong : ChangeSpec := { name := "fnExactCloseFile", vars := ["loop.example/g01035/impl.fileSteps"], fn := fun _ => fun
  | [d1, d2, d3, g1] => { results := [.lit (.bool false)], args := [d1, d2, d3], vars := [g1] }
  | _ => none }
def FnExactCloseFileWrongFalsely : Prop := fnExactCloseFileRow.holds Tryd.pinned (OpenSpec.ofChange fnExactCloseFileWrong)

/-- 'laws.FnExactReopenFile': WHATEVER THE INPUT: true; the input reads as it did. -/
def fnExactReopenFileSpec : ChangeSpec := { name := "fnExactReopenFile", vars := ["loop.example/g01035/impl.fileSteps"], fn := fun _ => fun
  | [d1, d2, g1] => { results := [.lit (.bool true)], args := [d1, d2], vars := [g1] }
  | _ => none }
def fnExactReopenFileRow : OpenClaim := { program := "ytpbjddiopfkgbaadoor", sum := "6c05dc7826dd971df5996e12402f22654af7144782e1f6acade87546a29e0459", func := "loop.example/g01035/laws.FnExactReopenFile", spec := "fnExactReopenFile", unfollowed := true, recurses := true, named := ["loop.example/g01035/impl.fileSteps"], apart := false, laid := [("loop.example/g01035/impl.fileSteps", laid_loop_example_g01035_impl_fileSteps)] }
def FnExactReopenFileSaid : Prop := fnExactReopenFileRow.holds Tryd.pinned (OpenSpec.ofChange fnExactReopenFileSpec)

/-- ITS FALSE NEIGHBOUR: 'it returns false'. Refute it at one input. -/
def fnExactReopenFileWrong : ChangeSpec := { name := "fnExactReopenFile", vars := ["loop.example/g01035/impl.fileSteps"], fn := fun _ => fun
  | [d1, d2, g1] => { results := [.lit (.bool false)], args := [d1, d2], vars := [g1] }
  | _ => none }
def FnExactReopenFileWrongFalsely : Prop := fnExactReopenFileRow.holds Tryd.pinned (OpenSpec.ofChange fnExactReopenFileWrong)

/-- 'laws.FnExactLendFile': WHATEVER THE INPUT: true; the input reads as it did. -/
def fnExactLendFileSpec : ChangeSpec := { name := "fnExactLendFile", vars := ["loop.example/g01035/impl.fileSteps"], fn := fun _ => fun
  | [d1, d2, d3, g1] => { results := [.lit (.bool true)], args := [d1, d2, d3], vars := [g1] }
  | _ => none }
def fnExactLendFileRow : OpenClaim := { program := "ytpbjddiopfkgbaadoor", sum := "6c05dc7826dd971df5996e12402f22654af7144782e1f6acade87546a29e0459", func := "loop.example/g01035/laws.FnExactLendFile", spec := "fnExactLendFile", unfollowed := true, recurses := true, named := ["loop.example/g01035/impl.fileSteps"], apart := false, laid := [("loop.example/g01035/impl.fileSteps", laid_loop_example_g01035_impl_fileSteps)] }
def FnExactLendFileSaid : Prop := fnExactLendFileRow.holds Tryd.pinned (OpenSpec.ofChange fnExactLendFileSpec)

/-- ITS FALSE NEIGHBOUR: 'it returns false'. Refute it at one input. -/
def fnExactLendFileWrong : ChangeSpec := { name := "fnExactLendFile", vars := ["loop.example/g01035/impl.fileSteps"], fn := fun _ => fun
  | [d1, d2, d3, g1] => { results := [.lit (.bool false)], args := [d1, d2, d3], vars := [g1] }
  | _ => none }
def FnExactLendFileWrongFalsely : Prop := fnExactLendFileRow.holds Tryd.pinned (OpenSpec.ofChange fnExactLendFileWrong)

/-- 'laws.FnExactAddPages': WHATEVER THE INPUT: true; the input reads as it did. -/
def fnExactAddPagesSpec : ChangeSpec := { name := "fnExactAddPages", vars := ["loop.example/g01035/impl.fileSteps"], fn := fun _ => fun
  | [d1, d2, d3, g1] => { results := [.lit (.bool true)], args := [d1, d2, d3], vars := [g1] }
  | _ => none }
def fnExactAddPagesRow : OpenClaim := { program := "ytpbjddiopfkgbaadoor", sum := "6c05dc7826dd971df5996e12402f22654af7144782e1f6acade87546a29e0459", func := "loop.example/g01035/laws.FnExactAddPages", spec := "fnExactAddPages", unfollowed := true, recurses := true, named := ["loop.example/g01035/impl.fileSteps"], apart := false, laid := [("loop.example/g01035/impl.fileSteps", laid_loop_example_g01035_impl_fileSteps)] }
def FnExactAddPagesSaid : Prop := fnExactAddPagesRow.holds Tryd.pinned (OpenSpec.ofChange fnExactAddPagesSpec)

/-- ITS FALSE NEIGHBOUR: 'it returns false'. Refute it at one input. -/
def fnExactAddPagesWrong : ChangeSpec := { name := "fnExactAddPages", vars := ["loop.example/g01035/impl.fileSteps"], fn := fun _ => fun
  | [d1, d2, d3, g1] => { results := [.lit (.bool false)], args := [d1, d2, d3], vars := [g1] }
  | _ => none }
def FnExactAddPagesWrongFalsely : Prop := fnExactAddPagesRow.holds Tryd.pinned (OpenSpec.ofChange fnExactAddPagesWrong)

/-- 'laws.FnExactSplitFile': WHATEVER THE INPUT: true; the input reads as it did. -/
def fnExactSplitFileSpec : ChangeSpec := { name := "fnExactSplitFile", vars := ["loop.example/g01035/impl.fileSteps"], fn := fun _ => fun
  | [d1, d2, d3, d4, g1] => { results := [.lit (.bool true)], args := [d1, d2, d3, d4], vars := [g1] }
  | _ => none }
def fnExactSplitFileRow : OpenClaim := { program := "ytpbjddiopfkgbaadoor", sum := "6c05dc7826dd971df5996e12402f22654af7144782e1f6acade87546a29e0459", func := "loop.example/g01035/laws.FnExactSplitFile", spec := "fnExactSplitFile", unfollowed := true, recurses := true, named := ["loop.example/g01035/impl.fileSteps"], apart := false, laid := [("loop.example/g01035/impl.fileSteps", laid_loop_example_g01035_impl_fileSteps)] }
def FnExactSplitFileSaid : Prop := fnExactSplitFileRow.holds Tryd.pinned (OpenSpec.ofChange fnExactSplitFileSpec)

/-- ITS FALSE NEIGHBOUR: 'it returns false'. Refute it at one input. -/
def fnExactSplitFileWrong : ChangeSpec := { name := "fnExactSplitFile", vars := ["loop.example/g01035/impl.fileSteps"], fn := fun _ => fun
  | [d1, d2, d3, d4, g1] => { results := [.lit (.bool false)], args := [d1, d2, d3, d4], vars := [g1] }
  | _ => none }
def FnExactSplitFileWrongFalsely : Prop := fnExactSplitFileRow.holds Tryd.pinned (OpenSpec.ofChange fnExactSplitFileWrong)

/- THE SECOND FORM. 'bulk': how many values and letters a reading holds, each counted each time it is reached (what is shared counts as often as it is met; a slice's spare places count too). A statement '..UptoSaid' is the law's where the arguments, and the package variables that the reading takes, are together of bulk at most 1048576: NARROWER than '..Said'. Prove '..Said' where nothing that the law and all that it calls make is longer than what came in: it says more and counts as full. Else prove '..UptoSaid'. A law counts once. -/
mutual
def uptoBulk {H : Type} : DataW H → Nat
  | .lit (.string bytes) => bytes.length + 1
  | .lit _ => 1
  | .nil => 1
  | .ptr d => uptoBulk d + 1
  | .slice elems spare => uptoBulkAll elems + uptoBulkAll spare + 1
  | .agg parts => uptoBulkAll parts + 1
  | .iface _ d => uptoBulk d + 1
  | .map entries => uptoBulkEntries entries + 1
  | .held _ => 1
def uptoBulkAll {H : Type} : List (DataW H) → Nat
  | [] => 0
  | d :: r => uptoBulk d + uptoBulkAll r
def uptoBulkEntries {H : Type} : List (Lit × DataW H) → Nat
  | [] => 0
  | x :: r => uptoBulkEntry x + uptoBulkEntries r
def uptoBulkEntry {H : Type} : Lit × DataW H → Nat
  | (.string bytes, d) => bytes.length + uptoBulk d + 1
  | (_, d) => uptoBulk d + 1
 end
def uptoSmall : (H : Type) → List (DataW H) → Bool := fun _ ds => decide (uptoBulkAll ds ≤ 1048576)
def OpenSpec.upto (s : _root_.Go.ChangeSpec) : _root_.Go.OpenSpec := { _root_.Go.OpenSpec.ofChange s with cond := some uptoSmall }

/-- 'laws.FnFiles', WHERE WHAT IT READS IS OF BULK AT MOST 1048576: true; the input reads as it did. -/
def fnFilesUptoRow : OpenClaim := { program := "ytpbjddiopfkgbaadoor", sum := "6c05dc7826dd971df5996e12402f22654af7144782e1f6acade87546a29e0459", func := "loop.example/g01035/laws.FnFiles", spec := "fnFiles", unfollowed := true, recurses := true, named := ["loop.example/g01035/impl.fileSteps"], apart := false, laid := [("loop.example/g01035/impl.fileSteps", laid_loop_example_g01035_impl_fileSteps)], narrowed := true }
def FnFilesUptoSaid : Prop := fnFilesUptoRow.holds Tryd.pinned (OpenSpec.upto fnFilesSpec)

/-- 'laws.FnPages', WHERE WHAT IT READS IS OF BULK AT MOST 1048576: true; the input reads as it did. -/
def fnPagesUptoRow : OpenClaim := { program := "ytpbjddiopfkgbaadoor", sum := "6c05dc7826dd971df5996e12402f22654af7144782e1f6acade87546a29e0459", func := "loop.example/g01035/laws.FnPages", spec := "fnPages", unfollowed := true, recurses := true, named := ["loop.example/g01035/impl.fileSteps"], apart := false, laid := [("loop.example/g01035/impl.fileSteps", laid_loop_example_g01035_impl_fileSteps)], narrowed := true }
def FnPagesUptoSaid : Prop := fnPagesUptoRow.holds Tryd.pinned (OpenSpec.upto fnPagesSpec)

/-- 'laws.FnExactCloseFile', WHERE WHAT IT READS IS OF BULK AT MOST 1048576: true; the input reads as it did. -/
def fnExactCloseFileUptoRow : OpenClaim := { program := "ytpbjddiopfkgbaadoor", sum := "6c05dc7826dd971df5996e12402f22654af7144782e1f6acade87546a29e0459", func := "loop.example/g01035/laws.FnExactCloseFile", spec := "fnExactCloseFile", unfollowed := true, recurses := true, named := ["loop.example/g01035/impl.fileSteps"], apart := false, laid := [("loop.example/g01035/impl.fileSteps", laid_loop_example_g01035_impl_fileSteps)], narrowed := true }
def FnExactCloseFileUptoSaid : Prop := fnExactCloseFileUptoRow.holds Tryd.pinned (OpenSpec.upto fnExactCloseFileSpec)

/-- 'laws.FnExactReopenFile', WHERE WHAT IT READS IS OF BULK AT MOST 1048576: true; the input reads as it did. -/
def fnExactReopenFileUptoRow : OpenClaim := { program := "ytpbjddiopfkgbaadoor", sum := "6c05dc7826dd971df5996e12402f22654af7144782e1f6acade87546a29e0459", func := "loop.example/g01035/laws.FnExactReopenFile", spec := "fnExactReopenFile", unfollowed := true, recurses := true, named := ["loop.example/g01035/impl.fileSteps"], apart := false, laid := [("loop.example/g01035/impl.fileSteps", laid_loop_example_g01035_impl_fileSteps)], narrowed := true }
def FnExactReopenFileUptoSaid : Prop := fnExactReopenFileUptoRow.holds Tryd.pinned (OpenSpec.upto fnExactReopenFileSpec)

/-- 'laws.FnExactLendFile', WHERE WHAT IT READS IS OF BULK AT MOST 1048576: true; the input reads as it did. -/
def fnExactLendFileUptoRow : OpenClaim := { program := "ytpbjddiopfkgbaadoor", sum := "6c05dc7826dd971df5996e12402f22654af7144782e1f6acade87546a29e0459", func := "loop.example/g01035/laws.FnExactLendFile", spec := "fnExactLendFile", unfollowed := true, recurses := true, named := ["loop.example/g01035/impl.fileSteps"], apart := false, laid := [("loop.example/g01035/impl.fileSteps", laid_loop_example_g01035_impl_fileSteps)], narrowed := true }
def FnExactLendFileUptoSaid : Prop := fnExactLendFileUptoRow.holds Tryd.pinned (OpenSpec.upto fnExactLendFileSpec)

/-- 'laws.FnExactAddPages', WHERE WHAT IT READS IS OF BULK AT MOST 1048576: true; the input reads as it did. -/
def fnExactAddPagesUptoRow : OpenClaim := { program := "ytpbjddiopfkgbaadoor", sum := "6c05dc7826dd971df5996e12402f22654af7144782e1f6acade87546a29e0459", func := "loop.example/g01035/laws.FnExactAddPages", spec := "fnExactAddPages", unfollowed := true, recurses := true, named := ["loop.example/g01035/impl.fileSteps"], apart := false, laid := [("loop.example/g01035/impl.fileSteps", laid_loop_example_g01035_impl_fileSteps)], narrowed := true }
def FnExactAddPagesUptoSaid : Prop := fnExactAddPagesUptoRow.holds Tryd.pinned (OpenSpec.upto fnExactAddPagesSpec)

/-- 'laws.FnExactSplitFile', WHERE WHAT IT READS IS OF BULK AT MOST 1048576: true; the input reads as it did. -/
def fnExactSplitFileUptoRow : OpenClaim := { program := "ytpbjddiopfkgbaadoor", sum := "6c05dc7826dd971df5996e12402f22654af7144782e1f6acade87546a29e0459", func := "loop.example/g01035/laws.FnExactSplitFile", spec := "fnExactSplitFile", unfollowed := true, recurses := true, named := ["loop.example/g01035/impl.fileSteps"], apart := false, laid := [("loop.example/g01035/impl.fileSteps", laid_loop_example_g01035_impl_fileSteps)], narrowed := true }
def FnExactSplitFileUptoSaid : Prop := fnExactSplitFileUptoRow.holds Tryd.pinned (OpenSpec.upto fnExactSplitFileSpec)

end Rows
end Go.Proofs.YtpbjddiopfkgbaaDoor
