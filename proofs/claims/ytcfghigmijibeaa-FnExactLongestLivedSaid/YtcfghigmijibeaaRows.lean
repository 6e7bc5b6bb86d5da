/-
  No cell of these rows narrows 'for every input' (looked for: loops, veiled, ifaces, maps, wideKeys, modest, calm, conditions, laid).
  DERIVED. THE GIVEN ROWS OF THIS SEAT. 10 by the template 'for every input the law returns true; each argument reads behind the call as it read before'; 0 by the template 'total and deterministic' (their statements: YtcfghigmijibeaaTotals.lean).
  GIVEN WITH THE SEED: the statements are not yours to turn. If you find one false, say at which input.
  Laid BY PROGRAM, IN A SANDBOX (cutbox-rows.mjs): the forced cells as the released guide's own fill.sh prints them over the translation 7fb3674cf6f64469… (all of the seat's roots in one cut). By AI agents, Wed Nov 11 2026. No macro, syntax, notation, axiom, sorry.
-/
import Derived.Test.YtcfghigmijibeaaChecked
import GoSem.Claim
import GoSem.ClaimJoined
import GoSem.ClaimMapViews
import Derived.JoinedTies
import Derived.KernelRfl
namespace Go.Proofs.Ytcfghigmijibeaa
/- THE CELL 'sum', in the pinned program and in every row, IS THE sha256 OF THE DUMP (.gsa) THAT YtcfghigmijibeaaProg.lean LOADS. Nothing in Lean hashes anything: it is a label: what it is worth is what the hold of that sum in a sandbox is worth. -/
noncomputable def Try.pinned : Pinned := { name := "ytcfghigmijibeaa", sum := "7fb3674cf6f6446923bb064407bc63769849a63584ce83ce1e2cf45e4a547f36", checked := Try.checked }
namespace Rows
def none {H : Type} : Left H := { results := [], args := [] }

/-- 'laws.FnExactAreFormats': WHATEVER THE INPUT: true; the input reads as it did. -/
def fnExactAreFormatsSpec : ChangeSpec := { name := "fnExactAreFormats", fn := fun _ => fun
  | [d] => { results := [.lit (.bool true)], args := [d] }
  | _ => none }
def fnExactAreFormatsRow : OpenClaim := { program := "ytcfghigmijibeaa", sum := "7fb3674cf6f6446923bb064407bc63769849a63584ce83ce1e2cf45e4a547f36", func := "loop.example/g01035/laws.FnExactAreFormats", spec := "fnExactAreFormats", unfollowed := true, recurses := true, apart := false }
def FnExactAreFormatsSaid : Prop := fnExactAreFormatsRow.holds Try.pinned (OpenSpec.ofChange fnExactAreFormatsSpec)

/-- ITS FALSE NEIGHBOUR: 'it returns false'. Refute it at one input. -/
def fnExactAreFormatsWrong : ChangeSpec := { name := "fnExactAreFormats", fn := fun _ => fun
  | [d] => { results := [.lit (.bool false)], args := [d] }
  | _ => none }
def FnExactAreFormatsWrongFalsely : Prop := fnExactAreFormatsRow.holds Try.pinned (OpenSpec.ofChange fnExactAreFormatsWrong)

/-- 'laws.FnExactAreCopies': WHATEVER THE INPUT: true; the input reads as it did. -/
def fnExactAreCopiesSpec : ChangeSpec := { name := "fnExactAreCopies", fn := fun _ => fun
  | [d1, d2] => { results := [.lit (.bool true)], args := [d1, d2] }
  | _ => none }
def fnExactAreCopiesRow : OpenClaim := { program := "ytcfghigmijibeaa", sum := "7fb3674cf6f6446923bb064407bc63769849a63584ce83ce1e2cf45e4a547f36", func := "loop.example/g01035/laws.FnExactAreCopies", spec := "fnExactAreCopies", unfollowed := true, recurses := true, apart := false }
def FnExactAreCopiesSaid : Prop := fnExactAreCopiesRow.holds Try.pinned (OpenSpec.ofChange fnExactAreCopiesSpec)

/-- ITS FALSE NEIGHBOUR: 'it returns false'. Refute it at one input. -/
def fnExactAreCopiesWrong : ChangeSpec := { name := "fnExactAreCopies", fn := fun _ => fun
  | [d1, d2] => { results := [.lit (.bool false)], args := [d1, d2] }
  | _ => none }
def FnExactAreCopiesWrongFalsely : Prop := fnExactAreCopiesRow.holds Try.pinned (OpenSpec.ofChange fnExactAreCopiesWrong)

/-- 'laws.FnExactIsReadable': WHATEVER THE INPUT: true; the input reads as it did. -/
def fnExactIsReadableSpec : ChangeSpec := { name := "fnExactIsReadable", fn := fun _ => fun
  | [d1, d2, d3] => { results := [.lit (.bool true)], args := [d1, d2, d3] }
  | _ => none }
def fnExactIsReadableRow : OpenClaim := { program := "ytcfghigmijibeaa", sum := "7fb3674cf6f6446923bb064407bc63769849a63584ce83ce1e2cf45e4a547f36", func := "loop.example/g01035/laws.FnExactIsReadable", spec := "fnExactIsReadable", unfollowed := true, recurses := true, apart := false }
def FnExactIsReadableSaid : Prop := fnExactIsReadableRow.holds Try.pinned (OpenSpec.ofChange fnExactIsReadableSpec)

/-- ITS FALSE NEIGHBOUR: 'it returns false'. Refute it at one input. -/
def fnExactIsReadableWrong : ChangeSpec := { name := "fnExactIsReadable", fn := fun _ => fun
  | [d1, d2, d3] => { results := [.lit (.bool false)], args := [d1, d2, d3] }
  | _ => none }
def FnExactIsReadableWrongFalsely : Prop := fnExactIsReadableRow.holds Try.pinned (OpenSpec.ofChange fnExactIsReadableWrong)

/-- 'laws.FnExactLostRecords': WHATEVER THE INPUT: true; the input reads as it did. -/
def fnExactLostRecordsSpec : ChangeSpec := { name := "fnExactLostRecords", fn := fun _ => fun
  | [d1, d2, d3] => { results := [.lit (.bool true)], args := [d1, d2, d3] }
  | _ => none }
def fnExactLostRecordsRow : OpenClaim := { program := "ytcfghigmijibeaa", sum := "7fb3674cf6f6446923bb064407bc63769849a63584ce83ce1e2cf45e4a547f36", func := "loop.example/g01035/laws.FnExactLostRecords", spec := "fnExactLostRecords", unfollowed := true, recurses := true, apart := false }
def FnExactLostRecordsSaid : Prop := fnExactLostRecordsRow.holds Try.pinned (OpenSpec.ofChange fnExactLostRecordsSpec)

/-- ITS FALSE NEIGHBOUR: 'it returns false'. Refute it at one input. -/
def fnExactLostRecordsWrong : ChangeSpec := { name := "fnExactLostRecords", fn := fun _ => fun
  | [d1, d2, d3] => { results := [.lit (.bool false)], args := [d1, d2, d3] }
  | _ => none }
def FnExactLostRecordsWrongFalsely : Prop := fnExactLostRecordsRow.holds Try.pinned (OpenSpec.ofChange fnExactLostRecordsWrong)

/-- 'laws.FnExactWaysTo': WHATEVER THE INPUT: true; the input reads as it did. -/
def fnExactWaysToSpec : ChangeSpec := { name := "fnExactWaysTo", fn := fun _ => fun
  | [d1, d2, d3] => { results := [.lit (.bool true)], args := [d1, d2, d3] }
  | _ => none }
def fnExactWaysToRow : OpenClaim := { program := "ytcfghigmijibeaa", sum := "7fb3674cf6f6446923bb064407bc63769849a63584ce83ce1e2cf45e4a547f36", func := "loop.example/g01035/laws.FnExactWaysTo", spec := "fnExactWaysTo", unfollowed := true, recurses := true, apart := false }
def FnExactWaysToSaid : Prop := fnExactWaysToRow.holds Try.pinned (OpenSpec.ofChange fnExactWaysToSpec)

/-- ITS FALSE NEIGHBOUR: 'it returns false'. Refute it at one input. -/
def fnExactWaysToWrong : ChangeSpec := { name := "fnExactWaysTo", fn := fun _ => fun
  | [d1, d2, d3] => { results := [.lit (.bool false)], args := [d1, d2, d3] }
  | _ => none }
def FnExactWaysToWrongFalsely : Prop := fnExactWaysToRow.holds Try.pinned (OpenSpec.ofChange fnExactWaysToWrong)

/-- 'laws.FnExactShortestPath': WHATEVER THE INPUT: true; the input reads as it did. -/
def fnExactShortestPathSpec : ChangeSpec := { name := "fnExactShortestPath", fn := fun _ => fun
  | [d1, d2, d3, d4] => { results := [.lit (.bool true)], args := [d1, d2, d3, d4] }
  | _ => none }
def fnExactShortestPathRow : OpenClaim := { program := "ytcfghigmijibeaa", sum := "7fb3674cf6f6446923bb064407bc63769849a63584ce83ce1e2cf45e4a547f36", func := "loop.example/g01035/laws.FnExactShortestPath", spec := "fnExactShortestPath", unfollowed := true, recurses := true, apart := false }
def FnExactShortestPathSaid : Prop := fnExactShortestPathRow.holds Try.pinned (OpenSpec.ofChange fnExactShortestPathSpec)

/-- ITS FALSE NEIGHBOUR: 'it returns false'. Refute it at one input. -/
def fnExactShortestPathWrong : ChangeSpec := { name := "fnExactShortestPath", fn := fun _ => fun
  | [d1, d2, d3, d4] => { results := [.lit (.bool false)], args := [d1, d2, d3, d4] }
  | _ => none }
def FnExactShortestPathWrongFalsely : Prop := fnExactShortestPathRow.holds Try.pinned (OpenSpec.ofChange fnExactShortestPathWrong)

/-- 'laws.FnExactLongestLived': WHATEVER THE INPUT: true; the input reads as it did. -/
def fnExactLongestLivedSpec : ChangeSpec := { name := "fnExactLongestLived", fn := fun _ => fun
  | [d1, d2, d3] => { results := [.lit (.bool true)], args := [d1, d2, d3] }
  | _ => none }
def fnExactLongestLivedRow : OpenClaim := { program := "ytcfghigmijibeaa", sum := "7fb3674cf6f6446923bb064407bc63769849a63584ce83ce1e2cf45e4a547f36", func := "loop.example/g01035/laws.FnExactLongestLived", spec := "fnExactLongestLived", unfollowed := true, recurses := true, apart := false }
def FnExactLongestLivedSaid : Prop := fnExactLongestLivedRow.holds Try.pinned (OpenSpec.ofChange fnExactLongestLivedSpec)

/-- ITS FALSE NEIGHBOUR: 'it returns false'. Refute it at one input. -/
def fnExactLongestLivedWrong : ChangeSpec := { name := "fnExactLongestLived", fn := fun _ => fun
  | [d1, d2, d3] => { results := [.lit (.bool false)], args := [d1, d2, d3] }
  | _ => none }
def FnExactLongestLivedWrongFalsely : Prop := fnExactLongestLivedRow.holds Try.pinned (OpenSpec.ofChange fnExactLongestLivedWrong)

/-- 'laws.FnExactUnseen': WHATEVER THE INPUT: true; the input reads as it did. -/
def fnExactUnseenSpec : ChangeSpec := { name := "fnExactUnseen", fn := fun _ => fun
  | [d1, d2, d3, d4] => { results := [.lit (.bool true)], args := [d1, d2, d3, d4] }
  | _ => none }
def fnExactUnseenRow : OpenClaim := { program := "ytcfghigmijibeaa", sum := "7fb3674cf6f6446923bb064407bc63769849a63584ce83ce1e2cf45e4a547f36", func := "loop.example/g01035/laws.FnExactUnseen", spec := "fnExactUnseen", unfollowed := true, recurses := true, apart := false }
def FnExactUnseenSaid : Prop := fnExactUnseenRow.holds Try.pinned (OpenSpec.ofChange fnExactUnseenSpec)

/-- ITS FALSE NEIGHBOUR: 'it returns false'. Refute it at one input. -/
def fnExactUnseenWrong : ChangeSpec := { name := "fnExactUnseen", fn := fun _ => fun
  | [d1, d2, d3, d4] => { results := [.lit (.bool false)], args := [d1, d2, d3, d4] }
  | _ => none }
def FnExactUnseenWrongFalsely : Prop := fnExactUnseenRow.holds Try.pinned (OpenSpec.ofChange fnExactUnseenWrong)

/-- 'laws.FnExactSizeByFormat': WHATEVER THE INPUT: true; the input reads as it did. -/
def fnExactSizeByFormatSpec : ChangeSpec := { name := "fnExactSizeByFormat", fn := fun _ => fun
  | [d1, d2] => { results := [.lit (.bool true)], args := [d1, d2] }
  | _ => none }
def fnExactSizeByFormatRow : OpenClaim := { program := "ytcfghigmijibeaa", sum := "7fb3674cf6f6446923bb064407bc63769849a63584ce83ce1e2cf45e4a547f36", func := "loop.example/g01035/laws.FnExactSizeByFormat", spec := "fnExactSizeByFormat", unfollowed := true, recurses := true, apart := false }
def FnExactSizeByFormatSaid : Prop := fnExactSizeByFormatRow.holds Try.pinned (OpenSpec.ofChange fnExactSizeByFormatSpec)

/-- ITS FALSE NEIGHBOUR: 'it returns false'. Refute it at one input. -/
def fnExactSizeByFormatWrong : ChangeSpec := { name := "fnExactSizeByFormat", fn := fun _ => fun
  | [d1, d2] => { results := [.lit (.bool false)], args := [d1, d2] }
  | _ => none }
def FnExactSizeByFormatWrongFalsely : Prop := fnExactSizeByFormatRow.holds Try.pinned (OpenSpec.ofChange fnExactSizeByFormatWrong)

/-- 'laws.FnExactLastReadable': WHATEVER THE INPUT: true; the input reads as it did. -/
def fnExactLastReadableSpec : ChangeSpec := { name := "fnExactLastReadable", fn := fun _ => fun
  | [d1, d2] => { results := [.lit (.bool true)], args := [d1, d2] }
  | _ => none }
def fnExactLastReadableRow : OpenClaim := { program := "ytcfghigmijibeaa", sum := "7fb3674cf6f6446923bb064407bc63769849a63584ce83ce1e2cf45e4a547f36", func := "loop.example/g01035/laws.FnExactLastReadable", spec := "fnExactLastReadable", unfollowed := true, recurses := true, apart := false }
def FnExactLastReadableSaid : Prop := fnExactLastReadableRow.holds Try.pinned (OpenSpec.ofChange fnExactLastReadableSpec)

/-- ITS FALSE NEIGHBOUR: 'it returns false'. Refute it at one input. -/
def fnExactLastReadableWrong : ChangeSpec := { name := "fnExactLastReadable", fn := fun _ => fun
  | [d1, d2] => { results := [.lit (.bool false)], args := [d1, d2] }
  | _ => none }
def FnExactLastReadableWrongFalsely : Prop := fnExactLastReadableRow.holds Try.pinned (OpenSpec.ofChange fnExactLastReadableWrong)

/- THE SECOND FORM. 'bulk': how many values and letters a reading holds, each counted each time it is reached (what is shared counts as often as it is met; a slice's spare places count too). A statement '..UptoSaid' is the law's where the arguments, and the package variables that the reading takes, are together of bulk at most 1048576: NARROWER than '..Said'. Prove '..Said' where nothing that the law and all that it calls make is longer than what came in: it says more and counts as full. Else prove '..UptoSaid'. A law counts once. -/
mutual
def uptoBulk {H : Type} : DataW H → Nat
  | .lit (.string bytes) => bytes.length + 1
  | .lit _ => 1
  | .nil => 1
  | .ptr d => uptoBulk d + 1
  | .slice elems spare => uptoBulkAll elems + uptoBulkAll spare + 1
  | .agg parts => uptoBulkAll parts + 1
  | .iface _ d => uptoBulk d + 1
  | .map entries => uptoBulkEntries entries + 1
  | .held _ => 1
def uptoBulkAll {H : Type} : List (DataW H) → Nat
  | [] => 0
  | d :: r => uptoBulk d + uptoBulkAll r
def uptoBulkEntries {H : Type} : List (Lit × DataW H) → Nat
  | [] => 0
  | x :: r => uptoBulkEntry x + uptoBulkEntries r
def uptoBulkEntry {H : Type} : Lit × DataW H → Nat
  | (.string bytes, d) => bytes.length + uptoBulk d + 1
  | (_, d) => uptoBulk d + 1
 end
def uptoSmall : (H : Type) → List (DataW H) → Bool := fun _ ds => decide (uptoBulkAll ds ≤ 1048576)
def OpenSpec.upto (s : _root_.Go.ChangeSpec) : _root_.Go.OpenSpec := { _root_.Go.OpenSpec.ofChange s with cond := some uptoSmall }

/-- 'laws.FnExactAreFormats', WHERE WHAT IT READS IS OF BULK AT MOST 1048576: true; the input reads as it did. -/
def fnExactAreFormatsUptoRow : OpenClaim := { program := "ytcfghigmijibeaa", sum := "7fb3674cf6f6446923bb064407bc63769849a63584ce83ce1e2cf45e4a547f36", func := "loop.example/g01035/laws.FnExactAreFormats", spec := "fnExactAreFormats", unfollowed := true, recurses := true, apart := false, narrowed := true }
def FnExactAreFormatsUptoSaid : Prop := fnExactAreFormatsUptoRow.holds Try.pinned (OpenSpec.upto fnExactAreFormatsSpec)

/-- 'laws.FnExactAreCopies', WHERE WHAT IT READS IS OF BULK AT MOST 1048576: true; the input reads as it did. -/
def fnExactAreCopiesUptoRow : OpenClaim := { program := "ytcfghigmijibeaa", sum := "7fb3674cf6f6446923bb064407bc63769849a63584ce83ce1e2cf45e4a547f36", func := "loop.example/g01035/laws.FnExactAreCopies", spec := "fnExactAreCopies", unfollowed := true, recurses := true, apart := false, narrowed := true }
def FnExactAreCopiesUptoSaid : Prop := fnExactAreCopiesUptoRow.holds Try.pinned (OpenSpec.upto fnExactAreCopiesSpec)

/-- 'laws.FnExactIsReadable', WHERE WHAT IT READS IS OF BULK AT MOST 1048576: true; the input reads as it did. -/
def fnExactIsReadableUptoRow : OpenClaim := { program := "ytcfghigmijibeaa", sum := "7fb3674cf6f6446923bb064407bc63769849a63584ce83ce1e2cf45e4a547f36", func := "loop.example/g01035/laws.FnExactIsReadable", spec := "fnExactIsReadable", unfollowed := true, recurses := true, apart := false, narrowed := true }
def FnExactIsReadableUptoSaid : Prop := fnExactIsReadableUptoRow.holds Try.pinned (OpenSpec.upto fnExactIsReadableSpec)

/-- 'laws.FnExactLostRecords', WHERE WHAT IT READS IS OF BULK AT MOST 1048576: true; the input reads as it did. -/
def fnExactLostRecordsUptoRow : OpenClaim := { program := "ytcfghigmijibeaa", sum := "7fb3674cf6f6446923bb064407bc63769849a63584ce83ce1e2cf45e4a547f36", func := "loop.example/g01035/laws.FnExactLostRecords", spec := "fnExactLostRecords", unfollowed := true, recurses := true, apart := false, narrowed := true }
def FnExactLostRecordsUptoSaid : Prop := fnExactLostRecordsUptoRow.holds Try.pinned (OpenSpec.upto fnExactLostRecordsSpec)

/-- 'laws.FnExactWaysTo', WHERE WHAT IT READS IS OF BULK AT MOST 1048576: true; the input reads as it did. -/
def fnExactWaysToUptoRow : OpenClaim := { program := "ytcfghigmijibeaa", sum := "7fb3674cf6f6446923bb064407bc63769849a63584ce83ce1e2cf45e4a547f36", func := "loop.example/g01035/laws.FnExactWaysTo", spec := "fnExactWaysTo", unfollowed := true, recurses := true, apart := false, narrowed := true }
def FnExactWaysToUptoSaid : Prop := fnExactWaysToUptoRow.holds Try.pinned (OpenSpec.upto fnExactWaysToSpec)

/-- 'laws.FnExactShortestPath', WHERE WHAT IT READS IS OF BULK AT MOST 1048576: true; the input reads as it did. -/
def fnExactShortestPathUptoRow : OpenClaim := { program := "ytcfghigmijibeaa", sum := "7fb3674cf6f6446923bb064407bc63769849a63584ce83ce1e2cf45e4a547f36", func := "loop.example/g01035/laws.FnExactShortestPath", spec := "fnExactShortestPath", unfollowed := true, recurses := true, apart := false, narrowed := true }
def FnExactShortestPathUptoSaid : Prop := fnExactShortestPathUptoRow.holds Try.pinned (OpenSpec.upto fnExactShortestPathSpec)

/-- 'laws.FnExactLongestLived', WHERE WHAT IT READS IS OF BULK AT MOST 1048576: true; the input reads as it did. -/
def fnExactLongestLivedUptoRow : OpenClaim := { program := "ytcfghigmijibeaa", sum := "7fb3674cf6f6446923bb064407bc63769849a63584ce83ce1e2cf45e4a547f36", func := "loop.example/g01035/laws.FnExactLongestLived", spec := "fnExactLongestLived", unfollowed := true, recurses := true, apart := false, narrowed := true }
def FnExactLongestLivedUptoSaid : Prop := fnExactLongestLivedUptoRow.holds Try.pinned (OpenSpec.upto fnExactLongestLivedSpec)

/-- 'laws.FnExactUnseen', WHERE WHAT IT READS IS OF BULK AT MOST 1048576: true; the input reads as it did. -/
def fnExactUnseenUptoRow : OpenClaim := { program := "ytcfghigmijibeaa", sum := "7fb3674cf6f6446923bb064407bc63769849a63584ce83ce1e2cf45e4a547f36", func := "loop.example/g01035/laws.FnExactUnseen", spec := "fnExactUnseen", unfollowed := true, recurses := true, apart := false, narrowed := true }
def FnExactUnseenUptoSaid : Prop := fnExactUnseenUptoRow.holds Try.pinned (OpenSpec.upto fnExactUnseenSpec)

/-- 'laws.FnExactSizeByFormat', WHERE WHAT IT READS IS OF BULK AT MOST 1048576: true; the input reads as it did. -/
def fnExactSizeByFormatUptoRow : OpenClaim := { program := "ytcfghigmijibeaa", sum := "7fb3674cf6f6446923bb064407bc63769849a63584ce83ce1e2cf45e4a547f36", func := "loop.example/g01035/laws.FnExactSizeByFormat", spec := "fnExactSizeByFormat", unfollowed := true, recurses := true, apart := false, narrowed := true }
def FnExactSizeByFormatUptoSaid : Prop := fnExactSizeByFormatUptoRow.holds Try.pinned (OpenSpec.upto fnExactSizeByFormatSpec)

/-- 'laws.FnExactLastReadable', WHERE WHAT IT READS IS OF BULK AT MOST 1048576: true; the input reads as it did. -/
def fnExactLastReadableUptoRow : OpenClaim := { program := "ytcfghigmijibeaa", sum := "7fb3674cf6f6446923bb064407bc63769849a63584ce83ce1e2cf45e4a547f36", func := "loop.example/g01035/laws.FnExactLastReadable", spec := "fnExactLastReadable", unfollowed := true, recurses := true, apart := false, narrowed := true }
def FnExactLastReadableUptoSaid : Prop := fnExactLastReadableUptoRow.holds Try.pinned (OpenSpec.upto fnExactLastReadableSpec)

end Rows
end Go.Proofs.Ytcfghigmijibeaa
