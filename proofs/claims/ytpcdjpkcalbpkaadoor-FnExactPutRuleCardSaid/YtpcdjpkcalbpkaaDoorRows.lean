/-
  NARROWER THAN 'FOR EVERY INPUT', by the rows' own cells (each row's printed sentence says how): FnExactPutRule: ifaces, laid · FnExactDropRule: ifaces, laid · FnExactScheduleText: laid · FnExactParseSchedule: laid.
  DERIVED. THE GIVEN ROWS OF THIS SEAT. 4 by the template 'for every input the law returns true; each argument reads behind the call as it read before'; 0 by the template 'total and deterministic' (their statements: YtpcdjpkcalbpkaaDoorTotals.lean).
  GIVEN WITH THE SEED: the statements are not yours to turn. If you find one false, say at which input.
  Laid BY PROGRAM, IN A SANDBOX (cutbox-rows.mjs): the forced cells as the released guide's own fill.sh prints them over the translation ec3b558dc434d2ea… (all of the seat's roots in one cut). By AI agents, Wed Nov 11 2026. No macro, syntax, notation, axiom, sorry.
-/
import Derived.Test.YtpcdjpkcalbpkaaDoorChecked
import GoSem.Claim
import GoSem.ClaimJoined
import GoSem.ClaimMapViews
import Derived.JoinedTies
import Derived.KernelRfl
namespace Go.Proofs.YtpcdjpkcalbpkaaDoor
/- THE CELL 'sum', in the pinned program and in every row, IS THE sha256 OF THE DUMP (.gsa) THAT YtpcdjpkcalbpkaaDoorProg.lean LOADS. Nothing in Lean hashes anything: it is a label: what it is worth is what the hold of that sum in a sandbox is worth. -/
noncomputable def Tryd.pinned : Pinned := { name := "ytpcdjpkcalbpkaadoor", sum := "ec3b558dc434d2ea9f0f883d74b8f8685aef7264bcf51308d53c4679b7849ef9", checked := Tryd.checked }
namespace Rows
def none {H : Type} : Left H := { results := [], args := [] }

/- WHAT THE LISTED PACKAGE-LEVEL VARIABLES READ AS WHEN THE CALL BEGINS. Each datum BY PROGRAM (the guide's laid-datum.mjs) off the statement by which the dump's own 'gosem.cut.vars' lays the variable. In a bare row this is a premise. The card (YtpcdjpkcalbpkaaDoorCards.lean) ties it to the program's text. -/
def laid_loop_example_g01035_impl_errNoSchedule {H : Type} : DataW H := .iface "*errors.errorString" (.ptr (.agg [.lit (.string [116, 104, 101, 32, 108, 105, 115, 116, 32, 105, 115, 32, 110, 111, 32, 115, 99, 104, 101, 100, 117, 108, 101])]))
def laid_loop_example_g01035_impl_errNoRule {H : Type} : DataW H := .iface "*errors.errorString" (.ptr (.agg [.lit (.string [116, 104, 101, 32, 115, 99, 104, 101, 100, 117, 108, 101, 32, 104, 97, 115, 32, 110, 111, 32, 114, 117, 108, 101, 32, 102, 111, 114, 32, 116, 104, 101, 32, 115, 101, 114, 105, 101, 115, 32, 97, 110, 100, 32, 116, 104, 101, 32, 101, 118, 101, 110, 116])]))
def laid_math_bits_deBruijn32tab {H : Type} : DataW H := .agg [.lit (.int .u8 0), .lit (.int .u8 1), .lit (.int .u8 28), .lit (.int .u8 2), .lit (.int .u8 29), .lit (.int .u8 14), .lit (.int .u8 24), .lit (.int .u8 3), .lit (.int .u8 30), .lit (.int .u8 22), .lit (.int .u8 20), .lit (.int .u8 15), .lit (.int .u8 25), .lit (.int .u8 17), .lit (.int .u8 4), .lit (.int .u8 8), .lit (.int .u8 31), .lit (.int .u8 27), .lit (.int .u8 13), .lit (.int .u8 23), .lit (.int .u8 21), .lit (.int .u8 19), .lit (.int .u8 16), .lit (.int .u8 7), .lit (.int .u8 26), .lit (.int .u8 12), .lit (.int .u8 18), .lit (.int .u8 6), .lit (.int .u8 11), .lit (.int .u8 5), .lit (.int .u8 10), .lit (.int .u8 9)]
def laid_math_bits_deBruijn64tab {H : Type} : DataW H := .agg [.lit (.int .u8 0), .lit (.int .u8 1), .lit (.int .u8 56), .lit (.int .u8 2), .lit (.int .u8 57), .lit (.int .u8 49), .lit (.int .u8 28), .lit (.int .u8 3), .lit (.int .u8 61), .lit (.int .u8 58), .lit (.int .u8 42), .lit (.int .u8 50), .lit (.int .u8 38), .lit (.int .u8 29), .lit (.int .u8 17), .lit (.int .u8 4), .lit (.int .u8 62), .lit (.int .u8 47), .lit (.int .u8 59), .lit (.int .u8 36), .lit (.int .u8 45), .lit (.int .u8 43), .lit (.int .u8 51), .lit (.int .u8 22), .lit (.int .u8 53), .lit (.int .u8 39), .lit (.int .u8 33), .lit (.int .u8 30), .lit (.int .u8 24), .lit (.int .u8 18), .lit (.int .u8 12), .lit (.int .u8 5), .lit (.int .u8 63), .lit (.int .u8 55), .lit (.int .u8 48), .lit (.int .u8 27), .lit (.int .u8 60), .lit (.int .u8 41), .lit (.int .u8 37), .lit (.int .u8 16), .lit (.int .u8 46), .lit (.int .u8 35), .lit (.int .u8 44), .lit (.int .u8 21), .lit (.int .u8 52), .lit (.int .u8 32), .lit (.int .u8 23), .lit (.int .u8 11), .lit (.int .u8 54), .lit (.int .u8 26), .lit (.int .u8 40), .lit (.int .u8 15), .lit (.int .u8 34), .lit (.int .u8 20), .lit (.int .u8 31), .lit (.int .u8 10), .lit (.int .u8 25), .lit (.int .u8 14), .lit (.int .u8 19), .lit (.int .u8 9), .lit (.int .u8 13), .lit (.int .u8 8), .lit (.int .u8 7), .lit (.int .u8 6)]
def laid_internal_strconv_uint64pow10 {H : Type} : DataW H := .agg [.lit (.int .u64 1), .lit (.int .u64 10), .lit (.int .u64 100), .lit (.int .u64 1000), .lit (.int .u64 10000), .lit (.int .u64 100000), .lit (.int .u64 1000000), .lit (.int .u64 10000000), .lit (.int .u64 100000000), .lit (.int .u64 1000000000), .lit (.int .u64 10000000000), .lit (.int .u64 100000000000), .lit (.int .u64 1000000000000), .lit (.int .u64 10000000000000), .lit (.int .u64 100000000000000), .lit (.int .u64 1000000000000000), .lit (.int .u64 10000000000000000), .lit (.int .u64 100000000000000000), .lit (.int .u64 1000000000000000000), .lit (.int .u64 10000000000000000000)]

/-- 'laws.FnExactPutRule': WHATEVER THE INPUT: true; the input reads as it did. -/
def fnExactPutRuleSpec : ChangeSpec := { name := "fnExactPutRule", vars := ["loop.example/g01035/impl.errNoSchedule", "loop.example/g01035/impl.errNoRule"], fn := fun _ => fun
  | [d1, d2, g1, g2] => { results := [.lit (.bool true)], args := [d1, d2], vars := [g1, g2] }
  | _ => none }
def fnExactPutRuleRow : OpenClaim := { program := "ytpcdjpkcalbpkaadoor", sum := "ec3b558dc434d2ea9f0f883d74b8f8685aef7264bcf51308d53c4679b7849ef9", func := "loop.example/g01035/laws.FnExactPutRule", spec := "fnExactPutRule", inPlace := ["internal/reflectlite.TypeOf", "slices.overlaps[loop.example/g01035/impl.Rule]"], unfollowed := true, recurses := true, named := ["loop.example/g01035/impl.errNoSchedule", "loop.example/g01035/impl.errNoRule"], ifaces := true, apart := false, laid := [("loop.example/g01035/impl.errNoSchedule", laid_loop_example_g01035_impl_errNoSchedule), ("loop.example/g01035/impl.errNoRule", laid_loop_example_g01035_impl_errNoRule)] }
def FnExactPutRuleSaid : Prop := fnExactPutRuleRow.holds Tryd.pinned (OpenSpec.ofChange fnExactPutRuleSpec)

/-- ITS FALSE NEIGHBOUR: 'it returns false'. Refute it at one input. -/
def fnExactPutRuleWrong : ChangeSpec := { name := "fnExactPutRule", vars := ["loop.example/g01035/impl.errNoSchedule", "loop.example/g01035/impl.errNoRule"], fn := fun _ => fun
  | [d1, d2, g1, g2] => { results := [.lit (.bool false)], args := [d1, d2], vars := [g1, g2] }
  | _ => none }
def FnExactPutRuleWrongFalsely : Prop := fnExactPutRuleRow.holds Tryd.pinned (OpenSpec.ofChange fnExactPutRuleWrong)

/-- 'laws.FnExactDropRule': WHATEVER THE INPUT: true; the input reads as it did. -/
def fnExactDropRuleSpec : ChangeSpec := { name := "fnExactDropRule", vars := ["loop.example/g01035/impl.errNoSchedule", "loop.example/g01035/impl.errNoRule"], fn := fun _ => fun
  | [d1, d2, d3, g1, g2] => { results := [.lit (.bool true)], args := [d1, d2, d3], vars := [g1, g2] }
  | _ => none }
def fnExactDropRuleRow : OpenClaim := { program := "ytpcdjpkcalbpkaadoor", sum := "ec3b558dc434d2ea9f0f883d74b8f8685aef7264bcf51308d53c4679b7849ef9", func := "loop.example/g01035/laws.FnExactDropRule", spec := "fnExactDropRule", named := ["loop.example/g01035/impl.errNoSchedule", "loop.example/g01035/impl.errNoRule"], ifaces := true, apart := false, laid := [("loop.example/g01035/impl.errNoSchedule", laid_loop_example_g01035_impl_errNoSchedule), ("loop.example/g01035/impl.errNoRule", laid_loop_example_g01035_impl_errNoRule)] }
def FnExactDropRuleSaid : Prop := fnExactDropRuleRow.holds Tryd.pinned (OpenSpec.ofChange fnExactDropRuleSpec)

/-- ITS FALSE NEIGHBOUR: 'it returns false'. Refute it at one input. -/
def fnExactDropRuleWrong : ChangeSpec := { name := "fnExactDropRule", vars := ["loop.example/g01035/impl.errNoSchedule", "loop.example/g01035/impl.errNoRule"], fn := fun _ => fun
  | [d1, d2, d3, g1, g2] => { results := [.lit (.bool false)], args := [d1, d2, d3], vars := [g1, g2] }
  | _ => none }
def FnExactDropRuleWrongFalsely : Prop := fnExactDropRuleRow.holds Tryd.pinned (OpenSpec.ofChange fnExactDropRuleWrong)

/-- 'laws.FnExactScheduleText': WHATEVER THE INPUT: true; the input reads as it did. -/
def fnExactScheduleTextSpec : ChangeSpec := { name := "fnExactScheduleText", fn := fun _ => fun
  | [d] => { results := [.lit (.bool true)], args := [d] }
  | _ => none }
def fnExactScheduleTextRow : OpenClaim := { program := "ytpcdjpkcalbpkaadoor", sum := "ec3b558dc434d2ea9f0f883d74b8f8685aef7264bcf51308d53c4679b7849ef9", func := "loop.example/g01035/laws.FnExactScheduleText", spec := "fnExactScheduleText", inPlace := ["internal/abi.NoEscape", "internal/bytealg.MakeNoZero"], recurses := true, named := ["internal/strconv.uint64pow10", "math/bits.deBruijn32tab", "math/bits.deBruijn64tab"], apart := false, laid := [("math/bits.deBruijn32tab", laid_math_bits_deBruijn32tab), ("math/bits.deBruijn64tab", laid_math_bits_deBruijn64tab), ("internal/strconv.uint64pow10", laid_internal_strconv_uint64pow10)] }
def FnExactScheduleTextSaid : Prop := fnExactScheduleTextRow.holds Tryd.pinned (OpenSpec.ofChange fnExactScheduleTextSpec)

/-- ITS FALSE NEIGHBOUR: 'it returns false'. Refute it at one input. -/
def fnExactScheduleTextWrong : ChangeSpec := { name := "fnExactScheduleText", fn := fun _ => fun
  | [d] => { results := [.lit (.bool false)], args := [d] }
  | _ => none }
def FnExactScheduleTextWrongFalsely : Prop := fnExactScheduleTextRow.holds Tryd.pinned (OpenSpec.ofChange fnExactScheduleTextWrong)

/-- 'laws.FnExactParseSchedule': WHATEVER THE INPUT: true; the input reads as it did. -/
def fnExactParseScheduleSpec : ChangeSpec := { name := "fnExactParseSchedule", fn := fun _ => fun
  | [d] => { results := [.lit (.bool true)], args := [d] }
  | _ => none }
def fnExactParseScheduleRow : OpenClaim := { program := "ytpcdjpkcalbpkaadoor", sum := "ec3b558dc434d2ea9f0f883d74b8f8685aef7264bcf51308d53c4679b7849ef9", func := "loop.example/g01035/laws.FnExactParseSchedule", spec := "fnExactParseSchedule", inPlace := ["internal/bytealg.IndexByteString", "internal/bytealg.IndexString"], unfollowed := true, recurses := true, named := ["internal/bytealg.MaxLen", "internal/strconv.uint64pow10", "math/bits.deBruijn32tab", "math/bits.deBruijn64tab"], apart := false, laid := [("math/bits.deBruijn32tab", laid_math_bits_deBruijn32tab), ("math/bits.deBruijn64tab", laid_math_bits_deBruijn64tab), ("internal/strconv.uint64pow10", laid_internal_strconv_uint64pow10)] }
def FnExactParseScheduleSaid : Prop := fnExactParseScheduleRow.holds Tryd.pinned (OpenSpec.ofChange fnExactParseScheduleSpec)

/-- ITS FALSE NEIGHBOUR: 'it returns false'. Refute it at one input. -/
def fnExactParseScheduleWrong : ChangeSpec := { name := "fnExactParseSchedule", fn := fun _ => fun
  | [d] => { results := [.lit (.bool false)], args := [d] }
  | _ => none }
def FnExactParseScheduleWrongFalsely : Prop := fnExactParseScheduleRow.holds Tryd.pinned (OpenSpec.ofChange fnExactParseScheduleWrong)

/- THE SECOND FORM. 'bulk': how many values and letters a reading holds, each counted each time it is reached (what is shared counts as often as it is met; a slice's spare places count too). A statement '..UptoSaid' is the law's where the arguments, and the package variables that the reading takes, are together of bulk at most 1048576: NARROWER than '..Said'. Prove '..Said' where nothing that the law and all that it calls make is longer than what came in: it says more and counts as full. Else prove '..UptoSaid'. A law counts once. -/
mutual
def uptoBulk {H : Type} : DataW H → Nat
  | .lit (.string bytes) => bytes.length + 1
  | .lit _ => 1
  | .nil => 1
  | .ptr d => uptoBulk d + 1
  | .slice elems spare => uptoBulkAll elems + uptoBulkAll spare + 1
  | .agg parts => uptoBulkAll parts + 1
  | .iface _ d => uptoBulk d + 1
  | .map entries => uptoBulkEntries entries + 1
  | .held _ => 1
def uptoBulkAll {H : Type} : List (DataW H) → Nat
  | [] => 0
  | d :: r => uptoBulk d + uptoBulkAll r
def uptoBulkEntries {H : Type} : List (Lit × DataW H) → Nat
  | [] => 0
  | x :: r => uptoBulkEntry x + uptoBulkEntries r
def uptoBulkEntry {H : Type} : Lit × DataW H → Nat
  | (.string bytes, d) => bytes.length + uptoBulk d + 1
  | (_, d) => uptoBulk d + 1
 end
def uptoSmall : (H : Type) → List (DataW H) → Bool := fun _ ds => decide (uptoBulkAll ds ≤ 1048576)
def OpenSpec.upto (s : _root_.Go.ChangeSpec) : _root_.Go.OpenSpec := { _root_.Go.OpenSpec.ofChange s with cond := some uptoSmall }

/-- 'laws.FnExactPutRule', WHERE WHAT IT READS IS OF BULK AT MOST 1048576: true; the input reads as it did. -/
def fnExactPutRuleUptoRow : OpenClaim := { program := "ytpcdjpkcalbpkaadoor", sum := "ec3b558dc434d2ea9f0f883d74b8f8685aef7264bcf51308d53c4679b7849ef9", func := "loop.example/g01035/laws.FnExactPutRule", spec := "fnExactPutRule", inPlace := ["internal/reflectlite.TypeOf", "slices.overlaps[loop.example/g01035/impl.Rule]"], unfollowed := true, recurses := true, named := ["loop.example/g01035/impl.errNoSchedule", "loop.example/g01035/impl.errNoRule"], ifaces := true, apart := false, laid := [("loop.example/g01035/impl.errNoSchedule", laid_loop_example_g01035_impl_errNoSchedule), ("loop.example/g01035/impl.errNoRule", laid_loop_example_g01035_impl_errNoRule)], narrowed := true }
def FnExactPutRuleUptoSaid : Prop := fnExactPutRuleUptoRow.holds Tryd.pinned (OpenSpec.upto fnExactPutRuleSpec)

/-- 'laws.FnExactDropRule', WHERE WHAT IT READS IS OF BULK AT MOST 1048576: true; the input reads as it did. -/
def fnExactDropRuleUptoRow : OpenClaim := { program := "ytpcdjpkcalbpkaadoor", sum := "ec3b558dc434d2ea9f0f883d74b8f8685aef7264bcf51308d53c4679b7849ef9", func := "loop.example/g01035/laws.FnExactDropRule", spec := "fnExactDropRule", named := ["loop.example/g01035/impl.errNoSchedule", "loop.example/g01035/impl.errNoRule"], ifaces := true, apart := false, laid := [("loop.example/g01035/impl.errNoSchedule", laid_loop_example_g01035_impl_errNoSchedule), ("loop.example/g01035/impl.errNoRule", laid_loop_example_g01035_impl_errNoRule)], narrowed := true }
def FnExactDropRuleUptoSaid : Prop := fnExactDropRuleUptoRow.holds Tryd.pinned (OpenSpec.upto fnExactDropRuleSpec)

/-- 'laws.FnExactScheduleText', WHERE WHAT IT READS IS OF BULK AT MOST 1048576: true; the input reads as it did. -/
def fnExactScheduleTextUptoRow : OpenClaim := { program := "ytpcdjpkcalbpkaadoor", sum := "ec3b558dc434d2ea9f0f883d74b8f8685aef7264bcf51308d53c4679b7849ef9", func := "loop.example/g01035/laws.FnExactScheduleText", spec := "fnExactScheduleText", inPlace := ["internal/abi.NoEscape", "internal/bytealg.MakeNoZero"], recurses := true, named := ["internal/strconv.uint64pow10", "math/bits.deBruijn32tab", "math/bits.deBruijn64tab"], apart := false, laid := [("math/bits.deBruijn32tab", laid_math_bits_deBruijn32tab), ("math/bits.deBruijn64tab", laid_math_bits_deBruijn64tab), ("internal/strconv.uint64pow10", laid_internal_strconv_uint64pow10)], narrowed := true }
def FnExactScheduleTextUptoSaid : Prop := fnExactScheduleTextUptoRow.holds Tryd.pinned (OpenSpec.upto fnExactScheduleTextSpec)

/-- 'laws.FnExactParseSchedule', WHERE WHAT IT READS IS OF BULK AT MOST 1048576: true; the input reads as it did. -/
def fnExactParseScheduleUptoRow : OpenClaim := { program := "ytpcdjpkcalbpkaadoor", sum := "ec3b558dc434d2ea9f0f883d74b8f8685aef7264bcf51308d53c4679b7849ef9", func := "loop.example/g01035/laws.FnExactParseSchedule", spec := "fnExactParseSchedule", inPlace := ["internal/bytealg.IndexByteString", "internal/bytealg.IndexString"], unfollowed := true, recurses := true, named := ["internal/bytealg.MaxLen", "internal/strconv.uint64pow10", "math/bits.deBruijn32tab", "math/bits.deBruijn64tab"], apart := false, laid := [("math/bits.deBruijn32tab", laid_math_bits_deBruijn32tab), ("math/bits.deBruijn64tab", laid_math_bits_deBruijn64tab), ("internal/strconv.uint64pow10", laid_internal_strconv_uint64pow10)], narrowed := true }
def FnExactParseScheduleUptoSaid : Prop := fnExactParseScheduleUptoRow.holds Tryd.pinned (OpenSpec.upto fnExactParseScheduleSpec)

end Rows
end Go.Proofs.YtpcdjpkcalbpkaaDoor
