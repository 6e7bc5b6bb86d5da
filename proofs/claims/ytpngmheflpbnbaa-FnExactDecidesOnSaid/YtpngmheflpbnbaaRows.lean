/-
  No cell of these rows narrows 'for every input' (looked for: loops, veiled, ifaces, maps, wideKeys, modest, calm, conditions, laid).
  DERIVED. THE GIVEN ROWS OF THIS SEAT. 9 by the template 'for every input the law returns true; each argument reads behind the call as it read before'; 0 by the template 'total and deterministic' (their statements: YtpngmheflpbnbaaTotals.lean).
  GIVEN WITH THE SEED: the statements are not yours to turn. If you find one false, say at which input.
  Laid BY PROGRAM, IN A SANDBOX (cutbox-rows.mjs): the forced cells as the released guide's own fill.sh prints them over the translation 55715daefa6bb107… (all of the seat's roots in one cut). By AI agents, Wed Nov 11 2026. No macro, syntax, notation, axiom, sorry.
-/
import Derived.Test.YtpngmheflpbnbaaChecked
import GoSem.Claim
import GoSem.ClaimJoined
import GoSem.ClaimMapViews
import Derived.JoinedTies
import Derived.KernelRfl
namespace Go.Proofs.Ytpngmheflpbnbaa
/- THE CELL 'sum', in the pinned program and in every row, IS THE sha256 OF THE DUMP (.gsa) THAT YtpngmheflpbnbaaProg.lean LOADS. Nothing in Lean hashes anything: it is a label: what it is worth is what the hold of that sum in a sandbox is worth. -/
noncomputable def Try.pinned : Pinned := { name := "ytpngmheflpbnbaa", sum := "55715daefa6bb107e67a2caaa04085b362588eee8e69748a860d26b9624d6699", checked := Try.checked }
namespace Rows
def none {H : Type} : Left H := { results := [], args := [] }

/-- 'laws.FnExactAreVersions': WHATEVER THE INPUT: true; the input reads as it did. -/
def fnExactAreVersionsSpec : ChangeSpec := { name := "fnExactAreVersions", fn := fun _ => fun
  | [d] => { results := [.lit (.bool true)], args := [d] }
  | _ => none }
def fnExactAreVersionsRow : OpenClaim := { program := "ytpngmheflpbnbaa", sum := "55715daefa6bb107e67a2caaa04085b362588eee8e69748a860d26b9624d6699", func := "loop.example/g01035/laws.FnExactAreVersions", spec := "fnExactAreVersions", apart := false }
def FnExactAreVersionsSaid : Prop := fnExactAreVersionsRow.holds Try.pinned (OpenSpec.ofChange fnExactAreVersionsSpec)

/-- ITS FALSE NEIGHBOUR: 'it returns false'. Refute it at one input. -/
def fnExactAreVersionsWrong : ChangeSpec := { name := "fnExactAreVersions", fn := fun _ => fun
  | [d] => { results := [.lit (.bool false)], args := [d] }
  | _ => none }
def FnExactAreVersionsWrongFalsely : Prop := fnExactAreVersionsRow.holds Try.pinned (OpenSpec.ofChange fnExactAreVersionsWrong)

/-- 'laws.FnExactVersionOn': WHATEVER THE INPUT: true; the input reads as it did. -/
def fnExactVersionOnSpec : ChangeSpec := { name := "fnExactVersionOn", fn := fun _ => fun
  | [d1, d2] => { results := [.lit (.bool true)], args := [d1, d2] }
  | _ => none }
def fnExactVersionOnRow : OpenClaim := { program := "ytpngmheflpbnbaa", sum := "55715daefa6bb107e67a2caaa04085b362588eee8e69748a860d26b9624d6699", func := "loop.example/g01035/laws.FnExactVersionOn", spec := "fnExactVersionOn", unfollowed := true, recurses := true, apart := false }
def FnExactVersionOnSaid : Prop := fnExactVersionOnRow.holds Try.pinned (OpenSpec.ofChange fnExactVersionOnSpec)

/-- ITS FALSE NEIGHBOUR: 'it returns false'. Refute it at one input. -/
def fnExactVersionOnWrong : ChangeSpec := { name := "fnExactVersionOn", fn := fun _ => fun
  | [d1, d2] => { results := [.lit (.bool false)], args := [d1, d2] }
  | _ => none }
def FnExactVersionOnWrongFalsely : Prop := fnExactVersionOnRow.holds Try.pinned (OpenSpec.ofChange fnExactVersionOnWrong)

/-- 'laws.FnExactDecidesOn': WHATEVER THE INPUT: true; the input reads as it did. -/
def fnExactDecidesOnSpec : ChangeSpec := { name := "fnExactDecidesOn", fn := fun _ => fun
  | [d1, d2, d3] => { results := [.lit (.bool true)], args := [d1, d2, d3] }
  | _ => none }
def fnExactDecidesOnRow : OpenClaim := { program := "ytpngmheflpbnbaa", sum := "55715daefa6bb107e67a2caaa04085b362588eee8e69748a860d26b9624d6699", func := "loop.example/g01035/laws.FnExactDecidesOn", spec := "fnExactDecidesOn", unfollowed := true, recurses := true, apart := false }
def FnExactDecidesOnSaid : Prop := fnExactDecidesOnRow.holds Try.pinned (OpenSpec.ofChange fnExactDecidesOnSpec)

/-- ITS FALSE NEIGHBOUR: 'it returns false'. Refute it at one input. -/
def fnExactDecidesOnWrong : ChangeSpec := { name := "fnExactDecidesOn", fn := fun _ => fun
  | [d1, d2, d3] => { results := [.lit (.bool false)], args := [d1, d2, d3] }
  | _ => none }
def FnExactDecidesOnWrongFalsely : Prop := fnExactDecidesOnRow.holds Try.pinned (OpenSpec.ofChange fnExactDecidesOnWrong)

/-- 'laws.FnExactDueOn': WHATEVER THE INPUT: true; the input reads as it did. -/
def fnExactDueOnSpec : ChangeSpec := { name := "fnExactDueOn", fn := fun _ => fun
  | [d1, d2, d3] => { results := [.lit (.bool true)], args := [d1, d2, d3] }
  | _ => none }
def fnExactDueOnRow : OpenClaim := { program := "ytpngmheflpbnbaa", sum := "55715daefa6bb107e67a2caaa04085b362588eee8e69748a860d26b9624d6699", func := "loop.example/g01035/laws.FnExactDueOn", spec := "fnExactDueOn", unfollowed := true, recurses := true, apart := false }
def FnExactDueOnSaid : Prop := fnExactDueOnRow.holds Try.pinned (OpenSpec.ofChange fnExactDueOnSpec)

/-- ITS FALSE NEIGHBOUR: 'it returns false'. Refute it at one input. -/
def fnExactDueOnWrong : ChangeSpec := { name := "fnExactDueOn", fn := fun _ => fun
  | [d1, d2, d3] => { results := [.lit (.bool false)], args := [d1, d2, d3] }
  | _ => none }
def FnExactDueOnWrongFalsely : Prop := fnExactDueOnRow.holds Try.pinned (OpenSpec.ofChange fnExactDueOnWrong)

/-- 'laws.FnExactDueDays': WHATEVER THE INPUT: true; the input reads as it did. -/
def fnExactDueDaysSpec : ChangeSpec := { name := "fnExactDueDays", fn := fun _ => fun
  | [d1, d2] => { results := [.lit (.bool true)], args := [d1, d2] }
  | _ => none }
def fnExactDueDaysRow : OpenClaim := { program := "ytpngmheflpbnbaa", sum := "55715daefa6bb107e67a2caaa04085b362588eee8e69748a860d26b9624d6699", func := "loop.example/g01035/laws.FnExactDueDays", spec := "fnExactDueDays", apart := false }
def FnExactDueDaysSaid : Prop := fnExactDueDaysRow.holds Try.pinned (OpenSpec.ofChange fnExactDueDaysSpec)

/-- ITS FALSE NEIGHBOUR: 'it returns false'. Refute it at one input. -/
def fnExactDueDaysWrong : ChangeSpec := { name := "fnExactDueDays", fn := fun _ => fun
  | [d1, d2] => { results := [.lit (.bool false)], args := [d1, d2] }
  | _ => none }
def FnExactDueDaysWrongFalsely : Prop := fnExactDueDaysRow.holds Try.pinned (OpenSpec.ofChange fnExactDueDaysWrong)

/-- 'laws.FnExactFirstDueDay': WHATEVER THE INPUT: true; the input reads as it did. -/
def fnExactFirstDueDaySpec : ChangeSpec := { name := "fnExactFirstDueDay", fn := fun _ => fun
  | [d1, d2] => { results := [.lit (.bool true)], args := [d1, d2] }
  | _ => none }
def fnExactFirstDueDayRow : OpenClaim := { program := "ytpngmheflpbnbaa", sum := "55715daefa6bb107e67a2caaa04085b362588eee8e69748a860d26b9624d6699", func := "loop.example/g01035/laws.FnExactFirstDueDay", spec := "fnExactFirstDueDay", unfollowed := true, recurses := true, apart := false }
def FnExactFirstDueDaySaid : Prop := fnExactFirstDueDayRow.holds Try.pinned (OpenSpec.ofChange fnExactFirstDueDaySpec)

/-- ITS FALSE NEIGHBOUR: 'it returns false'. Refute it at one input. -/
def fnExactFirstDueDayWrong : ChangeSpec := { name := "fnExactFirstDueDay", fn := fun _ => fun
  | [d1, d2] => { results := [.lit (.bool false)], args := [d1, d2] }
  | _ => none }
def FnExactFirstDueDayWrongFalsely : Prop := fnExactFirstDueDayRow.holds Try.pinned (OpenSpec.ofChange fnExactFirstDueDayWrong)

/-- 'laws.FnExactChangedSeries': WHATEVER THE INPUT: true; the input reads as it did. -/
def fnExactChangedSeriesSpec : ChangeSpec := { name := "fnExactChangedSeries", fn := fun _ => fun
  | [d1, d2] => { results := [.lit (.bool true)], args := [d1, d2] }
  | _ => none }
def fnExactChangedSeriesRow : OpenClaim := { program := "ytpngmheflpbnbaa", sum := "55715daefa6bb107e67a2caaa04085b362588eee8e69748a860d26b9624d6699", func := "loop.example/g01035/laws.FnExactChangedSeries", spec := "fnExactChangedSeries", apart := false }
def FnExactChangedSeriesSaid : Prop := fnExactChangedSeriesRow.holds Try.pinned (OpenSpec.ofChange fnExactChangedSeriesSpec)

/-- ITS FALSE NEIGHBOUR: 'it returns false'. Refute it at one input. -/
def fnExactChangedSeriesWrong : ChangeSpec := { name := "fnExactChangedSeries", fn := fun _ => fun
  | [d1, d2] => { results := [.lit (.bool false)], args := [d1, d2] }
  | _ => none }
def FnExactChangedSeriesWrongFalsely : Prop := fnExactChangedSeriesRow.holds Try.pinned (OpenSpec.ofChange fnExactChangedSeriesWrong)

/-- 'laws.FnExactPutVersion': WHATEVER THE INPUT: true; the input reads as it did. -/
def fnExactPutVersionSpec : ChangeSpec := { name := "fnExactPutVersion", fn := fun _ => fun
  | [d1, d2] => { results := [.lit (.bool true)], args := [d1, d2] }
  | _ => none }
def fnExactPutVersionRow : OpenClaim := { program := "ytpngmheflpbnbaa", sum := "55715daefa6bb107e67a2caaa04085b362588eee8e69748a860d26b9624d6699", func := "loop.example/g01035/laws.FnExactPutVersion", spec := "fnExactPutVersion", inPlace := ["slices.overlaps[loop.example/g01035/impl.Version]"], unfollowed := true, recurses := true, apart := false }
def FnExactPutVersionSaid : Prop := fnExactPutVersionRow.holds Try.pinned (OpenSpec.ofChange fnExactPutVersionSpec)

/-- ITS FALSE NEIGHBOUR: 'it returns false'. Refute it at one input. -/
def fnExactPutVersionWrong : ChangeSpec := { name := "fnExactPutVersion", fn := fun _ => fun
  | [d1, d2] => { results := [.lit (.bool false)], args := [d1, d2] }
  | _ => none }
def FnExactPutVersionWrongFalsely : Prop := fnExactPutVersionRow.holds Try.pinned (OpenSpec.ofChange fnExactPutVersionWrong)

/-- 'laws.FnExactWhyOn': WHATEVER THE INPUT: true; the input reads as it did. -/
def fnExactWhyOnSpec : ChangeSpec := { name := "fnExactWhyOn", fn := fun _ => fun
  | [d1, d2, d3] => { results := [.lit (.bool true)], args := [d1, d2, d3] }
  | _ => none }
def fnExactWhyOnRow : OpenClaim := { program := "ytpngmheflpbnbaa", sum := "55715daefa6bb107e67a2caaa04085b362588eee8e69748a860d26b9624d6699", func := "loop.example/g01035/laws.FnExactWhyOn", spec := "fnExactWhyOn", unfollowed := true, recurses := true, apart := false }
def FnExactWhyOnSaid : Prop := fnExactWhyOnRow.holds Try.pinned (OpenSpec.ofChange fnExactWhyOnSpec)

/-- ITS FALSE NEIGHBOUR: 'it returns false'. Refute it at one input. -/
def fnExactWhyOnWrong : ChangeSpec := { name := "fnExactWhyOn", fn := fun _ => fun
  | [d1, d2, d3] => { results := [.lit (.bool false)], args := [d1, d2, d3] }
  | _ => none }
def FnExactWhyOnWrongFalsely : Prop := fnExactWhyOnRow.holds Try.pinned (OpenSpec.ofChange fnExactWhyOnWrong)

/- THE SECOND FORM. 'bulk': how many values and letters a reading holds, each counted each time it is reached (what is shared counts as often as it is met; a slice's spare places count too). A statement '..UptoSaid' is the law's where the arguments, and the package variables that the reading takes, are together of bulk at most 1048576: NARROWER than '..Said'. Prove '..Said' where nothing that the law and all that it calls make is longer than what came in: it says more and counts as full. Else prove '..UptoSaid'. A law counts once. -/
mutual
def uptoBulk {H : Type} : DataW H → Nat
  | .lit (.string bytes) => bytes.length + 1
  | .lit _ => 1
  | .nil => 1
  | .ptr d => uptoBulk d + 1
  | .slice elems spare => uptoBulkAll elems + uptoBulkAll spare + 1
  | .agg parts => uptoBulkAll parts + 1
  | .iface _ d => uptoBulk d + 1
  | .map entries => uptoBulkEntries entries + 1
  | .held _ => 1
def uptoBulkAll {H : Type} : List (DataW H) → Nat
  | [] => 0
  | d :: r => uptoBulk d + uptoBulkAll r
def uptoBulkEntries {H : Type} : List (Lit × DataW H) → Nat
  | [] => 0
  | x :: r => uptoBulkEntry x + uptoBulkEntries r
def uptoBulkEntry {H : Type} : Lit × DataW H → Nat
  | (.string bytes, d) => bytes.length + uptoBulk d + 1
  | (_, d) => uptoBulk d + 1
 end
def uptoSmall : (H : Type) → List (DataW H) → Bool := fun _ ds => decide (uptoBulkAll ds ≤ 1048576)
def OpenSpec.upto (s : _root_.Go.ChangeSpec) : _root_.Go.OpenSpec := { _root_.Go.OpenSpec.ofChange s with cond := some uptoSmall }

/-- 'laws.FnExactAreVersions', WHERE WHAT IT READS IS OF BULK AT MOST 1048576: true; the input reads as it did. -/
def fnExactAreVersionsUptoRow : OpenClaim := { program := "ytpngmheflpbnbaa", sum := "55715daefa6bb107e67a2caaa04085b362588eee8e69748a860d26b9624d6699", func := "loop.example/g01035/laws.FnExactAreVersions", spec := "fnExactAreVersions", apart := false, narrowed := true }
def FnExactAreVersionsUptoSaid : Prop := fnExactAreVersionsUptoRow.holds Try.pinned (OpenSpec.upto fnExactAreVersionsSpec)

/-- 'laws.FnExactVersionOn', WHERE WHAT IT READS IS OF BULK AT MOST 1048576: true; the input reads as it did. -/
def fnExactVersionOnUptoRow : OpenClaim := { program := "ytpngmheflpbnbaa", sum := "55715daefa6bb107e67a2caaa04085b362588eee8e69748a860d26b9624d6699", func := "loop.example/g01035/laws.FnExactVersionOn", spec := "fnExactVersionOn", unfollowed := true, recurses := true, apart := false, narrowed := true }
def FnExactVersionOnUptoSaid : Prop := fnExactVersionOnUptoRow.holds Try.pinned (OpenSpec.upto fnExactVersionOnSpec)

/-- 'laws.FnExactDecidesOn', WHERE WHAT IT READS IS OF BULK AT MOST 1048576: true; the input reads as it did. -/
def fnExactDecidesOnUptoRow : OpenClaim := { program := "ytpngmheflpbnbaa", sum := "55715daefa6bb107e67a2caaa04085b362588eee8e69748a860d26b9624d6699", func := "loop.example/g01035/laws.FnExactDecidesOn", spec := "fnExactDecidesOn", unfollowed := true, recurses := true, apart := false, narrowed := true }
def FnExactDecidesOnUptoSaid : Prop := fnExactDecidesOnUptoRow.holds Try.pinned (OpenSpec.upto fnExactDecidesOnSpec)

/-- 'laws.FnExactDueOn', WHERE WHAT IT READS IS OF BULK AT MOST 1048576: true; the input reads as it did. -/
def fnExactDueOnUptoRow : OpenClaim := { program := "ytpngmheflpbnbaa", sum := "55715daefa6bb107e67a2caaa04085b362588eee8e69748a860d26b9624d6699", func := "loop.example/g01035/laws.FnExactDueOn", spec := "fnExactDueOn", unfollowed := true, recurses := true, apart := false, narrowed := true }
def FnExactDueOnUptoSaid : Prop := fnExactDueOnUptoRow.holds Try.pinned (OpenSpec.upto fnExactDueOnSpec)

/-- 'laws.FnExactDueDays', WHERE WHAT IT READS IS OF BULK AT MOST 1048576: true; the input reads as it did. -/
def fnExactDueDaysUptoRow : OpenClaim := { program := "ytpngmheflpbnbaa", sum := "55715daefa6bb107e67a2caaa04085b362588eee8e69748a860d26b9624d6699", func := "loop.example/g01035/laws.FnExactDueDays", spec := "fnExactDueDays", apart := false, narrowed := true }
def FnExactDueDaysUptoSaid : Prop := fnExactDueDaysUptoRow.holds Try.pinned (OpenSpec.upto fnExactDueDaysSpec)

/-- 'laws.FnExactFirstDueDay', WHERE WHAT IT READS IS OF BULK AT MOST 1048576: true; the input reads as it did. -/
def fnExactFirstDueDayUptoRow : OpenClaim := { program := "ytpngmheflpbnbaa", sum := "55715daefa6bb107e67a2caaa04085b362588eee8e69748a860d26b9624d6699", func := "loop.example/g01035/laws.FnExactFirstDueDay", spec := "fnExactFirstDueDay", unfollowed := true, recurses := true, apart := false, narrowed := true }
def FnExactFirstDueDayUptoSaid : Prop := fnExactFirstDueDayUptoRow.holds Try.pinned (OpenSpec.upto fnExactFirstDueDaySpec)

/-- 'laws.FnExactChangedSeries', WHERE WHAT IT READS IS OF BULK AT MOST 1048576: true; the input reads as it did. -/
def fnExactChangedSeriesUptoRow : OpenClaim := { program := "ytpngmheflpbnbaa", sum := "55715daefa6bb107e67a2caaa04085b362588eee8e69748a860d26b9624d6699", func := "loop.example/g01035/laws.FnExactChangedSeries", spec := "fnExactChangedSeries", apart := false, narrowed := true }
def FnExactChangedSeriesUptoSaid : Prop := fnExactChangedSeriesUptoRow.holds Try.pinned (OpenSpec.upto fnExactChangedSeriesSpec)

/-- 'laws.FnExactPutVersion', WHERE WHAT IT READS IS OF BULK AT MOST 1048576: true; the input reads as it did. -/
def fnExactPutVersionUptoRow : OpenClaim := { program := "ytpngmheflpbnbaa", sum := "55715daefa6bb107e67a2caaa04085b362588eee8e69748a860d26b9624d6699", func := "loop.example/g01035/laws.FnExactPutVersion", spec := "fnExactPutVersion", inPlace := ["slices.overlaps[loop.example/g01035/impl.Version]"], unfollowed := true, recurses := true, apart := false, narrowed := true }
def FnExactPutVersionUptoSaid : Prop := fnExactPutVersionUptoRow.holds Try.pinned (OpenSpec.upto fnExactPutVersionSpec)

/-- 'laws.FnExactWhyOn', WHERE WHAT IT READS IS OF BULK AT MOST 1048576: true; the input reads as it did. -/
def fnExactWhyOnUptoRow : OpenClaim := { program := "ytpngmheflpbnbaa", sum := "55715daefa6bb107e67a2caaa04085b362588eee8e69748a860d26b9624d6699", func := "loop.example/g01035/laws.FnExactWhyOn", spec := "fnExactWhyOn", unfollowed := true, recurses := true, apart := false, narrowed := true }
def FnExactWhyOnUptoSaid : Prop := fnExactWhyOnUptoRow.holds Try.pinned (OpenSpec.upto fnExactWhyOnSpec)

end Rows
end Go.Proofs.Ytpngmheflpbnbaa
