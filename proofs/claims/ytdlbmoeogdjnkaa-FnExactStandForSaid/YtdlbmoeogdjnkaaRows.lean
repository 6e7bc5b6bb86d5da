/-
  No cell of these rows narrows 'for every input' (looked for: loops, veiled, ifaces, maps, wideKeys, modest, calm, conditions, laid).
  DERIVED. THE GIVEN ROWS OF THIS SEAT. 10 by the template 'for every input the law returns true; each argument reads behind the call as it read before'; 0 by the template 'total and deterministic' (their statements: YtdlbmoeogdjnkaaTotals.lean).
  GIVEN WITH THE SEED: the statements are not yours to turn. If you find one false, say at which input.
  Laid BY PROGRAM, IN A SANDBOX (cutbox-rows.mjs): the forced cells as the released guide's own fill.sh prints them over the translation 4a3f58737efb38c2… (all of the seat's roots in one cut). By AI agents, Wed Nov 11 2026. No macro, syntax, notation, axiom, sorry.
-/
import Derived.Test.YtdlbmoeogdjnkaaChecked
import GoSem.Claim
import GoSem.ClaimJoined
import GoSem.ClaimMapViews
import Derived.JoinedTies
import Derived.KernelRfl
namespace Go.Proofs.Ytdlbmoeogdjnkaa
/- THE CELL 'sum', in the pinned program and in every row, IS THE sha256 OF THE DUMP (.gsa) THAT YtdlbmoeogdjnkaaProg.lean LOADS. Nothing in Lean hashes anything: it is a label: what it is worth is what the hold of that sum in a sandbox is worth. -/
noncomputable def Try.pinned : Pinned := { name := "ytdlbmoeogdjnkaa", sum := "4a3f58737efb38c2864df6d37958ab53434e0a402a6d30e5a407c7629d4dce0d", checked := Try.checked }
namespace Rows
def none {H : Type} : Left H := { results := [], args := [] }

/-- 'laws.FnExactIsClerk': WHATEVER THE INPUT: true; the input reads as it did. -/
def fnExactIsClerkSpec : ChangeSpec := { name := "fnExactIsClerk", fn := fun _ => fun
  | [d] => { results := [.lit (.bool true)], args := [d] }
  | _ => none }
def fnExactIsClerkRow : OpenClaim := { program := "ytdlbmoeogdjnkaa", sum := "4a3f58737efb38c2864df6d37958ab53434e0a402a6d30e5a407c7629d4dce0d", func := "loop.example/g01035/laws.FnExactIsClerk", spec := "fnExactIsClerk", apart := false }
def FnExactIsClerkSaid : Prop := fnExactIsClerkRow.holds Try.pinned (OpenSpec.ofChange fnExactIsClerkSpec)

/-- ITS FALSE NEIGHBOUR: 'it returns false'. Refute it at one input. -/
def fnExactIsClerkWrong : ChangeSpec := { name := "fnExactIsClerk", fn := fun _ => fun
  | [d] => { results := [.lit (.bool false)], args := [d] }
  | _ => none }
def FnExactIsClerkWrongFalsely : Prop := fnExactIsClerkRow.holds Try.pinned (OpenSpec.ofChange fnExactIsClerkWrong)

/-- 'laws.FnExactAreClerks': WHATEVER THE INPUT: true; the input reads as it did. -/
def fnExactAreClerksSpec : ChangeSpec := { name := "fnExactAreClerks", fn := fun _ => fun
  | [d] => { results := [.lit (.bool true)], args := [d] }
  | _ => none }
def fnExactAreClerksRow : OpenClaim := { program := "ytdlbmoeogdjnkaa", sum := "4a3f58737efb38c2864df6d37958ab53434e0a402a6d30e5a407c7629d4dce0d", func := "loop.example/g01035/laws.FnExactAreClerks", spec := "fnExactAreClerks", unfollowed := true, recurses := true, apart := false }
def FnExactAreClerksSaid : Prop := fnExactAreClerksRow.holds Try.pinned (OpenSpec.ofChange fnExactAreClerksSpec)

/-- ITS FALSE NEIGHBOUR: 'it returns false'. Refute it at one input. -/
def fnExactAreClerksWrong : ChangeSpec := { name := "fnExactAreClerks", fn := fun _ => fun
  | [d] => { results := [.lit (.bool false)], args := [d] }
  | _ => none }
def FnExactAreClerksWrongFalsely : Prop := fnExactAreClerksRow.holds Try.pinned (OpenSpec.ofChange fnExactAreClerksWrong)

/-- 'laws.FnExactRightsOn': WHATEVER THE INPUT: true; the input reads as it did. -/
def fnExactRightsOnSpec : ChangeSpec := { name := "fnExactRightsOn", fn := fun _ => fun
  | [d1, d2, d3] => { results := [.lit (.bool true)], args := [d1, d2, d3] }
  | _ => none }
def fnExactRightsOnRow : OpenClaim := { program := "ytdlbmoeogdjnkaa", sum := "4a3f58737efb38c2864df6d37958ab53434e0a402a6d30e5a407c7629d4dce0d", func := "loop.example/g01035/laws.FnExactRightsOn", spec := "fnExactRightsOn", unfollowed := true, recurses := true, apart := false }
def FnExactRightsOnSaid : Prop := fnExactRightsOnRow.holds Try.pinned (OpenSpec.ofChange fnExactRightsOnSpec)

/-- ITS FALSE NEIGHBOUR: 'it returns false'. Refute it at one input. -/
def fnExactRightsOnWrong : ChangeSpec := { name := "fnExactRightsOn", fn := fun _ => fun
  | [d1, d2, d3] => { results := [.lit (.bool false)], args := [d1, d2, d3] }
  | _ => none }
def FnExactRightsOnWrongFalsely : Prop := fnExactRightsOnRow.holds Try.pinned (OpenSpec.ofChange fnExactRightsOnWrong)

/-- 'laws.FnExactMayDo': WHATEVER THE INPUT: true; the input reads as it did. -/
def fnExactMayDoSpec : ChangeSpec := { name := "fnExactMayDo", fn := fun _ => fun
  | [d1, d2, d3, d4] => { results := [.lit (.bool true)], args := [d1, d2, d3, d4] }
  | _ => none }
def fnExactMayDoRow : OpenClaim := { program := "ytdlbmoeogdjnkaa", sum := "4a3f58737efb38c2864df6d37958ab53434e0a402a6d30e5a407c7629d4dce0d", func := "loop.example/g01035/laws.FnExactMayDo", spec := "fnExactMayDo", unfollowed := true, recurses := true, apart := false }
def FnExactMayDoSaid : Prop := fnExactMayDoRow.holds Try.pinned (OpenSpec.ofChange fnExactMayDoSpec)

/-- ITS FALSE NEIGHBOUR: 'it returns false'. Refute it at one input. -/
def fnExactMayDoWrong : ChangeSpec := { name := "fnExactMayDo", fn := fun _ => fun
  | [d1, d2, d3, d4] => { results := [.lit (.bool false)], args := [d1, d2, d3, d4] }
  | _ => none }
def FnExactMayDoWrongFalsely : Prop := fnExactMayDoRow.holds Try.pinned (OpenSpec.ofChange fnExactMayDoWrong)

/-- 'laws.FnExactWhoMay': WHATEVER THE INPUT: true; the input reads as it did. -/
def fnExactWhoMaySpec : ChangeSpec := { name := "fnExactWhoMay", fn := fun _ => fun
  | [d1, d2, d3] => { results := [.lit (.bool true)], args := [d1, d2, d3] }
  | _ => none }
def fnExactWhoMayRow : OpenClaim := { program := "ytdlbmoeogdjnkaa", sum := "4a3f58737efb38c2864df6d37958ab53434e0a402a6d30e5a407c7629d4dce0d", func := "loop.example/g01035/laws.FnExactWhoMay", spec := "fnExactWhoMay", unfollowed := true, recurses := true, apart := false }
def FnExactWhoMaySaid : Prop := fnExactWhoMayRow.holds Try.pinned (OpenSpec.ofChange fnExactWhoMaySpec)

/-- ITS FALSE NEIGHBOUR: 'it returns false'. Refute it at one input. -/
def fnExactWhoMayWrong : ChangeSpec := { name := "fnExactWhoMay", fn := fun _ => fun
  | [d1, d2, d3] => { results := [.lit (.bool false)], args := [d1, d2, d3] }
  | _ => none }
def FnExactWhoMayWrongFalsely : Prop := fnExactWhoMayRow.holds Try.pinned (OpenSpec.ofChange fnExactWhoMayWrong)

/-- 'laws.FnExactPairFor': WHATEVER THE INPUT: true; the input reads as it did. -/
def fnExactPairForSpec : ChangeSpec := { name := "fnExactPairFor", fn := fun _ => fun
  | [d1, d2] => { results := [.lit (.bool true)], args := [d1, d2] }
  | _ => none }
def fnExactPairForRow : OpenClaim := { program := "ytdlbmoeogdjnkaa", sum := "4a3f58737efb38c2864df6d37958ab53434e0a402a6d30e5a407c7629d4dce0d", func := "loop.example/g01035/laws.FnExactPairFor", spec := "fnExactPairFor", unfollowed := true, recurses := true, apart := false }
def FnExactPairForSaid : Prop := fnExactPairForRow.holds Try.pinned (OpenSpec.ofChange fnExactPairForSpec)

/-- ITS FALSE NEIGHBOUR: 'it returns false'. Refute it at one input. -/
def fnExactPairForWrong : ChangeSpec := { name := "fnExactPairFor", fn := fun _ => fun
  | [d1, d2] => { results := [.lit (.bool false)], args := [d1, d2] }
  | _ => none }
def FnExactPairForWrongFalsely : Prop := fnExactPairForRow.holds Try.pinned (OpenSpec.ofChange fnExactPairForWrong)

/-- 'laws.FnExactGiveRight': WHATEVER THE INPUT: true; the input reads as it did. -/
def fnExactGiveRightSpec : ChangeSpec := { name := "fnExactGiveRight", fn := fun _ => fun
  | [d1, d2, d3] => { results := [.lit (.bool true)], args := [d1, d2, d3] }
  | _ => none }
def fnExactGiveRightRow : OpenClaim := { program := "ytdlbmoeogdjnkaa", sum := "4a3f58737efb38c2864df6d37958ab53434e0a402a6d30e5a407c7629d4dce0d", func := "loop.example/g01035/laws.FnExactGiveRight", spec := "fnExactGiveRight", unfollowed := true, recurses := true, apart := false }
def FnExactGiveRightSaid : Prop := fnExactGiveRightRow.holds Try.pinned (OpenSpec.ofChange fnExactGiveRightSpec)

/-- ITS FALSE NEIGHBOUR: 'it returns false'. Refute it at one input. -/
def fnExactGiveRightWrong : ChangeSpec := { name := "fnExactGiveRight", fn := fun _ => fun
  | [d1, d2, d3] => { results := [.lit (.bool false)], args := [d1, d2, d3] }
  | _ => none }
def FnExactGiveRightWrongFalsely : Prop := fnExactGiveRightRow.holds Try.pinned (OpenSpec.ofChange fnExactGiveRightWrong)

/-- 'laws.FnExactTakeRight': WHATEVER THE INPUT: true; the input reads as it did. -/
def fnExactTakeRightSpec : ChangeSpec := { name := "fnExactTakeRight", fn := fun _ => fun
  | [d1, d2, d3] => { results := [.lit (.bool true)], args := [d1, d2, d3] }
  | _ => none }
def fnExactTakeRightRow : OpenClaim := { program := "ytdlbmoeogdjnkaa", sum := "4a3f58737efb38c2864df6d37958ab53434e0a402a6d30e5a407c7629d4dce0d", func := "loop.example/g01035/laws.FnExactTakeRight", spec := "fnExactTakeRight", unfollowed := true, recurses := true, apart := false }
def FnExactTakeRightSaid : Prop := fnExactTakeRightRow.holds Try.pinned (OpenSpec.ofChange fnExactTakeRightSpec)

/-- ITS FALSE NEIGHBOUR: 'it returns false'. Refute it at one input. -/
def fnExactTakeRightWrong : ChangeSpec := { name := "fnExactTakeRight", fn := fun _ => fun
  | [d1, d2, d3] => { results := [.lit (.bool false)], args := [d1, d2, d3] }
  | _ => none }
def FnExactTakeRightWrongFalsely : Prop := fnExactTakeRightRow.holds Try.pinned (OpenSpec.ofChange fnExactTakeRightWrong)

/-- 'laws.FnExactDaysWithout': WHATEVER THE INPUT: true; the input reads as it did. -/
def fnExactDaysWithoutSpec : ChangeSpec := { name := "fnExactDaysWithout", fn := fun _ => fun
  | [d1, d2, d3, d4] => { results := [.lit (.bool true)], args := [d1, d2, d3, d4] }
  | _ => none }
def fnExactDaysWithoutRow : OpenClaim := { program := "ytdlbmoeogdjnkaa", sum := "4a3f58737efb38c2864df6d37958ab53434e0a402a6d30e5a407c7629d4dce0d", func := "loop.example/g01035/laws.FnExactDaysWithout", spec := "fnExactDaysWithout", unfollowed := true, recurses := true, apart := false }
def FnExactDaysWithoutSaid : Prop := fnExactDaysWithoutRow.holds Try.pinned (OpenSpec.ofChange fnExactDaysWithoutSpec)

/-- ITS FALSE NEIGHBOUR: 'it returns false'. Refute it at one input. -/
def fnExactDaysWithoutWrong : ChangeSpec := { name := "fnExactDaysWithout", fn := fun _ => fun
  | [d1, d2, d3, d4] => { results := [.lit (.bool false)], args := [d1, d2, d3, d4] }
  | _ => none }
def FnExactDaysWithoutWrongFalsely : Prop := fnExactDaysWithoutRow.holds Try.pinned (OpenSpec.ofChange fnExactDaysWithoutWrong)

/-- 'laws.FnExactStandFor': WHATEVER THE INPUT: true; the input reads as it did. -/
def fnExactStandForSpec : ChangeSpec := { name := "fnExactStandFor", fn := fun _ => fun
  | [d1, d2, d3] => { results := [.lit (.bool true)], args := [d1, d2, d3] }
  | _ => none }
def fnExactStandForRow : OpenClaim := { program := "ytdlbmoeogdjnkaa", sum := "4a3f58737efb38c2864df6d37958ab53434e0a402a6d30e5a407c7629d4dce0d", func := "loop.example/g01035/laws.FnExactStandFor", spec := "fnExactStandFor", unfollowed := true, recurses := true, apart := false }
def FnExactStandForSaid : Prop := fnExactStandForRow.holds Try.pinned (OpenSpec.ofChange fnExactStandForSpec)

/-- ITS FALSE NEIGHBOUR: 'it returns false'. Refute it at one input. -/
def fnExactStandForWrong : ChangeSpec := { name := "fnExactStandFor", fn := fun _ => fun
  | [d1, d2, d3] => { results := [.lit (.bool false)], args := [d1, d2, d3] }
  | _ => none }
def FnExactStandForWrongFalsely : Prop := fnExactStandForRow.holds Try.pinned (OpenSpec.ofChange fnExactStandForWrong)

/- THE SECOND FORM. 'bulk': how many values and letters a reading holds, each counted each time it is reached (what is shared counts as often as it is met; a slice's spare places count too). A statement '..UptoSaid' is the law's where the arguments, and the package variables that the reading takes, are together of bulk at most 1048576: NARROWER than '..Said'. Prove '..Said' where nothing that the law and all that it calls make is longer than what came in: it says more and counts as full. Else prove '..UptoSaid'. A law counts once. -/
mutual
def uptoBulk {H : Type} : DataW H → Nat
  | .lit (.string bytes) => bytes.length + 1
  | .lit _ => 1
  | .nil => 1
  | .ptr d => uptoBulk d + 1
  | .slice elems spare => uptoBulkAll elems + uptoBulkAll spare + 1
  | .agg parts => uptoBulkAll parts + 1
  | .iface _ d => uptoBulk d + 1
  | .map entries => uptoBulkEntries entries + 1
  | .held _ => 1
def uptoBulkAll {H : Type} : List (DataW H) → Nat
  | [] => 0
  | d :: r => uptoBulk d + uptoBulkAll r
def uptoBulkEntries {H : Type} : List (Lit × DataW H) → Nat
  | [] => 0
  | x :: r => uptoBulkEntry x + uptoBulkEntries r
def uptoBulkEntry {H : Type} : Lit × DataW H → Nat
  | (.string bytes, d) => bytes.length + uptoBulk d + 1
  | (_, d) => uptoBulk d + 1
 end
def uptoSmall : (H : Type) → List (DataW H) → Bool := fun _ ds => decide (uptoBulkAll ds ≤ 1048576)
def OpenSpec.upto (s : _root_.Go.ChangeSpec) : _root_.Go.OpenSpec := { _root_.Go.OpenSpec.ofChange s with cond := some uptoSmall }

/-- 'laws.FnExactIsClerk', WHERE WHAT IT READS IS OF BULK AT MOST 1048576: true; the input reads as it did. -/
def fnExactIsClerkUptoRow : OpenClaim := { program := "ytdlbmoeogdjnkaa", sum := "4a3f58737efb38c2864df6d37958ab53434e0a402a6d30e5a407c7629d4dce0d", func := "loop.example/g01035/laws.FnExactIsClerk", spec := "fnExactIsClerk", apart := false, narrowed := true }
def FnExactIsClerkUptoSaid : Prop := fnExactIsClerkUptoRow.holds Try.pinned (OpenSpec.upto fnExactIsClerkSpec)

/-- 'laws.FnExactAreClerks', WHERE WHAT IT READS IS OF BULK AT MOST 1048576: true; the input reads as it did. -/
def fnExactAreClerksUptoRow : OpenClaim := { program := "ytdlbmoeogdjnkaa", sum := "4a3f58737efb38c2864df6d37958ab53434e0a402a6d30e5a407c7629d4dce0d", func := "loop.example/g01035/laws.FnExactAreClerks", spec := "fnExactAreClerks", unfollowed := true, recurses := true, apart := false, narrowed := true }
def FnExactAreClerksUptoSaid : Prop := fnExactAreClerksUptoRow.holds Try.pinned (OpenSpec.upto fnExactAreClerksSpec)

/-- 'laws.FnExactRightsOn', WHERE WHAT IT READS IS OF BULK AT MOST 1048576: true; the input reads as it did. -/
def fnExactRightsOnUptoRow : OpenClaim := { program := "ytdlbmoeogdjnkaa", sum := "4a3f58737efb38c2864df6d37958ab53434e0a402a6d30e5a407c7629d4dce0d", func := "loop.example/g01035/laws.FnExactRightsOn", spec := "fnExactRightsOn", unfollowed := true, recurses := true, apart := false, narrowed := true }
def FnExactRightsOnUptoSaid : Prop := fnExactRightsOnUptoRow.holds Try.pinned (OpenSpec.upto fnExactRightsOnSpec)

/-- 'laws.FnExactMayDo', WHERE WHAT IT READS IS OF BULK AT MOST 1048576: true; the input reads as it did. -/
def fnExactMayDoUptoRow : OpenClaim := { program := "ytdlbmoeogdjnkaa", sum := "4a3f58737efb38c2864df6d37958ab53434e0a402a6d30e5a407c7629d4dce0d", func := "loop.example/g01035/laws.FnExactMayDo", spec := "fnExactMayDo", unfollowed := true, recurses := true, apart := false, narrowed := true }
def FnExactMayDoUptoSaid : Prop := fnExactMayDoUptoRow.holds Try.pinned (OpenSpec.upto fnExactMayDoSpec)

/-- 'laws.FnExactWhoMay', WHERE WHAT IT READS IS OF BULK AT MOST 1048576: true; the input reads as it did. -/
def fnExactWhoMayUptoRow : OpenClaim := { program := "ytdlbmoeogdjnkaa", sum := "4a3f58737efb38c2864df6d37958ab53434e0a402a6d30e5a407c7629d4dce0d", func := "loop.example/g01035/laws.FnExactWhoMay", spec := "fnExactWhoMay", unfollowed := true, recurses := true, apart := false, narrowed := true }
def FnExactWhoMayUptoSaid : Prop := fnExactWhoMayUptoRow.holds Try.pinned (OpenSpec.upto fnExactWhoMaySpec)

/-- 'laws.FnExactPairFor', WHERE WHAT IT READS IS OF BULK AT MOST 1048576: true; the input reads as it did. -/
def fnExactPairForUptoRow : OpenClaim := { program := "ytdlbmoeogdjnkaa", sum := "4a3f58737efb38c2864df6d37958ab53434e0a402a6d30e5a407c7629d4dce0d", func := "loop.example/g01035/laws.FnExactPairFor", spec := "fnExactPairFor", unfollowed := true, recurses := true, apart := false, narrowed := true }
def FnExactPairForUptoSaid : Prop := fnExactPairForUptoRow.holds Try.pinned (OpenSpec.upto fnExactPairForSpec)

/-- 'laws.FnExactGiveRight', WHERE WHAT IT READS IS OF BULK AT MOST 1048576: true; the input reads as it did. -/
def fnExactGiveRightUptoRow : OpenClaim := { program := "ytdlbmoeogdjnkaa", sum := "4a3f58737efb38c2864df6d37958ab53434e0a402a6d30e5a407c7629d4dce0d", func := "loop.example/g01035/laws.FnExactGiveRight", spec := "fnExactGiveRight", unfollowed := true, recurses := true, apart := false, narrowed := true }
def FnExactGiveRightUptoSaid : Prop := fnExactGiveRightUptoRow.holds Try.pinned (OpenSpec.upto fnExactGiveRightSpec)

/-- 'laws.FnExactTakeRight', WHERE WHAT IT READS IS OF BULK AT MOST 1048576: true; the input reads as it did. -/
def fnExactTakeRightUptoRow : OpenClaim := { program := "ytdlbmoeogdjnkaa", sum := "4a3f58737efb38c2864df6d37958ab53434e0a402a6d30e5a407c7629d4dce0d", func := "loop.example/g01035/laws.FnExactTakeRight", spec := "fnExactTakeRight", unfollowed := true, recurses := true, apart := false, narrowed := true }
def FnExactTakeRightUptoSaid : Prop := fnExactTakeRightUptoRow.holds Try.pinned (OpenSpec.upto fnExactTakeRightSpec)

/-- 'laws.FnExactDaysWithout', WHERE WHAT IT READS IS OF BULK AT MOST 1048576: true; the input reads as it did. -/
def fnExactDaysWithoutUptoRow : OpenClaim := { program := "ytdlbmoeogdjnkaa", sum := "4a3f58737efb38c2864df6d37958ab53434e0a402a6d30e5a407c7629d4dce0d", func := "loop.example/g01035/laws.FnExactDaysWithout", spec := "fnExactDaysWithout", unfollowed := true, recurses := true, apart := false, narrowed := true }
def FnExactDaysWithoutUptoSaid : Prop := fnExactDaysWithoutUptoRow.holds Try.pinned (OpenSpec.upto fnExactDaysWithoutSpec)

/-- 'laws.FnExactStandFor', WHERE WHAT IT READS IS OF BULK AT MOST 1048576: true; the input reads as it did. -/
def fnExactStandForUptoRow : OpenClaim := { program := "ytdlbmoeogdjnkaa", sum := "4a3f58737efb38c2864df6d37958ab53434e0a402a6d30e5a407c7629d4dce0d", func := "loop.example/g01035/laws.FnExactStandFor", spec := "fnExactStandFor", unfollowed := true, recurses := true, apart := false, narrowed := true }
def FnExactStandForUptoSaid : Prop := fnExactStandForUptoRow.holds Try.pinned (OpenSpec.upto fnExactStandForSpec)

end Rows
end Go.Proofs.Ytdlbmoeogdjnkaa
