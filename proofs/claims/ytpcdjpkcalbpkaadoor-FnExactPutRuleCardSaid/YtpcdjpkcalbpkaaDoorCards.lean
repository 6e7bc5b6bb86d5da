/-
  DERIVED. GIVEN WITH THE SEED: THE CARDS: each row of YtpcdjpkcalbpkaaDoorRows.lean that lists a variable, with what it lists TIED to the program's text (the seventh form; the later family's looks); each row that meets fmt, with fmt's text TOLD by the authors' own Lean function (tested against real Go, not proved from fmt's source: count such statements apart). THE CARD IS WHAT COUNTS. Prove the row's statement (the work); the ties are given (YtpcdjpkcalbpkaaDoorTie.lean); close each card by the builder's one call (the guide's Derived/Test/ToyasCard.lean, 'card_holds'). Laid BY PROGRAM, IN A SANDBOX (cutbox-door.mjs). By AI agents, Wed Nov 11 2026. No macro, syntax, notation, axiom, sorry.
-/
import Derived.Test.YtpcdjpkcalbpkaaDoorRows
import GoSem.ClaimSeven
namespace Go.Proofs.YtpcdjpkcalbpkaaDoor
namespace Rows

/-- THE TIED CARD OF 'laws.FnExactPutRule'. -/
def fnExactPutRuleCard : Claim7 := { stood := { row := fnExactPutRuleRow, standIns := [], harness := (true, "f97ce0fddde151033ab93d539ddcfe6d19bfd5058da0ec01e6da5fc8411e5a09"), looks := true }, kinds := [], alts := [], laidByText := true, laidKinds := [.sentinel, .sentinel], laidTests := true, laidLooks := .later }
def FnExactPutRuleCardSaid : Prop := Claim7.holds Tryd.pinned (.plain (OpenSpec.ofChange fnExactPutRuleSpec)) fnExactPutRuleCard

/-- THE TIED CARD OF 'laws.FnExactDropRule'. -/
def fnExactDropRuleCard : Claim7 := { stood := { row := fnExactDropRuleRow, standIns := [], harness := (true, "f97ce0fddde151033ab93d539ddcfe6d19bfd5058da0ec01e6da5fc8411e5a09"), looks := true }, kinds := [], alts := [], laidByText := true, laidKinds := [.sentinel, .sentinel], laidTests := true, laidLooks := .later }
def FnExactDropRuleCardSaid : Prop := Claim7.holds Tryd.pinned (.plain (OpenSpec.ofChange fnExactDropRuleSpec)) fnExactDropRuleCard

/-- THE TIED CARD OF 'laws.FnExactScheduleText'. -/
def fnExactScheduleTextCard : Claim7 := { stood := { row := fnExactScheduleTextRow, standIns := [], harness := (true, "f97ce0fddde151033ab93d539ddcfe6d19bfd5058da0ec01e6da5fc8411e5a09"), looks := true }, kinds := [], alts := [], laidByText := true, laidKinds := [.data, .data, .data], laidTests := true, laidLooks := .later }
def FnExactScheduleTextCardSaid : Prop := Claim7.holds Tryd.pinned (.plain (OpenSpec.ofChange fnExactScheduleTextSpec)) fnExactScheduleTextCard

/-- THE TIED CARD OF 'laws.FnExactParseSchedule'. -/
def fnExactParseScheduleCard : Claim7 := { stood := { row := fnExactParseScheduleRow, standIns := [], harness := (true, "f97ce0fddde151033ab93d539ddcfe6d19bfd5058da0ec01e6da5fc8411e5a09"), looks := true }, kinds := [], alts := [], laidByText := true, laidKinds := [.data, .data, .data], laidTests := true, laidLooks := .later }
def FnExactParseScheduleCardSaid : Prop := Claim7.holds Tryd.pinned (.plain (OpenSpec.ofChange fnExactParseScheduleSpec)) fnExactParseScheduleCard

/-- THE SECOND FORM's CARD OF 'laws.FnExactPutRule'. -/
def fnExactPutRuleUptoCard : Claim7 := { stood := { row := fnExactPutRuleUptoRow, standIns := [], harness := (true, "f97ce0fddde151033ab93d539ddcfe6d19bfd5058da0ec01e6da5fc8411e5a09"), looks := true }, kinds := [], alts := [], laidByText := true, laidKinds := [.sentinel, .sentinel], laidTests := true, laidLooks := .later }
def FnExactPutRuleUptoCardSaid : Prop := Claim7.holds Tryd.pinned (.plain (OpenSpec.upto fnExactPutRuleSpec)) fnExactPutRuleUptoCard

/-- THE SECOND FORM's CARD OF 'laws.FnExactDropRule'. -/
def fnExactDropRuleUptoCard : Claim7 := { stood := { row := fnExactDropRuleUptoRow, standIns := [], harness := (true, "f97ce0fddde151033ab93d539ddcfe6d19bfd5058da0ec01e6da5fc8411e5a09"), looks := true }, kinds := [], alts := [], laidByText := true, laidKinds := [.sentinel, .sentinel], laidTests := true, laidLooks := .later }
def FnExactDropRuleUptoCardSaid : Prop := Claim7.holds Tryd.pinned (.plain (OpenSpec.upto fnExactDropRuleSpec)) fnExactDropRuleUptoCard

/-- THE SECOND FORM's CARD OF 'laws.FnExactScheduleText'. -/
def fnExactScheduleTextUptoCard : Claim7 := { stood := { row := fnExactScheduleTextUptoRow, standIns := [], harness := (true, "f97ce0fddde151033ab93d539ddcfe6d19bfd5058da0ec01e6da5fc8411e5a09"), looks := true }, kinds := [], alts := [], laidByText := true, laidKinds := [.data, .data, .data], laidTests := true, laidLooks := .later }
def FnExactScheduleTextUptoCardSaid : Prop := Claim7.holds Tryd.pinned (.plain (OpenSpec.upto fnExactScheduleTextSpec)) fnExactScheduleTextUptoCard

/-- THE SECOND FORM's CARD OF 'laws.FnExactParseSchedule'. -/
def fnExactParseScheduleUptoCard : Claim7 := { stood := { row := fnExactParseScheduleUptoRow, standIns := [], harness := (true, "f97ce0fddde151033ab93d539ddcfe6d19bfd5058da0ec01e6da5fc8411e5a09"), looks := true }, kinds := [], alts := [], laidByText := true, laidKinds := [.data, .data, .data], laidTests := true, laidLooks := .later }
def FnExactParseScheduleUptoCardSaid : Prop := Claim7.holds Tryd.pinned (.plain (OpenSpec.upto fnExactParseScheduleSpec)) fnExactParseScheduleUptoCard
end Rows
end Go.Proofs.YtpcdjpkcalbpkaaDoor
