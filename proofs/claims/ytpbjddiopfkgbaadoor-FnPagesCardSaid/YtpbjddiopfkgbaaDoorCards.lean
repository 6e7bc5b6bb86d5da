/-
  DERIVED. GIVEN WITH THE SEED: THE CARDS: each row of YtpbjddiopfkgbaaDoorRows.lean that lists a variable, with what it lists TIED to the program's text (the seventh form; the later family's looks); each row that meets fmt, with fmt's text TOLD by the authors' own Lean function (tested against real Go, not proved from fmt's source: count such statements apart). THE CARD IS WHAT COUNTS. Prove the row's statement (the work); the ties are given (YtpbjddiopfkgbaaDoorTie.lean); close each card by the builder's one call (the guide's Derived/Test/ToyasCard.lean, 'card_holds'). Laid BY PROGRAM, IN A SANDBOX (cutbox-door.mjs). By AI agents, Wed Nov 11 2026. No macro, syntax, notation, axiom, sorry.
-/
import Derived.Test.YtpbjddiopfkgbaaDoorRows
import GoSem.ClaimSeven
namespace Go.Proofs.YtpbjddiopfkgbaaDoor
namespace Rows

/-- THE TIED CARD OF 'laws.FnFiles'. -/
def fnFilesCard : Claim7 := { stood := { row := fnFilesRow, standIns := [], harness := (true, "1c55d25ec27aa8beff2fc3a07a7906862412bb464fe936fd41994567d6667d5b"), looks := false }, kinds := [], alts := [], laidByText := true, laidKinds := [.data], laidTests := true, laidLooks := .later }
def FnFilesCardSaid : Prop := Claim7.holds Tryd.pinned (.plain (OpenSpec.ofChange fnFilesSpec)) fnFilesCard

/-- THE TIED CARD OF 'laws.FnPages'. -/
def fnPagesCard : Claim7 := { stood := { row := fnPagesRow, standIns := [], harness := (true, "1c55d25ec27aa8beff2fc3a07a7906862412bb464fe936fd41994567d6667d5b"), looks := false }, kinds := [], alts := [], laidByText := true, laidKinds := [.data], laidTests := true, laidLooks := .later }
def FnPagesCardSaid : Prop := Claim7.holds Tryd.pinned (.plain (OpenSpec.ofChange fnPagesSpec)) fnPagesCard

/-- THE TIED CARD OF 'laws.FnExactCloseFile'. -/
def fnExactCloseFileCard : Claim7 := { stood := { row := fnExactCloseFileRow, standIns := [], harness := (true, "1c55d25ec27aa8beff2fc3a07a7906862412bb464fe936fd41994567d6667d5b"), looks := false }, kinds := [], alts := [], laidByText := true, laidKinds := [.data], laidTests := true, laidLooks := .later }
def FnExactCloseFileCardSaid : Prop := Claim7.holds Tryd.pinned (.plain (OpenSpec.ofChange fnExactCloseFileSpec)) fnExactCloseFileCard

/-- THE TIED CARD OF 'laws.FnExactReopenFile'. -/
def fnExactReopenFileCard : Claim7 := { stood := { row := fnExactReopenFileRow, standIns := [], harness := (true, "1c55d25ec27aa8beff2fc3a07a7906862412bb464fe936fd41994567d6667d5b"), looks := false }, kinds := [], alts := [], laidByText := true, laidKinds := [.data], laidTests := true, laidLooks := .later }
def FnExactReopenFileCardSaid : Prop := Claim7.holds Tryd.pinned (.plain (OpenSpec.ofChange fnExactReopenFileSpec)) fnExactReopenFileCard

/-- THE TIED CARD OF 'laws.FnExactLendFile'. -/
def fnExactLendFileCard : Claim7 := { stood := { row := fnExactLendFileRow, standIns := [], harness := (true, "1c55d25ec27aa8beff2fc3a07a7906862412bb464fe936fd41994567d6667d5b"), looks := false }, kinds := [], alts := [], laidByText := true, laidKinds := [.data], laidTests := true, laidLooks := .later }
def FnExactLendFileCardSaid : Prop := Claim7.holds Tryd.pinned (.plain (OpenSpec.ofChange fnExactLendFileSpec)) fnExactLendFileCard

/-- THE TIED CARD OF 'laws.FnExactAddPages'. -/
def fnExactAddPagesCard : Claim7 := { stood := { row := fnExactAddPagesRow, standIns := [], harness := (true, "1c55d25ec27aa8beff2fc3a07a7906862412bb464fe936fd41994567d6667d5b"), looks := false }, kinds := [], alts := [], laidByText := true, laidKinds := [.data], laidTests := true, laidLooks := .later }
def FnExactAddPagesCardSaid : Prop := Claim7.holds Tryd.pinned (.plain (OpenSpec.ofChange fnExactAddPagesSpec)) fnExactAddPagesCard

/-- THE TIED CARD OF 'laws.FnExactSplitFile'. -/
def fnExactSplitFileCard : Claim7 := { stood := { row := fnExactSplitFileRow, standIns := [], harness := (true, "1c55d25ec27aa8beff2fc3a07a7906862412bb464fe936fd41994567d6667d5b"), looks := false }, kinds := [], alts := [], laidByText := true, laidKinds := [.data], laidTests := true, laidLooks := .later }
def FnExactSplitFileCardSaid : Prop := Claim7.holds Tryd.pinned (.plain (OpenSpec.ofChange fnExactSplitFileSpec)) fnExactSplitFileCard

/-- THE SECOND FORM's CARD OF 'laws.FnFiles'. -/
def fnFilesUptoCard : Claim7 := { stood := { row := fnFilesUptoRow, standIns := [], harness := (true, "1c55d25ec27aa8beff2fc3a07a7906862412bb464fe936fd41994567d6667d5b"), looks := false }, kinds := [], alts := [], laidByText := true, laidKinds := [.data], laidTests := true, laidLooks := .later }
def FnFilesUptoCardSaid : Prop := Claim7.holds Tryd.pinned (.plain (OpenSpec.upto fnFilesSpec)) fnFilesUptoCard

/-- THE SECOND FORM's CARD OF 'laws.FnPages'. -/
def fnPagesUptoCard : Claim7 := { stood := { row := fnPagesUptoRow, standIns := [], harness := (true, "1c55d25ec27aa8beff2fc3a07a7906862412bb464fe936fd41994567d6667d5b"), looks := false }, kinds := [], alts := [], laidByText := true, laidKinds := [.data], laidTests := true, laidLooks := .later }
def FnPagesUptoCardSaid : Prop := Claim7.holds Tryd.pinned (.plain (OpenSpec.upto fnPagesSpec)) fnPagesUptoCard

/-- THE SECOND FORM's CARD OF 'laws.FnExactCloseFile'. -/
def fnExactCloseFileUptoCard : Claim7 := { stood := { row := fnExactCloseFileUptoRow, standIns := [], harness := (true, "1c55d25ec27aa8beff2fc3a07a7906862412bb464fe936fd41994567d6667d5b"), looks := false }, kinds := [], alts := [], laidByText := true, laidKinds := [.data], laidTests := true, laidLooks := .later }
def FnExactCloseFileUptoCardSaid : Prop := Claim7.holds Tryd.pinned (.plain (OpenSpec.upto fnExactCloseFileSpec)) fnExactCloseFileUptoCard

/-- THE SECOND FORM's CARD OF 'laws.FnExactReopenFile'. -/
def fnExactReopenFileUptoCard : Claim7 := { stood := { row := fnExactReopenFileUptoRow, standIns := [], harness := (true, "1c55d25ec27aa8beff2fc3a07a7906862412bb464fe936fd41994567d6667d5b"), looks := false }, kinds := [], alts := [], laidByText := true, laidKinds := [.data], laidTests := true, laidLooks := .later }
def FnExactReopenFileUptoCardSaid : Prop := Claim7.holds Tryd.pinned (.plain (OpenSpec.upto fnExactReopenFileSpec)) fnExactReopenFileUptoCard

/-- THE SECOND FORM's CARD OF 'laws.FnExactLendFile'. -/
def fnExactLendFileUptoCard : Claim7 := { stood := { row := fnExactLendFileUptoRow, standIns := [], harness := (true, "1c55d25ec27aa8beff2fc3a07a7906862412bb464fe936fd41994567d6667d5b"), looks := false }, kinds := [], alts := [], laidByText := true, laidKinds := [.data], laidTests := true, laidLooks := .later }
def FnExactLendFileUptoCardSaid : Prop := Claim7.holds Tryd.pinned (.plain (OpenSpec.upto fnExactLendFileSpec)) fnExactLendFileUptoCard

/-- THE SECOND FORM's CARD OF 'laws.FnExactAddPages'. -/
def fnExactAddPagesUptoCard : Claim7 := { stood := { row := fnExactAddPagesUptoRow, standIns := [], harness := (true, "1c55d25ec27aa8beff2fc3a07a7906862412bb464fe936fd41994567d6667d5b"), looks := false }, kinds := [], alts := [], laidByText := true, laidKinds := [.data], laidTests := true, laidLooks := .later }
def FnExactAddPagesUptoCardSaid : Prop := Claim7.holds Tryd.pinned (.plain (OpenSpec.upto fnExactAddPagesSpec)) fnExactAddPagesUptoCard

/-- THE SECOND FORM's CARD OF 'laws.FnExactSplitFile'. -/
def fnExactSplitFileUptoCard : Claim7 := { stood := { row := fnExactSplitFileUptoRow, standIns := [], harness := (true, "1c55d25ec27aa8beff2fc3a07a7906862412bb464fe936fd41994567d6667d5b"), looks := false }, kinds := [], alts := [], laidByText := true, laidKinds := [.data], laidTests := true, laidLooks := .later }
def FnExactSplitFileUptoCardSaid : Prop := Claim7.holds Tryd.pinned (.plain (OpenSpec.upto fnExactSplitFileSpec)) fnExactSplitFileUptoCard
end Rows
end Go.Proofs.YtpbjddiopfkgbaaDoor
