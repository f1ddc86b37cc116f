/-
  DERIVED. GIVEN WITH THE SEED: THE CARDS: each row of YtbmjmiioobgbfaaGreatDoorRows.lean that lists a variable, with what it lists TIED to the program's text (the seventh form; the later family's looks); each row that meets fmt, with fmt's text TOLD by the authors' own Lean function (tested against real Go, not proved from fmt's source: count such statements apart). THE CARD IS WHAT COUNTS. Prove the row's statement (the work); the ties are given (YtbmjmiioobgbfaaGreatDoorTie.lean); close each card by the builder's one call (the guide's Derived/Test/ToyasCard.lean, 'card_holds'). Laid BY PROGRAM, IN A SANDBOX (cutbox-door.mjs). By AI agents, Wed Nov 11 2026. No macro, syntax, notation, axiom, sorry.
-/
import Derived.Test.YtbmjmiioobgbfaaGreatDoorRows
import GoSem.ClaimSeven
namespace Go.Proofs.YtbmjmiioobgbfaaGreatDoor
namespace Rows

/-- THE TIED CARD OF 'mailroomlaw04.AddrMails'. -/
def addrMailsCard : Claim7 := { stood := { row := addrMailsRow, standIns := [], harness := (true, "4041b6cddee199561b1c00f5fe25fa2cb1cad6d4e0c816a6ca3daee82f4ca457"), looks := false }, kinds := [], alts := [], laidByText := true, laidKinds := [.data, .pinned], laidTests := true, laidLooks := .later }
def AddrMailsCardSaid : Prop := Claim7.holds Tryz.pinned (.plain (OpenSpec.ofChange addrMailsSpec)) addrMailsCard

/-- THE TIED CARD OF 'mailroomlaw07.CmdNames'. -/
def cmdNamesCard : Claim7 := { stood := { row := cmdNamesRow, standIns := [], harness := (true, "4041b6cddee199561b1c00f5fe25fa2cb1cad6d4e0c816a6ca3daee82f4ca457"), looks := false }, kinds := [], alts := [], laidByText := true, laidKinds := [.data, .data, .data, .data, .data, .pinned], laidTests := true, laidLooks := .later }
def CmdNamesCardSaid : Prop := Claim7.holds Tryz.pinned (.plain (OpenSpec.ofChange cmdNamesSpec)) cmdNamesCard

/-- THE TIED CARD OF 'mailroomlaw07.CmdTells'. -/
def cmdTellsCard : Claim7 := { stood := { row := cmdTellsRow, standIns := [], harness := (true, "4041b6cddee199561b1c00f5fe25fa2cb1cad6d4e0c816a6ca3daee82f4ca457"), looks := false }, kinds := [], alts := [], laidByText := true, laidKinds := [.data, .data, .data, .data, .data, .pinned], laidTests := true, laidLooks := .later }
def CmdTellsCardSaid : Prop := Claim7.holds Tryz.pinned (.plain (OpenSpec.ofChange cmdTellsSpec)) cmdTellsCard

/-- THE TIED CARD OF 'mailroomlaw07.CmdMakes'. -/
def cmdMakesCard : Claim7 := { stood := { row := cmdMakesRow, standIns := [], harness := (true, "4041b6cddee199561b1c00f5fe25fa2cb1cad6d4e0c816a6ca3daee82f4ca457"), looks := false }, kinds := [], alts := [], laidByText := true, laidKinds := [.data, .data, .data, .data, .data, .pinned], laidTests := true, laidLooks := .later }
def CmdMakesCardSaid : Prop := Claim7.holds Tryz.pinned (.plain (OpenSpec.ofChange cmdMakesSpec)) cmdMakesCard

/-- THE SECOND FORM's CARD OF 'mailroomlaw04.AddrMails'. -/
def addrMailsUptoCard : Claim7 := { stood := { row := addrMailsUptoRow, standIns := [], harness := (true, "4041b6cddee199561b1c00f5fe25fa2cb1cad6d4e0c816a6ca3daee82f4ca457"), looks := false }, kinds := [], alts := [], laidByText := true, laidKinds := [.data, .pinned], laidTests := true, laidLooks := .later }
def AddrMailsUptoCardSaid : Prop := Claim7.holds Tryz.pinned (.plain (OpenSpec.upto addrMailsSpec)) addrMailsUptoCard

/-- THE SECOND FORM's CARD OF 'mailroomlaw07.CmdNames'. -/
def cmdNamesUptoCard : Claim7 := { stood := { row := cmdNamesUptoRow, standIns := [], harness := (true, "4041b6cddee199561b1c00f5fe25fa2cb1cad6d4e0c816a6ca3daee82f4ca457"), looks := false }, kinds := [], alts := [], laidByText := true, laidKinds := [.data, .data, .data, .data, .data, .pinned], laidTests := true, laidLooks := .later }
def CmdNamesUptoCardSaid : Prop := Claim7.holds Tryz.pinned (.plain (OpenSpec.upto cmdNamesSpec)) cmdNamesUptoCard

/-- THE SECOND FORM's CARD OF 'mailroomlaw07.CmdTells'. -/
def cmdTellsUptoCard : Claim7 := { stood := { row := cmdTellsUptoRow, standIns := [], harness := (true, "4041b6cddee199561b1c00f5fe25fa2cb1cad6d4e0c816a6ca3daee82f4ca457"), looks := false }, kinds := [], alts := [], laidByText := true, laidKinds := [.data, .data, .data, .data, .data, .pinned], laidTests := true, laidLooks := .later }
def CmdTellsUptoCardSaid : Prop := Claim7.holds Tryz.pinned (.plain (OpenSpec.upto cmdTellsSpec)) cmdTellsUptoCard

/-- THE SECOND FORM's CARD OF 'mailroomlaw07.CmdMakes'. -/
def cmdMakesUptoCard : Claim7 := { stood := { row := cmdMakesUptoRow, standIns := [], harness := (true, "4041b6cddee199561b1c00f5fe25fa2cb1cad6d4e0c816a6ca3daee82f4ca457"), looks := false }, kinds := [], alts := [], laidByText := true, laidKinds := [.data, .data, .data, .data, .data, .pinned], laidTests := true, laidLooks := .later }
def CmdMakesUptoCardSaid : Prop := Claim7.holds Tryz.pinned (.plain (OpenSpec.upto cmdMakesSpec)) cmdMakesUptoCard
end Rows
end Go.Proofs.YtbmjmiioobgbfaaGreatDoor
