/-
  DERIVED. GIVEN WITH THE SEED: THE CARDS: each row of YthfnncahmccgkaaGreatDoorRows.lean that lists a variable, with what it lists TIED to the program's text (the seventh form; the later family's looks); each row that meets fmt, with fmt's text TOLD by the authors' own Lean function (tested against real Go, not proved from fmt's source: count such statements apart). THE CARD IS WHAT COUNTS. Prove the row's statement (the work); the ties are given (YthfnncahmccgkaaGreatDoorTie.lean); close each card by the builder's one call (the guide's Derived/Test/ToyasCard.lean, 'card_holds'). Laid BY PROGRAM, IN A SANDBOX (cutbox-door.mjs). By AI agents, Wed Nov 11 2026. No macro, syntax, notation, axiom, sorry.
-/
import Derived.Test.YthfnncahmccgkaaGreatDoorRows
import GoSem.ClaimSeven
namespace Go.Proofs.YthfnncahmccgkaaGreatDoor
namespace Rows

/-- THE TIED CARD OF 'mailroomlaw12.LogNames'. -/
def logNamesCard : Claim7 := { stood := { row := logNamesRow, standIns := [], harness := (true, "3d767e3b068de1fa6f8f6ed75ff9aeb3abca4c1a28751253d47ce9b0565b3cd8"), looks := true }, kinds := [], alts := [], laidByText := true, laidKinds := [.data, .pinned], laidTests := true, laidLooks := .later }
def LogNamesCardSaid : Prop := Claim7.holds Tryz.pinned (.plain (OpenSpec.ofChange logNamesSpec)) logNamesCard

/-- THE TIED CARD OF 'mailroomlaw12.LogPlays'. -/
def logPlaysCard : Claim7 := { stood := { row := logPlaysRow, standIns := [], harness := (true, "3d767e3b068de1fa6f8f6ed75ff9aeb3abca4c1a28751253d47ce9b0565b3cd8"), looks := true }, kinds := [], alts := [], laidByText := true, laidKinds := [.data, .pinned], laidTests := true, laidLooks := .later }
def LogPlaysCardSaid : Prop := Claim7.holds Tryz.pinned (.plain (OpenSpec.ofChange logPlaysSpec)) logPlaysCard

/-- THE TIED CARD OF 'mailroomlaw12.LogThere'. -/
def logThereCard : Claim7 := { stood := { row := logThereRow, standIns := [], harness := (true, "3d767e3b068de1fa6f8f6ed75ff9aeb3abca4c1a28751253d47ce9b0565b3cd8"), looks := true }, kinds := [], alts := [], laidByText := true, laidKinds := [.data, .pinned], laidTests := true, laidLooks := .later }
def LogThereCardSaid : Prop := Claim7.holds Tryz.pinned (.plain (OpenSpec.ofChange logThereSpec)) logThereCard

/-- THE TIED CARD OF 'mailroomlaw12.LogPower'. -/
def logPowerCard : Claim7 := { stood := { row := logPowerRow, standIns := [], harness := (true, "3d767e3b068de1fa6f8f6ed75ff9aeb3abca4c1a28751253d47ce9b0565b3cd8"), looks := true }, kinds := [], alts := [], laidByText := true, laidKinds := [.data, .pinned], laidTests := true, laidLooks := .later }
def LogPowerCardSaid : Prop := Claim7.holds Tryz.pinned (.plain (OpenSpec.ofChange logPowerSpec)) logPowerCard

/-- THE SECOND FORM's CARD OF 'mailroomlaw12.LogNames'. -/
def logNamesUptoCard : Claim7 := { stood := { row := logNamesUptoRow, standIns := [], harness := (true, "3d767e3b068de1fa6f8f6ed75ff9aeb3abca4c1a28751253d47ce9b0565b3cd8"), looks := true }, kinds := [], alts := [], laidByText := true, laidKinds := [.data, .pinned], laidTests := true, laidLooks := .later }
def LogNamesUptoCardSaid : Prop := Claim7.holds Tryz.pinned (.plain (OpenSpec.upto logNamesSpec)) logNamesUptoCard

/-- THE SECOND FORM's CARD OF 'mailroomlaw12.LogPlays'. -/
def logPlaysUptoCard : Claim7 := { stood := { row := logPlaysUptoRow, standIns := [], harness := (true, "3d767e3b068de1fa6f8f6ed75ff9aeb3abca4c1a28751253d47ce9b0565b3cd8"), looks := true }, kinds := [], alts := [], laidByText := true, laidKinds := [.data, .pinned], laidTests := true, laidLooks := .later }
def LogPlaysUptoCardSaid : Prop := Claim7.holds Tryz.pinned (.plain (OpenSpec.upto logPlaysSpec)) logPlaysUptoCard

/-- THE SECOND FORM's CARD OF 'mailroomlaw12.LogThere'. -/
def logThereUptoCard : Claim7 := { stood := { row := logThereUptoRow, standIns := [], harness := (true, "3d767e3b068de1fa6f8f6ed75ff9aeb3abca4c1a28751253d47ce9b0565b3cd8"), looks := true }, kinds := [], alts := [], laidByText := true, laidKinds := [.data, .pinned], laidTests := true, laidLooks := .later }
def LogThereUptoCardSaid : Prop := Claim7.holds Tryz.pinned (.plain (OpenSpec.upto logThereSpec)) logThereUptoCard

/-- THE SECOND FORM's CARD OF 'mailroomlaw12.LogPower'. -/
def logPowerUptoCard : Claim7 := { stood := { row := logPowerUptoRow, standIns := [], harness := (true, "3d767e3b068de1fa6f8f6ed75ff9aeb3abca4c1a28751253d47ce9b0565b3cd8"), looks := true }, kinds := [], alts := [], laidByText := true, laidKinds := [.data, .pinned], laidTests := true, laidLooks := .later }
def LogPowerUptoCardSaid : Prop := Claim7.holds Tryz.pinned (.plain (OpenSpec.upto logPowerSpec)) logPowerUptoCard
end Rows
end Go.Proofs.YthfnncahmccgkaaGreatDoor
