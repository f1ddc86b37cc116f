/-
  DERIVED. GIVEN WITH THE SEED: THE CARDS: each row of YtanfonpbnamjmaaDoorRows.lean that lists a variable, with what it lists TIED to the program's text (the seventh form; the later family's looks); each row that meets fmt, with fmt's text TOLD by the authors' own Lean function (tested against real Go, not proved from fmt's source: count such statements apart). THE CARD IS WHAT COUNTS. Prove the row's statement (the work); the ties are given (YtanfonpbnamjmaaDoorTie.lean); close each card by the builder's one call (the guide's Derived/Test/ToyasCard.lean, 'card_holds'). Laid BY PROGRAM, IN A SANDBOX (cutbox-door.mjs). By AI agents, Wed Nov 11 2026. No macro, syntax, notation, axiom, sorry.
-/
import Derived.Test.YtanfonpbnamjmaaDoorRows
import GoSem.ClaimSeven
namespace Go.Proofs.YtanfonpbnamjmaaDoor
namespace Rows

/-- THE TIED CARD OF 'mailroomlaw02.CodeRoots'. -/
def codeRootsCard : Claim7 := { stood := { row := codeRootsRow, standIns := [], harness := (true, "9af44cbd34aebf821c3e2bfd11fdea36e6843ea64ea007b2aa18f624ccf52cce"), looks := false }, kinds := [], alts := [], laidByText := true, laidKinds := [.data, .data, .data, .data, .data], laidTests := true, laidLooks := .later }
def CodeRootsCardSaid : Prop := Claim7.holds Tryd.pinned (.plain (OpenSpec.ofChange codeRootsSpec)) codeRootsCard

/-- THE TIED CARD OF 'mailroomlaw05.ReplyPlays'. -/
def replyPlaysCard : Claim7 := { stood := { row := replyPlaysRow, standIns := [], harness := (true, "9af44cbd34aebf821c3e2bfd11fdea36e6843ea64ea007b2aa18f624ccf52cce"), looks := false }, kinds := [], alts := [], laidByText := true, laidKinds := [.data, .data, .data, .data], laidTests := true, laidLooks := .later }
def ReplyPlaysCardSaid : Prop := Claim7.holds Tryd.pinned (.plain (OpenSpec.ofChange replyPlaysSpec)) replyPlaysCard

/-- THE TIED CARD OF 'mailroomlaw06.CapsNames'. -/
def capsNamesCard : Claim7 := { stood := { row := capsNamesRow, standIns := [], harness := (true, "9af44cbd34aebf821c3e2bfd11fdea36e6843ea64ea007b2aa18f624ccf52cce"), looks := false }, kinds := [], alts := [], laidByText := true, laidKinds := [.data, .data, .data], laidTests := true, laidLooks := .later }
def CapsNamesCardSaid : Prop := Claim7.holds Tryd.pinned (.plain (OpenSpec.ofChange capsNamesSpec)) capsNamesCard

/-- THE TIED CARD OF 'mailroomlaw06.CapsTells'. -/
def capsTellsCard : Claim7 := { stood := { row := capsTellsRow, standIns := [], harness := (true, "9af44cbd34aebf821c3e2bfd11fdea36e6843ea64ea007b2aa18f624ccf52cce"), looks := false }, kinds := [], alts := [], laidByText := true, laidKinds := [.data, .data, .data], laidTests := true, laidLooks := .later }
def CapsTellsCardSaid : Prop := Claim7.holds Tryd.pinned (.plain (OpenSpec.ofChange capsTellsSpec)) capsTellsCard

/-- THE TIED CARD OF 'mailroomlaw06.CapsBack'. -/
def capsBackCard : Claim7 := { stood := { row := capsBackRow, standIns := [], harness := (true, "9af44cbd34aebf821c3e2bfd11fdea36e6843ea64ea007b2aa18f624ccf52cce"), looks := false }, kinds := [], alts := [], laidByText := true, laidKinds := [.data, .data, .data], laidTests := true, laidLooks := .later }
def CapsBackCardSaid : Prop := Claim7.holds Tryd.pinned (.plain (OpenSpec.ofChange capsBackSpec)) capsBackCard

/-- THE TIED CARD OF 'mailroomlaw06.CapsMore'. -/
def capsMoreCard : Claim7 := { stood := { row := capsMoreRow, standIns := [], harness := (true, "9af44cbd34aebf821c3e2bfd11fdea36e6843ea64ea007b2aa18f624ccf52cce"), looks := false }, kinds := [], alts := [], laidByText := true, laidKinds := [.data, .data, .data], laidTests := true, laidLooks := .later }
def CapsMoreCardSaid : Prop := Claim7.holds Tryd.pinned (.plain (OpenSpec.ofChange capsMoreSpec)) capsMoreCard

/-- THE TIED CARD OF 'mailroomlaw06.CapsLetters'. -/
def capsLettersCard : Claim7 := { stood := { row := capsLettersRow, standIns := [], harness := (true, "9af44cbd34aebf821c3e2bfd11fdea36e6843ea64ea007b2aa18f624ccf52cce"), looks := false }, kinds := [], alts := [], laidByText := true, laidKinds := [.data, .data, .data], laidTests := true, laidLooks := .later }
def CapsLettersCardSaid : Prop := Claim7.holds Tryd.pinned (.plain (OpenSpec.ofChange capsLettersSpec)) capsLettersCard

/-- THE SECOND FORM's CARD OF 'mailroomlaw02.CodeRoots'. -/
def codeRootsUptoCard : Claim7 := { stood := { row := codeRootsUptoRow, standIns := [], harness := (true, "9af44cbd34aebf821c3e2bfd11fdea36e6843ea64ea007b2aa18f624ccf52cce"), looks := false }, kinds := [], alts := [], laidByText := true, laidKinds := [.data, .data, .data, .data, .data], laidTests := true, laidLooks := .later }
def CodeRootsUptoCardSaid : Prop := Claim7.holds Tryd.pinned (.plain (OpenSpec.upto codeRootsSpec)) codeRootsUptoCard

/-- THE SECOND FORM's CARD OF 'mailroomlaw05.ReplyPlays'. -/
def replyPlaysUptoCard : Claim7 := { stood := { row := replyPlaysUptoRow, standIns := [], harness := (true, "9af44cbd34aebf821c3e2bfd11fdea36e6843ea64ea007b2aa18f624ccf52cce"), looks := false }, kinds := [], alts := [], laidByText := true, laidKinds := [.data, .data, .data, .data], laidTests := true, laidLooks := .later }
def ReplyPlaysUptoCardSaid : Prop := Claim7.holds Tryd.pinned (.plain (OpenSpec.upto replyPlaysSpec)) replyPlaysUptoCard

/-- THE SECOND FORM's CARD OF 'mailroomlaw06.CapsNames'. -/
def capsNamesUptoCard : Claim7 := { stood := { row := capsNamesUptoRow, standIns := [], harness := (true, "9af44cbd34aebf821c3e2bfd11fdea36e6843ea64ea007b2aa18f624ccf52cce"), looks := false }, kinds := [], alts := [], laidByText := true, laidKinds := [.data, .data, .data], laidTests := true, laidLooks := .later }
def CapsNamesUptoCardSaid : Prop := Claim7.holds Tryd.pinned (.plain (OpenSpec.upto capsNamesSpec)) capsNamesUptoCard

/-- THE SECOND FORM's CARD OF 'mailroomlaw06.CapsTells'. -/
def capsTellsUptoCard : Claim7 := { stood := { row := capsTellsUptoRow, standIns := [], harness := (true, "9af44cbd34aebf821c3e2bfd11fdea36e6843ea64ea007b2aa18f624ccf52cce"), looks := false }, kinds := [], alts := [], laidByText := true, laidKinds := [.data, .data, .data], laidTests := true, laidLooks := .later }
def CapsTellsUptoCardSaid : Prop := Claim7.holds Tryd.pinned (.plain (OpenSpec.upto capsTellsSpec)) capsTellsUptoCard

/-- THE SECOND FORM's CARD OF 'mailroomlaw06.CapsBack'. -/
def capsBackUptoCard : Claim7 := { stood := { row := capsBackUptoRow, standIns := [], harness := (true, "9af44cbd34aebf821c3e2bfd11fdea36e6843ea64ea007b2aa18f624ccf52cce"), looks := false }, kinds := [], alts := [], laidByText := true, laidKinds := [.data, .data, .data], laidTests := true, laidLooks := .later }
def CapsBackUptoCardSaid : Prop := Claim7.holds Tryd.pinned (.plain (OpenSpec.upto capsBackSpec)) capsBackUptoCard

/-- THE SECOND FORM's CARD OF 'mailroomlaw06.CapsMore'. -/
def capsMoreUptoCard : Claim7 := { stood := { row := capsMoreUptoRow, standIns := [], harness := (true, "9af44cbd34aebf821c3e2bfd11fdea36e6843ea64ea007b2aa18f624ccf52cce"), looks := false }, kinds := [], alts := [], laidByText := true, laidKinds := [.data, .data, .data], laidTests := true, laidLooks := .later }
def CapsMoreUptoCardSaid : Prop := Claim7.holds Tryd.pinned (.plain (OpenSpec.upto capsMoreSpec)) capsMoreUptoCard

/-- THE SECOND FORM's CARD OF 'mailroomlaw06.CapsLetters'. -/
def capsLettersUptoCard : Claim7 := { stood := { row := capsLettersUptoRow, standIns := [], harness := (true, "9af44cbd34aebf821c3e2bfd11fdea36e6843ea64ea007b2aa18f624ccf52cce"), looks := false }, kinds := [], alts := [], laidByText := true, laidKinds := [.data, .data, .data], laidTests := true, laidLooks := .later }
def CapsLettersUptoCardSaid : Prop := Claim7.holds Tryd.pinned (.plain (OpenSpec.upto capsLettersSpec)) capsLettersUptoCard
end Rows
end Go.Proofs.YtanfonpbnamjmaaDoor
