/-
  DERIVED. GIVEN WITH THE SEED: THE CARDS: each row of YtbpdbfllkehciaaDoorRows.lean that lists a variable, with what it lists TIED to the program's text (the seventh form; the later family's looks); each row that meets fmt, with fmt's text TOLD by the authors' own Lean function (tested against real Go, not proved from fmt's source: count such statements apart). THE CARD IS WHAT COUNTS. Prove the row's statement (the work); the ties are given (YtbpdbfllkehciaaDoorTie.lean); close each card by the builder's one call (the guide's Derived/Test/ToyasCard.lean, 'card_holds'). Laid BY PROGRAM, IN A SANDBOX (cutbox-door.mjs). By AI agents, Wed Nov 11 2026. No macro, syntax, notation, axiom, sorry.
-/
import Derived.Test.YtbpdbfllkehciaaDoorRows
import GoSem.ClaimSeven
namespace Go.Proofs.YtbpdbfllkehciaaDoor
namespace Rows

/-- THE TIED CARD OF 'mailroomlaw05.ReplyNames'. -/
def replyNamesCard : Claim7 := { stood := { row := replyNamesRow, standIns := [], harness := (true, "f953c9723e687ee7792e3d1fb7b38318d74bda315332860b30bd921782060c61"), looks := false }, kinds := [], alts := [], laidByText := true, laidKinds := [.data, .data, .data, .data], laidTests := true, laidLooks := .later }
def ReplyNamesCardSaid : Prop := Claim7.holds Tryd.pinned (.plain (OpenSpec.ofChange replyNamesSpec)) replyNamesCard

/-- THE TIED CARD OF 'mailroomlaw05.ReplyPlays'. -/
def replyPlaysCard : Claim7 := { stood := { row := replyPlaysRow, standIns := [], harness := (true, "f953c9723e687ee7792e3d1fb7b38318d74bda315332860b30bd921782060c61"), looks := false }, kinds := [], alts := [], laidByText := true, laidKinds := [.data, .data, .data, .data], laidTests := true, laidLooks := .later }
def ReplyPlaysCardSaid : Prop := Claim7.holds Tryd.pinned (.plain (OpenSpec.ofChange replyPlaysSpec)) replyPlaysCard

/-- THE TIED CARD OF 'mailroomlaw05.ReplyTells'. -/
def replyTellsCard : Claim7 := { stood := { row := replyTellsRow, standIns := [], harness := (true, "f953c9723e687ee7792e3d1fb7b38318d74bda315332860b30bd921782060c61"), looks := false }, kinds := [], alts := [], laidByText := true, laidKinds := [.data, .data, .data, .data], laidTests := true, laidLooks := .later }
def ReplyTellsCardSaid : Prop := Claim7.holds Tryd.pinned (.plain (OpenSpec.ofChange replyTellsSpec)) replyTellsCard

/-- THE TIED CARD OF 'mailroomlaw05.ReplyBack'. -/
def replyBackCard : Claim7 := { stood := { row := replyBackRow, standIns := [], harness := (true, "f953c9723e687ee7792e3d1fb7b38318d74bda315332860b30bd921782060c61"), looks := false }, kinds := [], alts := [], laidByText := true, laidKinds := [.data, .data, .data, .data], laidTests := true, laidLooks := .later }
def ReplyBackCardSaid : Prop := Claim7.holds Tryd.pinned (.plain (OpenSpec.ofChange replyBackSpec)) replyBackCard

/-- THE TIED CARD OF 'mailroomlaw05.ReplySteps'. -/
def replyStepsCard : Claim7 := { stood := { row := replyStepsRow, standIns := [], harness := (true, "f953c9723e687ee7792e3d1fb7b38318d74bda315332860b30bd921782060c61"), looks := false }, kinds := [], alts := [], laidByText := true, laidKinds := [.data, .data, .data, .data], laidTests := true, laidLooks := .later }
def ReplyStepsCardSaid : Prop := Claim7.holds Tryd.pinned (.plain (OpenSpec.ofChange replyStepsSpec)) replyStepsCard

/-- THE TIED CARD OF 'mailroomlaw05.ReplyClass'. -/
def replyClassCard : Claim7 := { stood := { row := replyClassRow, standIns := [], harness := (true, "f953c9723e687ee7792e3d1fb7b38318d74bda315332860b30bd921782060c61"), looks := false }, kinds := [], alts := [], laidByText := true, laidKinds := [.data, .data, .data, .data], laidTests := true, laidLooks := .later }
def ReplyClassCardSaid : Prop := Claim7.holds Tryd.pinned (.plain (OpenSpec.ofChange replyClassSpec)) replyClassCard

/-- THE SECOND FORM's CARD OF 'mailroomlaw05.ReplyNames'. -/
def replyNamesUptoCard : Claim7 := { stood := { row := replyNamesUptoRow, standIns := [], harness := (true, "f953c9723e687ee7792e3d1fb7b38318d74bda315332860b30bd921782060c61"), looks := false }, kinds := [], alts := [], laidByText := true, laidKinds := [.data, .data, .data, .data], laidTests := true, laidLooks := .later }
def ReplyNamesUptoCardSaid : Prop := Claim7.holds Tryd.pinned (.plain (OpenSpec.upto replyNamesSpec)) replyNamesUptoCard

/-- THE SECOND FORM's CARD OF 'mailroomlaw05.ReplyPlays'. -/
def replyPlaysUptoCard : Claim7 := { stood := { row := replyPlaysUptoRow, standIns := [], harness := (true, "f953c9723e687ee7792e3d1fb7b38318d74bda315332860b30bd921782060c61"), looks := false }, kinds := [], alts := [], laidByText := true, laidKinds := [.data, .data, .data, .data], laidTests := true, laidLooks := .later }
def ReplyPlaysUptoCardSaid : Prop := Claim7.holds Tryd.pinned (.plain (OpenSpec.upto replyPlaysSpec)) replyPlaysUptoCard

/-- THE SECOND FORM's CARD OF 'mailroomlaw05.ReplyTells'. -/
def replyTellsUptoCard : Claim7 := { stood := { row := replyTellsUptoRow, standIns := [], harness := (true, "f953c9723e687ee7792e3d1fb7b38318d74bda315332860b30bd921782060c61"), looks := false }, kinds := [], alts := [], laidByText := true, laidKinds := [.data, .data, .data, .data], laidTests := true, laidLooks := .later }
def ReplyTellsUptoCardSaid : Prop := Claim7.holds Tryd.pinned (.plain (OpenSpec.upto replyTellsSpec)) replyTellsUptoCard

/-- THE SECOND FORM's CARD OF 'mailroomlaw05.ReplyBack'. -/
def replyBackUptoCard : Claim7 := { stood := { row := replyBackUptoRow, standIns := [], harness := (true, "f953c9723e687ee7792e3d1fb7b38318d74bda315332860b30bd921782060c61"), looks := false }, kinds := [], alts := [], laidByText := true, laidKinds := [.data, .data, .data, .data], laidTests := true, laidLooks := .later }
def ReplyBackUptoCardSaid : Prop := Claim7.holds Tryd.pinned (.plain (OpenSpec.upto replyBackSpec)) replyBackUptoCard

/-- THE SECOND FORM's CARD OF 'mailroomlaw05.ReplySteps'. -/
def replyStepsUptoCard : Claim7 := { stood := { row := replyStepsUptoRow, standIns := [], harness := (true, "f953c9723e687ee7792e3d1fb7b38318d74bda315332860b30bd921782060c61"), looks := false }, kinds := [], alts := [], laidByText := true, laidKinds := [.data, .data, .data, .data], laidTests := true, laidLooks := .later }
def ReplyStepsUptoCardSaid : Prop := Claim7.holds Tryd.pinned (.plain (OpenSpec.upto replyStepsSpec)) replyStepsUptoCard

/-- THE SECOND FORM's CARD OF 'mailroomlaw05.ReplyClass'. -/
def replyClassUptoCard : Claim7 := { stood := { row := replyClassUptoRow, standIns := [], harness := (true, "f953c9723e687ee7792e3d1fb7b38318d74bda315332860b30bd921782060c61"), looks := false }, kinds := [], alts := [], laidByText := true, laidKinds := [.data, .data, .data, .data], laidTests := true, laidLooks := .later }
def ReplyClassUptoCardSaid : Prop := Claim7.holds Tryd.pinned (.plain (OpenSpec.upto replyClassSpec)) replyClassUptoCard
end Rows
end Go.Proofs.YtbpdbfllkehciaaDoor
