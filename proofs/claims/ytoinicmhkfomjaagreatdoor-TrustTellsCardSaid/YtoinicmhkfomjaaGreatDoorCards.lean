/-
  DERIVED. GIVEN WITH THE SEED: THE CARDS: each row of YtoinicmhkfomjaaGreatDoorRows.lean that lists a variable, with what it lists TIED to the program's text (the seventh form; the later family's looks); each row that meets fmt, with fmt's text TOLD by the authors' own Lean function (tested against real Go, not proved from fmt's source: count such statements apart). THE CARD IS WHAT COUNTS. Prove the row's statement (the work); the ties are given (YtoinicmhkfomjaaGreatDoorTie.lean); close each card by the builder's one call (the guide's Derived/Test/ToyasCard.lean, 'card_holds'). Laid BY PROGRAM, IN A SANDBOX (cutbox-door.mjs). By AI agents, Wed Nov 11 2026. No macro, syntax, notation, axiom, sorry.
-/
import Derived.Test.YtoinicmhkfomjaaGreatDoorRows
import GoSem.ClaimSeven
namespace Go.Proofs.YtoinicmhkfomjaaGreatDoor
namespace Rows

/-- THE TIED CARD OF 'mailroomlaw14.CertNames'. -/
def certNamesCard : Claim7 := { stood := { row := certNamesRow, standIns := [], harness := (true, "c70e95fd7fe2e8912fd36cc50eddc0ff9ac4db57af2f7890af8c115062829d4e"), looks := false }, kinds := [], alts := [], laidByText := true, laidKinds := [.data, .data, .data, .data, .pinned], laidTests := true, laidLooks := .later }
def CertNamesCardSaid : Prop := Claim7.holds Tryz.pinned (.plain (OpenSpec.ofChange certNamesSpec)) certNamesCard

/-- THE TIED CARD OF 'mailroomlaw14.CertTells'. -/
def certTellsCard : Claim7 := { stood := { row := certTellsRow, standIns := [], harness := (true, "c70e95fd7fe2e8912fd36cc50eddc0ff9ac4db57af2f7890af8c115062829d4e"), looks := false }, kinds := [], alts := [], laidByText := true, laidKinds := [.data, .data, .data, .data, .pinned], laidTests := true, laidLooks := .later }
def CertTellsCardSaid : Prop := Claim7.holds Tryz.pinned (.plain (OpenSpec.ofChange certTellsSpec)) certTellsCard

/-- THE TIED CARD OF 'mailroomlaw15.TrustNames'. -/
def trustNamesCard : Claim7 := { stood := { row := trustNamesRow, standIns := [], harness := (true, "c70e95fd7fe2e8912fd36cc50eddc0ff9ac4db57af2f7890af8c115062829d4e"), looks := false }, kinds := [], alts := [], laidByText := true, laidKinds := [.data, .data, .data, .data, .pinned], laidTests := true, laidLooks := .later }
def TrustNamesCardSaid : Prop := Claim7.holds Tryz.pinned (.plain (OpenSpec.ofChange trustNamesSpec)) trustNamesCard

/-- THE TIED CARD OF 'mailroomlaw15.TrustTells'. -/
def trustTellsCard : Claim7 := { stood := { row := trustTellsRow, standIns := [], harness := (true, "c70e95fd7fe2e8912fd36cc50eddc0ff9ac4db57af2f7890af8c115062829d4e"), looks := false }, kinds := [], alts := [], laidByText := true, laidKinds := [.data, .data, .data, .data, .pinned], laidTests := true, laidLooks := .later }
def TrustTellsCardSaid : Prop := Claim7.holds Tryz.pinned (.plain (OpenSpec.ofChange trustTellsSpec)) trustTellsCard

/-- THE TIED CARD OF 'mailroomlaw15.TrustJudges'. -/
def trustJudgesCard : Claim7 := { stood := { row := trustJudgesRow, standIns := [], harness := (true, "c70e95fd7fe2e8912fd36cc50eddc0ff9ac4db57af2f7890af8c115062829d4e"), looks := false }, kinds := [], alts := [], laidByText := true, laidKinds := [.data, .data, .data, .data, .pinned], laidTests := true, laidLooks := .later }
def TrustJudgesCardSaid : Prop := Claim7.holds Tryz.pinned (.plain (OpenSpec.ofChange trustJudgesSpec)) trustJudgesCard

/-- THE TIED CARD OF 'mailroomlaw15.TrustRight'. -/
def trustRightCard : Claim7 := { stood := { row := trustRightRow, standIns := [], harness := (true, "c70e95fd7fe2e8912fd36cc50eddc0ff9ac4db57af2f7890af8c115062829d4e"), looks := false }, kinds := [], alts := [], laidByText := true, laidKinds := [.data, .data, .data, .data, .pinned], laidTests := true, laidLooks := .later }
def TrustRightCardSaid : Prop := Claim7.holds Tryz.pinned (.plain (OpenSpec.ofChange trustRightSpec)) trustRightCard

/-- THE TIED CARD OF 'mailroomlaw15.TrustLink'. -/
def trustLinkCard : Claim7 := { stood := { row := trustLinkRow, standIns := [], harness := (true, "c70e95fd7fe2e8912fd36cc50eddc0ff9ac4db57af2f7890af8c115062829d4e"), looks := false }, kinds := [], alts := [], laidByText := true, laidKinds := [.data, .data, .data, .data, .pinned], laidTests := true, laidLooks := .later }
def TrustLinkCardSaid : Prop := Claim7.holds Tryz.pinned (.plain (OpenSpec.ofChange trustLinkSpec)) trustLinkCard

/-- THE TIED CARD OF 'mailroomlaw15.TrustTimes'. -/
def trustTimesCard : Claim7 := { stood := { row := trustTimesRow, standIns := [], harness := (true, "c70e95fd7fe2e8912fd36cc50eddc0ff9ac4db57af2f7890af8c115062829d4e"), looks := false }, kinds := [], alts := [], laidByText := true, laidKinds := [.data, .data, .data, .data, .pinned], laidTests := true, laidLooks := .later }
def TrustTimesCardSaid : Prop := Claim7.holds Tryz.pinned (.plain (OpenSpec.ofChange trustTimesSpec)) trustTimesCard

/-- THE TIED CARD OF 'mailroomlaw15.TrustStar'. -/
def trustStarCard : Claim7 := { stood := { row := trustStarRow, standIns := [], harness := (true, "c70e95fd7fe2e8912fd36cc50eddc0ff9ac4db57af2f7890af8c115062829d4e"), looks := false }, kinds := [], alts := [], laidByText := true, laidKinds := [.data, .data, .data, .data, .pinned], laidTests := true, laidLooks := .later }
def TrustStarCardSaid : Prop := Claim7.holds Tryz.pinned (.plain (OpenSpec.ofChange trustStarSpec)) trustStarCard

/-- THE SECOND FORM's CARD OF 'mailroomlaw14.CertNames'. -/
def certNamesUptoCard : Claim7 := { stood := { row := certNamesUptoRow, standIns := [], harness := (true, "c70e95fd7fe2e8912fd36cc50eddc0ff9ac4db57af2f7890af8c115062829d4e"), looks := false }, kinds := [], alts := [], laidByText := true, laidKinds := [.data, .data, .data, .data, .pinned], laidTests := true, laidLooks := .later }
def CertNamesUptoCardSaid : Prop := Claim7.holds Tryz.pinned (.plain (OpenSpec.upto certNamesSpec)) certNamesUptoCard

/-- THE SECOND FORM's CARD OF 'mailroomlaw14.CertTells'. -/
def certTellsUptoCard : Claim7 := { stood := { row := certTellsUptoRow, standIns := [], harness := (true, "c70e95fd7fe2e8912fd36cc50eddc0ff9ac4db57af2f7890af8c115062829d4e"), looks := false }, kinds := [], alts := [], laidByText := true, laidKinds := [.data, .data, .data, .data, .pinned], laidTests := true, laidLooks := .later }
def CertTellsUptoCardSaid : Prop := Claim7.holds Tryz.pinned (.plain (OpenSpec.upto certTellsSpec)) certTellsUptoCard

/-- THE SECOND FORM's CARD OF 'mailroomlaw15.TrustNames'. -/
def trustNamesUptoCard : Claim7 := { stood := { row := trustNamesUptoRow, standIns := [], harness := (true, "c70e95fd7fe2e8912fd36cc50eddc0ff9ac4db57af2f7890af8c115062829d4e"), looks := false }, kinds := [], alts := [], laidByText := true, laidKinds := [.data, .data, .data, .data, .pinned], laidTests := true, laidLooks := .later }
def TrustNamesUptoCardSaid : Prop := Claim7.holds Tryz.pinned (.plain (OpenSpec.upto trustNamesSpec)) trustNamesUptoCard

/-- THE SECOND FORM's CARD OF 'mailroomlaw15.TrustTells'. -/
def trustTellsUptoCard : Claim7 := { stood := { row := trustTellsUptoRow, standIns := [], harness := (true, "c70e95fd7fe2e8912fd36cc50eddc0ff9ac4db57af2f7890af8c115062829d4e"), looks := false }, kinds := [], alts := [], laidByText := true, laidKinds := [.data, .data, .data, .data, .pinned], laidTests := true, laidLooks := .later }
def TrustTellsUptoCardSaid : Prop := Claim7.holds Tryz.pinned (.plain (OpenSpec.upto trustTellsSpec)) trustTellsUptoCard

/-- THE SECOND FORM's CARD OF 'mailroomlaw15.TrustJudges'. -/
def trustJudgesUptoCard : Claim7 := { stood := { row := trustJudgesUptoRow, standIns := [], harness := (true, "c70e95fd7fe2e8912fd36cc50eddc0ff9ac4db57af2f7890af8c115062829d4e"), looks := false }, kinds := [], alts := [], laidByText := true, laidKinds := [.data, .data, .data, .data, .pinned], laidTests := true, laidLooks := .later }
def TrustJudgesUptoCardSaid : Prop := Claim7.holds Tryz.pinned (.plain (OpenSpec.upto trustJudgesSpec)) trustJudgesUptoCard

/-- THE SECOND FORM's CARD OF 'mailroomlaw15.TrustRight'. -/
def trustRightUptoCard : Claim7 := { stood := { row := trustRightUptoRow, standIns := [], harness := (true, "c70e95fd7fe2e8912fd36cc50eddc0ff9ac4db57af2f7890af8c115062829d4e"), looks := false }, kinds := [], alts := [], laidByText := true, laidKinds := [.data, .data, .data, .data, .pinned], laidTests := true, laidLooks := .later }
def TrustRightUptoCardSaid : Prop := Claim7.holds Tryz.pinned (.plain (OpenSpec.upto trustRightSpec)) trustRightUptoCard

/-- THE SECOND FORM's CARD OF 'mailroomlaw15.TrustLink'. -/
def trustLinkUptoCard : Claim7 := { stood := { row := trustLinkUptoRow, standIns := [], harness := (true, "c70e95fd7fe2e8912fd36cc50eddc0ff9ac4db57af2f7890af8c115062829d4e"), looks := false }, kinds := [], alts := [], laidByText := true, laidKinds := [.data, .data, .data, .data, .pinned], laidTests := true, laidLooks := .later }
def TrustLinkUptoCardSaid : Prop := Claim7.holds Tryz.pinned (.plain (OpenSpec.upto trustLinkSpec)) trustLinkUptoCard

/-- THE SECOND FORM's CARD OF 'mailroomlaw15.TrustTimes'. -/
def trustTimesUptoCard : Claim7 := { stood := { row := trustTimesUptoRow, standIns := [], harness := (true, "c70e95fd7fe2e8912fd36cc50eddc0ff9ac4db57af2f7890af8c115062829d4e"), looks := false }, kinds := [], alts := [], laidByText := true, laidKinds := [.data, .data, .data, .data, .pinned], laidTests := true, laidLooks := .later }
def TrustTimesUptoCardSaid : Prop := Claim7.holds Tryz.pinned (.plain (OpenSpec.upto trustTimesSpec)) trustTimesUptoCard

/-- THE SECOND FORM's CARD OF 'mailroomlaw15.TrustStar'. -/
def trustStarUptoCard : Claim7 := { stood := { row := trustStarUptoRow, standIns := [], harness := (true, "c70e95fd7fe2e8912fd36cc50eddc0ff9ac4db57af2f7890af8c115062829d4e"), looks := false }, kinds := [], alts := [], laidByText := true, laidKinds := [.data, .data, .data, .data, .pinned], laidTests := true, laidLooks := .later }
def TrustStarUptoCardSaid : Prop := Claim7.holds Tryz.pinned (.plain (OpenSpec.upto trustStarSpec)) trustStarUptoCard
end Rows
end Go.Proofs.YtoinicmhkfomjaaGreatDoor
