/-
  DERIVED. GIVEN WITH THE SEED: THE CARDS: each row of YtamlblfhjpajhaaDoorRows.lean that lists a variable, with what it lists TIED to the program's text (the seventh form; the later family's looks); each row that meets fmt, with fmt's text TOLD by the authors' own Lean function (tested against real Go, not proved from fmt's source: count such statements apart). THE CARD IS WHAT COUNTS. Prove the row's statement (the work); the ties are given (YtamlblfhjpajhaaDoorTie.lean); close each card by the builder's one call (the guide's Derived/Test/ToyasCard.lean, 'card_holds'). Laid BY PROGRAM, IN A SANDBOX (cutbox-door.mjs). By AI agents, Wed Nov 11 2026. No macro, syntax, notation, axiom, sorry.
-/
import Derived.Test.YtamlblfhjpajhaaDoorRows
import GoSem.ClaimSeven
namespace Go.Proofs.YtamlblfhjpajhaaDoor
namespace Rows

/-- THE TIED CARD OF 'mailroomlaw14.CertBack'. -/
def certBackCard : Claim7 := { stood := { row := certBackRow, standIns := [], harness := (true, "59db5b41fe34679c85bb4a9d0d00cddba3e8365bea849b22f1e35b8ba4bc656b"), looks := false }, kinds := [], alts := [], laidByText := true, laidKinds := [.data, .data, .pinned], laidTests := true, laidLooks := .later }
def CertBackCardSaid : Prop := Claim7.holds Tryd.pinned (.plain (OpenSpec.ofChange certBackSpec)) certBackCard

/-- THE TIED CARD OF 'mailroomlaw14.CertCut'. -/
def certCutCard : Claim7 := { stood := { row := certCutRow, standIns := [], harness := (true, "59db5b41fe34679c85bb4a9d0d00cddba3e8365bea849b22f1e35b8ba4bc656b"), looks := false }, kinds := [], alts := [], laidByText := true, laidKinds := [.data, .data, .pinned], laidTests := true, laidLooks := .later }
def CertCutCardSaid : Prop := Claim7.holds Tryd.pinned (.plain (OpenSpec.ofChange certCutSpec)) certCutCard

/-- THE TIED CARD OF 'mailroomlaw14.CertWithin'. -/
def certWithinCard : Claim7 := { stood := { row := certWithinRow, standIns := [], harness := (true, "59db5b41fe34679c85bb4a9d0d00cddba3e8365bea849b22f1e35b8ba4bc656b"), looks := false }, kinds := [], alts := [], laidByText := true, laidKinds := [.data, .data, .data, .data, .pinned], laidTests := true, laidLooks := .later }
def CertWithinCardSaid : Prop := Claim7.holds Tryd.pinned (.plain (OpenSpec.ofChange certWithinSpec)) certWithinCard

/-- THE SECOND FORM's CARD OF 'mailroomlaw14.CertBack'. -/
def certBackUptoCard : Claim7 := { stood := { row := certBackUptoRow, standIns := [], harness := (true, "59db5b41fe34679c85bb4a9d0d00cddba3e8365bea849b22f1e35b8ba4bc656b"), looks := false }, kinds := [], alts := [], laidByText := true, laidKinds := [.data, .data, .pinned], laidTests := true, laidLooks := .later }
def CertBackUptoCardSaid : Prop := Claim7.holds Tryd.pinned (.plain (OpenSpec.upto certBackSpec)) certBackUptoCard

/-- THE SECOND FORM's CARD OF 'mailroomlaw14.CertCut'. -/
def certCutUptoCard : Claim7 := { stood := { row := certCutUptoRow, standIns := [], harness := (true, "59db5b41fe34679c85bb4a9d0d00cddba3e8365bea849b22f1e35b8ba4bc656b"), looks := false }, kinds := [], alts := [], laidByText := true, laidKinds := [.data, .data, .pinned], laidTests := true, laidLooks := .later }
def CertCutUptoCardSaid : Prop := Claim7.holds Tryd.pinned (.plain (OpenSpec.upto certCutSpec)) certCutUptoCard

/-- THE SECOND FORM's CARD OF 'mailroomlaw14.CertWithin'. -/
def certWithinUptoCard : Claim7 := { stood := { row := certWithinUptoRow, standIns := [], harness := (true, "59db5b41fe34679c85bb4a9d0d00cddba3e8365bea849b22f1e35b8ba4bc656b"), looks := false }, kinds := [], alts := [], laidByText := true, laidKinds := [.data, .data, .data, .data, .pinned], laidTests := true, laidLooks := .later }
def CertWithinUptoCardSaid : Prop := Claim7.holds Tryd.pinned (.plain (OpenSpec.upto certWithinSpec)) certWithinUptoCard
end Rows
end Go.Proofs.YtamlblfhjpajhaaDoor
