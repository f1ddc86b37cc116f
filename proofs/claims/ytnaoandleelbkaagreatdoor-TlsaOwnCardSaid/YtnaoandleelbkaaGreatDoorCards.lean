/-
  DERIVED. GIVEN WITH THE SEED: THE CARDS: each row of YtnaoandleelbkaaGreatDoorRows.lean that lists a variable, with what it lists TIED to the program's text (the seventh form; the later family's looks); each row that meets fmt, with fmt's text TOLD by the authors' own Lean function (tested against real Go, not proved from fmt's source: count such statements apart). THE CARD IS WHAT COUNTS. Prove the row's statement (the work); the ties are given (YtnaoandleelbkaaGreatDoorTie.lean); close each card by the builder's one call (the guide's Derived/Test/ToyasCard.lean, 'card_holds'). Laid BY PROGRAM, IN A SANDBOX (cutbox-door.mjs). By AI agents, Wed Nov 11 2026. No macro, syntax, notation, axiom, sorry.
-/
import Derived.Test.YtnaoandleelbkaaGreatDoorRows
import GoSem.ClaimSeven
namespace Go.Proofs.YtnaoandleelbkaaGreatDoor
namespace Rows

/-- THE TIED CARD OF 'mailroomlaw14.CertNames'. -/
def certNamesCard : Claim7 := { stood := { row := certNamesRow, standIns := [], harness := (true, "82241be56dfe3dd129dca3385ae7e58a743b812fc8f8ad6eb6f88c302e4191fc"), looks := false }, kinds := [], alts := [], laidByText := true, laidKinds := [.data, .data, .data, .data, .pinned], laidTests := true, laidLooks := .later }
def CertNamesCardSaid : Prop := Claim7.holds Tryz.pinned (.plain (OpenSpec.ofChange certNamesSpec)) certNamesCard

/-- THE TIED CARD OF 'mailroomlaw14.CertTells'. -/
def certTellsCard : Claim7 := { stood := { row := certTellsRow, standIns := [], harness := (true, "82241be56dfe3dd129dca3385ae7e58a743b812fc8f8ad6eb6f88c302e4191fc"), looks := false }, kinds := [], alts := [], laidByText := true, laidKinds := [.data, .data, .data, .data, .pinned], laidTests := true, laidLooks := .later }
def CertTellsCardSaid : Prop := Claim7.holds Tryz.pinned (.plain (OpenSpec.ofChange certTellsSpec)) certTellsCard

/-- THE TIED CARD OF 'mailroomlaw15.TrustNames'. -/
def trustNamesCard : Claim7 := { stood := { row := trustNamesRow, standIns := [], harness := (true, "82241be56dfe3dd129dca3385ae7e58a743b812fc8f8ad6eb6f88c302e4191fc"), looks := false }, kinds := [], alts := [], laidByText := true, laidKinds := [.data, .data, .data, .data, .pinned], laidTests := true, laidLooks := .later }
def TrustNamesCardSaid : Prop := Claim7.holds Tryz.pinned (.plain (OpenSpec.ofChange trustNamesSpec)) trustNamesCard

/-- THE TIED CARD OF 'mailroomlaw15.TrustJudges'. -/
def trustJudgesCard : Claim7 := { stood := { row := trustJudgesRow, standIns := [], harness := (true, "82241be56dfe3dd129dca3385ae7e58a743b812fc8f8ad6eb6f88c302e4191fc"), looks := false }, kinds := [], alts := [], laidByText := true, laidKinds := [.data, .data, .data, .data, .pinned], laidTests := true, laidLooks := .later }
def TrustJudgesCardSaid : Prop := Claim7.holds Tryz.pinned (.plain (OpenSpec.ofChange trustJudgesSpec)) trustJudgesCard

/-- THE TIED CARD OF 'mailroomlaw16.TlsaNames'. -/
def tlsaNamesCard : Claim7 := { stood := { row := tlsaNamesRow, standIns := [], harness := (true, "82241be56dfe3dd129dca3385ae7e58a743b812fc8f8ad6eb6f88c302e4191fc"), looks := false }, kinds := [], alts := [], laidByText := true, laidKinds := [.data, .data, .data, .data, .data, .data, .data, .pinned], laidTests := true, laidLooks := .later }
def TlsaNamesCardSaid : Prop := Claim7.holds Tryz.pinned (.plain (OpenSpec.ofChange tlsaNamesSpec)) tlsaNamesCard

/-- THE TIED CARD OF 'mailroomlaw16.TlsaTells'. -/
def tlsaTellsCard : Claim7 := { stood := { row := tlsaTellsRow, standIns := [], harness := (true, "82241be56dfe3dd129dca3385ae7e58a743b812fc8f8ad6eb6f88c302e4191fc"), looks := false }, kinds := [], alts := [], laidByText := true, laidKinds := [.data, .data, .data, .data, .data, .data, .data, .pinned], laidTests := true, laidLooks := .later }
def TlsaTellsCardSaid : Prop := Claim7.holds Tryz.pinned (.plain (OpenSpec.ofChange tlsaTellsSpec)) tlsaTellsCard

/-- THE TIED CARD OF 'mailroomlaw16.TlsaMatches'. -/
def tlsaMatchesCard : Claim7 := { stood := { row := tlsaMatchesRow, standIns := [], harness := (true, "82241be56dfe3dd129dca3385ae7e58a743b812fc8f8ad6eb6f88c302e4191fc"), looks := false }, kinds := [], alts := [], laidByText := true, laidKinds := [.data, .data, .data, .data, .data, .data, .data, .pinned], laidTests := true, laidLooks := .later }
def TlsaMatchesCardSaid : Prop := Claim7.holds Tryz.pinned (.plain (OpenSpec.ofChange tlsaMatchesSpec)) tlsaMatchesCard

/-- THE TIED CARD OF 'mailroomlaw16.TlsaMade'. -/
def tlsaMadeCard : Claim7 := { stood := { row := tlsaMadeRow, standIns := [], harness := (true, "82241be56dfe3dd129dca3385ae7e58a743b812fc8f8ad6eb6f88c302e4191fc"), looks := false }, kinds := [], alts := [], laidByText := true, laidKinds := [.data, .data, .data, .data, .data, .data, .data, .pinned], laidTests := true, laidLooks := .later }
def TlsaMadeCardSaid : Prop := Claim7.holds Tryz.pinned (.plain (OpenSpec.ofChange tlsaMadeSpec)) tlsaMadeCard

/-- THE TIED CARD OF 'mailroomlaw16.TlsaOwn'. -/
def tlsaOwnCard : Claim7 := { stood := { row := tlsaOwnRow, standIns := [], harness := (true, "82241be56dfe3dd129dca3385ae7e58a743b812fc8f8ad6eb6f88c302e4191fc"), looks := false }, kinds := [], alts := [], laidByText := true, laidKinds := [.data, .data, .data, .data, .data, .data, .data, .pinned], laidTests := true, laidLooks := .later }
def TlsaOwnCardSaid : Prop := Claim7.holds Tryz.pinned (.plain (OpenSpec.ofChange tlsaOwnSpec)) tlsaOwnCard

/-- THE TIED CARD OF 'mailroomlaw16.TlsaMore'. -/
def tlsaMoreCard : Claim7 := { stood := { row := tlsaMoreRow, standIns := [], harness := (true, "82241be56dfe3dd129dca3385ae7e58a743b812fc8f8ad6eb6f88c302e4191fc"), looks := false }, kinds := [], alts := [], laidByText := true, laidKinds := [.data, .data, .data, .data, .data, .data, .data, .pinned], laidTests := true, laidLooks := .later }
def TlsaMoreCardSaid : Prop := Claim7.holds Tryz.pinned (.plain (OpenSpec.ofChange tlsaMoreSpec)) tlsaMoreCard

/-- THE SECOND FORM's CARD OF 'mailroomlaw14.CertNames'. -/
def certNamesUptoCard : Claim7 := { stood := { row := certNamesUptoRow, standIns := [], harness := (true, "82241be56dfe3dd129dca3385ae7e58a743b812fc8f8ad6eb6f88c302e4191fc"), looks := false }, kinds := [], alts := [], laidByText := true, laidKinds := [.data, .data, .data, .data, .pinned], laidTests := true, laidLooks := .later }
def CertNamesUptoCardSaid : Prop := Claim7.holds Tryz.pinned (.plain (OpenSpec.upto certNamesSpec)) certNamesUptoCard

/-- THE SECOND FORM's CARD OF 'mailroomlaw14.CertTells'. -/
def certTellsUptoCard : Claim7 := { stood := { row := certTellsUptoRow, standIns := [], harness := (true, "82241be56dfe3dd129dca3385ae7e58a743b812fc8f8ad6eb6f88c302e4191fc"), looks := false }, kinds := [], alts := [], laidByText := true, laidKinds := [.data, .data, .data, .data, .pinned], laidTests := true, laidLooks := .later }
def CertTellsUptoCardSaid : Prop := Claim7.holds Tryz.pinned (.plain (OpenSpec.upto certTellsSpec)) certTellsUptoCard

/-- THE SECOND FORM's CARD OF 'mailroomlaw15.TrustNames'. -/
def trustNamesUptoCard : Claim7 := { stood := { row := trustNamesUptoRow, standIns := [], harness := (true, "82241be56dfe3dd129dca3385ae7e58a743b812fc8f8ad6eb6f88c302e4191fc"), looks := false }, kinds := [], alts := [], laidByText := true, laidKinds := [.data, .data, .data, .data, .pinned], laidTests := true, laidLooks := .later }
def TrustNamesUptoCardSaid : Prop := Claim7.holds Tryz.pinned (.plain (OpenSpec.upto trustNamesSpec)) trustNamesUptoCard

/-- THE SECOND FORM's CARD OF 'mailroomlaw15.TrustJudges'. -/
def trustJudgesUptoCard : Claim7 := { stood := { row := trustJudgesUptoRow, standIns := [], harness := (true, "82241be56dfe3dd129dca3385ae7e58a743b812fc8f8ad6eb6f88c302e4191fc"), looks := false }, kinds := [], alts := [], laidByText := true, laidKinds := [.data, .data, .data, .data, .pinned], laidTests := true, laidLooks := .later }
def TrustJudgesUptoCardSaid : Prop := Claim7.holds Tryz.pinned (.plain (OpenSpec.upto trustJudgesSpec)) trustJudgesUptoCard

/-- THE SECOND FORM's CARD OF 'mailroomlaw16.TlsaNames'. -/
def tlsaNamesUptoCard : Claim7 := { stood := { row := tlsaNamesUptoRow, standIns := [], harness := (true, "82241be56dfe3dd129dca3385ae7e58a743b812fc8f8ad6eb6f88c302e4191fc"), looks := false }, kinds := [], alts := [], laidByText := true, laidKinds := [.data, .data, .data, .data, .data, .data, .data, .pinned], laidTests := true, laidLooks := .later }
def TlsaNamesUptoCardSaid : Prop := Claim7.holds Tryz.pinned (.plain (OpenSpec.upto tlsaNamesSpec)) tlsaNamesUptoCard

/-- THE SECOND FORM's CARD OF 'mailroomlaw16.TlsaTells'. -/
def tlsaTellsUptoCard : Claim7 := { stood := { row := tlsaTellsUptoRow, standIns := [], harness := (true, "82241be56dfe3dd129dca3385ae7e58a743b812fc8f8ad6eb6f88c302e4191fc"), looks := false }, kinds := [], alts := [], laidByText := true, laidKinds := [.data, .data, .data, .data, .data, .data, .data, .pinned], laidTests := true, laidLooks := .later }
def TlsaTellsUptoCardSaid : Prop := Claim7.holds Tryz.pinned (.plain (OpenSpec.upto tlsaTellsSpec)) tlsaTellsUptoCard

/-- THE SECOND FORM's CARD OF 'mailroomlaw16.TlsaMatches'. -/
def tlsaMatchesUptoCard : Claim7 := { stood := { row := tlsaMatchesUptoRow, standIns := [], harness := (true, "82241be56dfe3dd129dca3385ae7e58a743b812fc8f8ad6eb6f88c302e4191fc"), looks := false }, kinds := [], alts := [], laidByText := true, laidKinds := [.data, .data, .data, .data, .data, .data, .data, .pinned], laidTests := true, laidLooks := .later }
def TlsaMatchesUptoCardSaid : Prop := Claim7.holds Tryz.pinned (.plain (OpenSpec.upto tlsaMatchesSpec)) tlsaMatchesUptoCard

/-- THE SECOND FORM's CARD OF 'mailroomlaw16.TlsaMade'. -/
def tlsaMadeUptoCard : Claim7 := { stood := { row := tlsaMadeUptoRow, standIns := [], harness := (true, "82241be56dfe3dd129dca3385ae7e58a743b812fc8f8ad6eb6f88c302e4191fc"), looks := false }, kinds := [], alts := [], laidByText := true, laidKinds := [.data, .data, .data, .data, .data, .data, .data, .pinned], laidTests := true, laidLooks := .later }
def TlsaMadeUptoCardSaid : Prop := Claim7.holds Tryz.pinned (.plain (OpenSpec.upto tlsaMadeSpec)) tlsaMadeUptoCard

/-- THE SECOND FORM's CARD OF 'mailroomlaw16.TlsaOwn'. -/
def tlsaOwnUptoCard : Claim7 := { stood := { row := tlsaOwnUptoRow, standIns := [], harness := (true, "82241be56dfe3dd129dca3385ae7e58a743b812fc8f8ad6eb6f88c302e4191fc"), looks := false }, kinds := [], alts := [], laidByText := true, laidKinds := [.data, .data, .data, .data, .data, .data, .data, .pinned], laidTests := true, laidLooks := .later }
def TlsaOwnUptoCardSaid : Prop := Claim7.holds Tryz.pinned (.plain (OpenSpec.upto tlsaOwnSpec)) tlsaOwnUptoCard

/-- THE SECOND FORM's CARD OF 'mailroomlaw16.TlsaMore'. -/
def tlsaMoreUptoCard : Claim7 := { stood := { row := tlsaMoreUptoRow, standIns := [], harness := (true, "82241be56dfe3dd129dca3385ae7e58a743b812fc8f8ad6eb6f88c302e4191fc"), looks := false }, kinds := [], alts := [], laidByText := true, laidKinds := [.data, .data, .data, .data, .data, .data, .data, .pinned], laidTests := true, laidLooks := .later }
def TlsaMoreUptoCardSaid : Prop := Claim7.holds Tryz.pinned (.plain (OpenSpec.upto tlsaMoreSpec)) tlsaMoreUptoCard
end Rows
end Go.Proofs.YtnaoandleelbkaaGreatDoor
