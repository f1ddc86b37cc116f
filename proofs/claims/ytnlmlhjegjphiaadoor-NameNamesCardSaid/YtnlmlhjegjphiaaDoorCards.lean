/-
  DERIVED. GIVEN WITH THE SEED: THE CARDS: each row of YtnlmlhjegjphiaaDoorRows.lean that lists a variable, with what it lists TIED to the program's text (the seventh form; the later family's looks); each row that meets fmt, with fmt's text TOLD by the authors' own Lean function (tested against real Go, not proved from fmt's source: count such statements apart). THE CARD IS WHAT COUNTS. Prove the row's statement (the work); the ties are given (YtnlmlhjegjphiaaDoorTie.lean); close each card by the builder's one call (the guide's Derived/Test/ToyasCard.lean, 'card_holds'). Laid BY PROGRAM, IN A SANDBOX (cutbox-door.mjs). By AI agents, Wed Nov 11 2026. No macro, syntax, notation, axiom, sorry.
-/
import Derived.Test.YtnlmlhjegjphiaaDoorRows
import GoSem.ClaimSeven
namespace Go.Proofs.YtnlmlhjegjphiaaDoor
namespace Rows

/-- THE TIED CARD OF 'mailroomlaw03.NameNames'. -/
def nameNamesCard : Claim7 := { stood := { row := nameNamesRow, standIns := [], harness := (true, "9185566dc63d39f54571e4b44863c6602ea0bc8c7e22a708c4f4cb7279eff4f9"), looks := false }, kinds := [], alts := [], laidByText := true, laidKinds := [.data, .pinned], laidTests := true, laidLooks := .later }
def NameNamesCardSaid : Prop := Claim7.holds Tryd.pinned (.plain (OpenSpec.ofChange nameNamesSpec)) nameNamesCard

/-- THE TIED CARD OF 'mailroomlaw03.NameTells'. -/
def nameTellsCard : Claim7 := { stood := { row := nameTellsRow, standIns := [], harness := (true, "9185566dc63d39f54571e4b44863c6602ea0bc8c7e22a708c4f4cb7279eff4f9"), looks := false }, kinds := [], alts := [], laidByText := true, laidKinds := [.data, .pinned], laidTests := true, laidLooks := .later }
def NameTellsCardSaid : Prop := Claim7.holds Tryd.pinned (.plain (OpenSpec.ofChange nameTellsSpec)) nameTellsCard

/-- THE TIED CARD OF 'mailroomlaw03.NameMatches'. -/
def nameMatchesCard : Claim7 := { stood := { row := nameMatchesRow, standIns := [], harness := (true, "9185566dc63d39f54571e4b44863c6602ea0bc8c7e22a708c4f4cb7279eff4f9"), looks := false }, kinds := [], alts := [], laidByText := true, laidKinds := [.data, .pinned], laidTests := true, laidLooks := .later }
def NameMatchesCardSaid : Prop := Claim7.holds Tryd.pinned (.plain (OpenSpec.ofChange nameMatchesSpec)) nameMatchesCard

/-- THE TIED CARD OF 'mailroomlaw03.NameFolds'. -/
def nameFoldsCard : Claim7 := { stood := { row := nameFoldsRow, standIns := [], harness := (true, "9185566dc63d39f54571e4b44863c6602ea0bc8c7e22a708c4f4cb7279eff4f9"), looks := false }, kinds := [], alts := [], laidByText := true, laidKinds := [.data, .pinned], laidTests := true, laidLooks := .later }
def NameFoldsCardSaid : Prop := Claim7.holds Tryd.pinned (.plain (OpenSpec.ofChange nameFoldsSpec)) nameFoldsCard

/-- THE TIED CARD OF 'mailroomlaw03.NameParts'. -/
def namePartsCard : Claim7 := { stood := { row := namePartsRow, standIns := [], harness := (true, "9185566dc63d39f54571e4b44863c6602ea0bc8c7e22a708c4f4cb7279eff4f9"), looks := false }, kinds := [], alts := [], laidByText := true, laidKinds := [.data, .pinned], laidTests := true, laidLooks := .later }
def NamePartsCardSaid : Prop := Claim7.holds Tryd.pinned (.plain (OpenSpec.ofChange namePartsSpec)) namePartsCard

/-- THE TIED CARD OF 'mailroomlaw03.NameStar'. -/
def nameStarCard : Claim7 := { stood := { row := nameStarRow, standIns := [], harness := (true, "9185566dc63d39f54571e4b44863c6602ea0bc8c7e22a708c4f4cb7279eff4f9"), looks := false }, kinds := [], alts := [], laidByText := true, laidKinds := [.data, .pinned], laidTests := true, laidLooks := .later }
def NameStarCardSaid : Prop := Claim7.holds Tryd.pinned (.plain (OpenSpec.ofChange nameStarSpec)) nameStarCard

/-- THE TIED CARD OF 'mailroomlaw03.NameRow'. -/
def nameRowCard : Claim7 := { stood := { row := nameRowRow, standIns := [], harness := (true, "9185566dc63d39f54571e4b44863c6602ea0bc8c7e22a708c4f4cb7279eff4f9"), looks := false }, kinds := [], alts := [], laidByText := true, laidKinds := [.data, .pinned], laidTests := true, laidLooks := .later }
def NameRowCardSaid : Prop := Claim7.holds Tryd.pinned (.plain (OpenSpec.ofChange nameRowSpec)) nameRowCard

/-- THE SECOND FORM's CARD OF 'mailroomlaw03.NameNames'. -/
def nameNamesUptoCard : Claim7 := { stood := { row := nameNamesUptoRow, standIns := [], harness := (true, "9185566dc63d39f54571e4b44863c6602ea0bc8c7e22a708c4f4cb7279eff4f9"), looks := false }, kinds := [], alts := [], laidByText := true, laidKinds := [.data, .pinned], laidTests := true, laidLooks := .later }
def NameNamesUptoCardSaid : Prop := Claim7.holds Tryd.pinned (.plain (OpenSpec.upto nameNamesSpec)) nameNamesUptoCard

/-- THE SECOND FORM's CARD OF 'mailroomlaw03.NameTells'. -/
def nameTellsUptoCard : Claim7 := { stood := { row := nameTellsUptoRow, standIns := [], harness := (true, "9185566dc63d39f54571e4b44863c6602ea0bc8c7e22a708c4f4cb7279eff4f9"), looks := false }, kinds := [], alts := [], laidByText := true, laidKinds := [.data, .pinned], laidTests := true, laidLooks := .later }
def NameTellsUptoCardSaid : Prop := Claim7.holds Tryd.pinned (.plain (OpenSpec.upto nameTellsSpec)) nameTellsUptoCard

/-- THE SECOND FORM's CARD OF 'mailroomlaw03.NameMatches'. -/
def nameMatchesUptoCard : Claim7 := { stood := { row := nameMatchesUptoRow, standIns := [], harness := (true, "9185566dc63d39f54571e4b44863c6602ea0bc8c7e22a708c4f4cb7279eff4f9"), looks := false }, kinds := [], alts := [], laidByText := true, laidKinds := [.data, .pinned], laidTests := true, laidLooks := .later }
def NameMatchesUptoCardSaid : Prop := Claim7.holds Tryd.pinned (.plain (OpenSpec.upto nameMatchesSpec)) nameMatchesUptoCard

/-- THE SECOND FORM's CARD OF 'mailroomlaw03.NameFolds'. -/
def nameFoldsUptoCard : Claim7 := { stood := { row := nameFoldsUptoRow, standIns := [], harness := (true, "9185566dc63d39f54571e4b44863c6602ea0bc8c7e22a708c4f4cb7279eff4f9"), looks := false }, kinds := [], alts := [], laidByText := true, laidKinds := [.data, .pinned], laidTests := true, laidLooks := .later }
def NameFoldsUptoCardSaid : Prop := Claim7.holds Tryd.pinned (.plain (OpenSpec.upto nameFoldsSpec)) nameFoldsUptoCard

/-- THE SECOND FORM's CARD OF 'mailroomlaw03.NameParts'. -/
def namePartsUptoCard : Claim7 := { stood := { row := namePartsUptoRow, standIns := [], harness := (true, "9185566dc63d39f54571e4b44863c6602ea0bc8c7e22a708c4f4cb7279eff4f9"), looks := false }, kinds := [], alts := [], laidByText := true, laidKinds := [.data, .pinned], laidTests := true, laidLooks := .later }
def NamePartsUptoCardSaid : Prop := Claim7.holds Tryd.pinned (.plain (OpenSpec.upto namePartsSpec)) namePartsUptoCard

/-- THE SECOND FORM's CARD OF 'mailroomlaw03.NameStar'. -/
def nameStarUptoCard : Claim7 := { stood := { row := nameStarUptoRow, standIns := [], harness := (true, "9185566dc63d39f54571e4b44863c6602ea0bc8c7e22a708c4f4cb7279eff4f9"), looks := false }, kinds := [], alts := [], laidByText := true, laidKinds := [.data, .pinned], laidTests := true, laidLooks := .later }
def NameStarUptoCardSaid : Prop := Claim7.holds Tryd.pinned (.plain (OpenSpec.upto nameStarSpec)) nameStarUptoCard

/-- THE SECOND FORM's CARD OF 'mailroomlaw03.NameRow'. -/
def nameRowUptoCard : Claim7 := { stood := { row := nameRowUptoRow, standIns := [], harness := (true, "9185566dc63d39f54571e4b44863c6602ea0bc8c7e22a708c4f4cb7279eff4f9"), looks := false }, kinds := [], alts := [], laidByText := true, laidKinds := [.data, .pinned], laidTests := true, laidLooks := .later }
def NameRowUptoCardSaid : Prop := Claim7.holds Tryd.pinned (.plain (OpenSpec.upto nameRowSpec)) nameRowUptoCard
end Rows
end Go.Proofs.YtnlmlhjegjphiaaDoor
