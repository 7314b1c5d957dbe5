/-
  DERIVED. GIVEN WITH THE SEED: THE CARDS: each row of YtbmelmmefgehoaaDoorRows.lean that lists a variable, with what it lists TIED to the program's text (the seventh form; the later family's looks); each row that meets fmt, with fmt's text TOLD by the authors' own Lean function (tested against real Go, not proved from fmt's source: count such statements apart). THE CARD IS WHAT COUNTS. Prove the row's statement (the work); the ties are given (YtbmelmmefgehoaaDoorTie.lean); close each card by the builder's one call (the guide's Derived/Test/ToyasCard.lean, 'card_holds'). Laid BY PROGRAM, IN A SANDBOX (cutbox-door.mjs). By AI agents, Wed Nov 11 2026. No macro, syntax, notation, axiom, sorry.
-/
import Derived.Test.YtbmelmmefgehoaaDoorRows
import GoSem.ClaimSeven
namespace Go.Proofs.YtbmelmmefgehoaaDoor
namespace Rows

/-- THE TIED CARD OF 'crierlaw20.SpaceBack'. -/
def spaceBackCard : Claim7 := { stood := { row := spaceBackRow, standIns := [], harness := (true, "ddd1e1c882c592352ba57c3b19e46bc101d15a7c892b47f10a8a05b613e63a25"), looks := false }, kinds := [], alts := [], laidByText := true, laidKinds := [.data], laidTests := true, laidLooks := .later }
def SpaceBackCardSaid : Prop := Claim7.holds Tryd.pinned (.plain (OpenSpec.ofChange spaceBackSpec)) spaceBackCard

/-- THE TIED CARD OF 'crierlaw20.SpaceOne'. -/
def spaceOneCard : Claim7 := { stood := { row := spaceOneRow, standIns := [], harness := (true, "ddd1e1c882c592352ba57c3b19e46bc101d15a7c892b47f10a8a05b613e63a25"), looks := false }, kinds := [], alts := [], laidByText := true, laidKinds := [.data], laidTests := true, laidLooks := .later }
def SpaceOneCardSaid : Prop := Claim7.holds Tryd.pinned (.plain (OpenSpec.ofChange spaceOneSpec)) spaceOneCard

/-- THE TIED CARD OF 'crierlaw20.SpaceWords'. -/
def spaceWordsCard : Claim7 := { stood := { row := spaceWordsRow, standIns := [], harness := (true, "ddd1e1c882c592352ba57c3b19e46bc101d15a7c892b47f10a8a05b613e63a25"), looks := false }, kinds := [], alts := [], laidByText := true, laidKinds := [.data], laidTests := true, laidLooks := .later }
def SpaceWordsCardSaid : Prop := Claim7.holds Tryd.pinned (.plain (OpenSpec.ofChange spaceWordsSpec)) spaceWordsCard

/-- THE TIED CARD OF 'crierlaw20.SpaceBirths'. -/
def spaceBirthsCard : Claim7 := { stood := { row := spaceBirthsRow, standIns := [], harness := (true, "ddd1e1c882c592352ba57c3b19e46bc101d15a7c892b47f10a8a05b613e63a25"), looks := false }, kinds := [], alts := [], laidByText := true, laidKinds := [.data], laidTests := true, laidLooks := .later }
def SpaceBirthsCardSaid : Prop := Claim7.holds Tryd.pinned (.plain (OpenSpec.ofChange spaceBirthsSpec)) spaceBirthsCard

/-- THE SECOND FORM's CARD OF 'crierlaw20.SpaceBack'. -/
def spaceBackUptoCard : Claim7 := { stood := { row := spaceBackUptoRow, standIns := [], harness := (true, "ddd1e1c882c592352ba57c3b19e46bc101d15a7c892b47f10a8a05b613e63a25"), looks := false }, kinds := [], alts := [], laidByText := true, laidKinds := [.data], laidTests := true, laidLooks := .later }
def SpaceBackUptoCardSaid : Prop := Claim7.holds Tryd.pinned (.plain (OpenSpec.upto spaceBackSpec)) spaceBackUptoCard

/-- THE SECOND FORM's CARD OF 'crierlaw20.SpaceOne'. -/
def spaceOneUptoCard : Claim7 := { stood := { row := spaceOneUptoRow, standIns := [], harness := (true, "ddd1e1c882c592352ba57c3b19e46bc101d15a7c892b47f10a8a05b613e63a25"), looks := false }, kinds := [], alts := [], laidByText := true, laidKinds := [.data], laidTests := true, laidLooks := .later }
def SpaceOneUptoCardSaid : Prop := Claim7.holds Tryd.pinned (.plain (OpenSpec.upto spaceOneSpec)) spaceOneUptoCard

/-- THE SECOND FORM's CARD OF 'crierlaw20.SpaceWords'. -/
def spaceWordsUptoCard : Claim7 := { stood := { row := spaceWordsUptoRow, standIns := [], harness := (true, "ddd1e1c882c592352ba57c3b19e46bc101d15a7c892b47f10a8a05b613e63a25"), looks := false }, kinds := [], alts := [], laidByText := true, laidKinds := [.data], laidTests := true, laidLooks := .later }
def SpaceWordsUptoCardSaid : Prop := Claim7.holds Tryd.pinned (.plain (OpenSpec.upto spaceWordsSpec)) spaceWordsUptoCard

/-- THE SECOND FORM's CARD OF 'crierlaw20.SpaceBirths'. -/
def spaceBirthsUptoCard : Claim7 := { stood := { row := spaceBirthsUptoRow, standIns := [], harness := (true, "ddd1e1c882c592352ba57c3b19e46bc101d15a7c892b47f10a8a05b613e63a25"), looks := false }, kinds := [], alts := [], laidByText := true, laidKinds := [.data], laidTests := true, laidLooks := .later }
def SpaceBirthsUptoCardSaid : Prop := Claim7.holds Tryd.pinned (.plain (OpenSpec.upto spaceBirthsSpec)) spaceBirthsUptoCard
end Rows
end Go.Proofs.YtbmelmmefgehoaaDoor
