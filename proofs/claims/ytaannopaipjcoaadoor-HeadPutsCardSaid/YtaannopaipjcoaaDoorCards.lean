/-
  DERIVED. GIVEN WITH THE SEED: THE CARDS: each row of YtaannopaipjcoaaDoorRows.lean that lists a variable, with what it lists TIED to the program's text (the seventh form; the later family's looks); each row that meets fmt, with fmt's text TOLD by the authors' own Lean function (tested against real Go, not proved from fmt's source: count such statements apart). THE CARD IS WHAT COUNTS. Prove the row's statement (the work); the ties are given (YtaannopaipjcoaaDoorTie.lean); close each card by the builder's one call (the guide's Derived/Test/ToyasCard.lean, 'card_holds'). Laid BY PROGRAM, IN A SANDBOX (cutbox-door.mjs). By AI agents, Wed Nov 11 2026. No macro, syntax, notation, axiom, sorry.
-/
import Derived.Test.YtaannopaipjcoaaDoorRows
import GoSem.ClaimSeven
namespace Go.Proofs.YtaannopaipjcoaaDoor
namespace Rows

/-- THE TIED CARD OF 'crierlaw11.HeadPuts'. -/
def headPutsCard : Claim7 := { stood := { row := headPutsRow, standIns := [], harness := (true, "29bcc7298725e8b0b87849ffadb89d9b7fff21a387b63d29bcbba5cee3863427"), looks := false }, kinds := [], alts := [], laidByText := true, laidKinds := [.data], laidTests := true, laidLooks := .later }
def HeadPutsCardSaid : Prop := Claim7.holds Tryd.pinned (.plain (OpenSpec.ofChange headPutsSpec)) headPutsCard

/-- THE TIED CARD OF 'crierlaw11.HeadReads'. -/
def headReadsCard : Claim7 := { stood := { row := headReadsRow, standIns := [], harness := (true, "29bcc7298725e8b0b87849ffadb89d9b7fff21a387b63d29bcbba5cee3863427"), looks := false }, kinds := [], alts := [], laidByText := true, laidKinds := [.data], laidTests := true, laidLooks := .later }
def HeadReadsCardSaid : Prop := Claim7.holds Tryd.pinned (.plain (OpenSpec.ofChange headReadsSpec)) headReadsCard

/-- THE TIED CARD OF 'crierlaw11.HeadBack'. -/
def headBackCard : Claim7 := { stood := { row := headBackRow, standIns := [], harness := (true, "29bcc7298725e8b0b87849ffadb89d9b7fff21a387b63d29bcbba5cee3863427"), looks := false }, kinds := [], alts := [], laidByText := true, laidKinds := [.data], laidTests := true, laidLooks := .later }
def HeadBackCardSaid : Prop := Claim7.holds Tryd.pinned (.plain (OpenSpec.ofChange headBackSpec)) headBackCard

/-- THE TIED CARD OF 'crierlaw11.HeadFlags'. -/
def headFlagsCard : Claim7 := { stood := { row := headFlagsRow, standIns := [], harness := (true, "29bcc7298725e8b0b87849ffadb89d9b7fff21a387b63d29bcbba5cee3863427"), looks := false }, kinds := [], alts := [], laidByText := true, laidKinds := [.data], laidTests := true, laidLooks := .later }
def HeadFlagsCardSaid : Prop := Claim7.holds Tryd.pinned (.plain (OpenSpec.ofChange headFlagsSpec)) headFlagsCard

/-- THE SECOND FORM's CARD OF 'crierlaw11.HeadPuts'. -/
def headPutsUptoCard : Claim7 := { stood := { row := headPutsUptoRow, standIns := [], harness := (true, "29bcc7298725e8b0b87849ffadb89d9b7fff21a387b63d29bcbba5cee3863427"), looks := false }, kinds := [], alts := [], laidByText := true, laidKinds := [.data], laidTests := true, laidLooks := .later }
def HeadPutsUptoCardSaid : Prop := Claim7.holds Tryd.pinned (.plain (OpenSpec.upto headPutsSpec)) headPutsUptoCard

/-- THE SECOND FORM's CARD OF 'crierlaw11.HeadReads'. -/
def headReadsUptoCard : Claim7 := { stood := { row := headReadsUptoRow, standIns := [], harness := (true, "29bcc7298725e8b0b87849ffadb89d9b7fff21a387b63d29bcbba5cee3863427"), looks := false }, kinds := [], alts := [], laidByText := true, laidKinds := [.data], laidTests := true, laidLooks := .later }
def HeadReadsUptoCardSaid : Prop := Claim7.holds Tryd.pinned (.plain (OpenSpec.upto headReadsSpec)) headReadsUptoCard

/-- THE SECOND FORM's CARD OF 'crierlaw11.HeadBack'. -/
def headBackUptoCard : Claim7 := { stood := { row := headBackUptoRow, standIns := [], harness := (true, "29bcc7298725e8b0b87849ffadb89d9b7fff21a387b63d29bcbba5cee3863427"), looks := false }, kinds := [], alts := [], laidByText := true, laidKinds := [.data], laidTests := true, laidLooks := .later }
def HeadBackUptoCardSaid : Prop := Claim7.holds Tryd.pinned (.plain (OpenSpec.upto headBackSpec)) headBackUptoCard

/-- THE SECOND FORM's CARD OF 'crierlaw11.HeadFlags'. -/
def headFlagsUptoCard : Claim7 := { stood := { row := headFlagsUptoRow, standIns := [], harness := (true, "29bcc7298725e8b0b87849ffadb89d9b7fff21a387b63d29bcbba5cee3863427"), looks := false }, kinds := [], alts := [], laidByText := true, laidKinds := [.data], laidTests := true, laidLooks := .later }
def HeadFlagsUptoCardSaid : Prop := Claim7.holds Tryd.pinned (.plain (OpenSpec.upto headFlagsSpec)) headFlagsUptoCard
end Rows
end Go.Proofs.YtaannopaipjcoaaDoor
