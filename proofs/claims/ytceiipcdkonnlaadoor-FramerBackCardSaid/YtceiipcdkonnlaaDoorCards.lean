/-
  DERIVED. GIVEN WITH THE SEED: THE CARDS: each row of YtceiipcdkonnlaaDoorRows.lean that lists a variable, with what it lists TIED to the program's text (the seventh form; the later family's looks); each row that meets fmt, with fmt's text TOLD by the authors' own Lean function (tested against real Go, not proved from fmt's source: count such statements apart). THE CARD IS WHAT COUNTS. Prove the row's statement (the work); the ties are given (YtceiipcdkonnlaaDoorTie.lean); close each card by the builder's one call (the guide's Derived/Test/ToyasCard.lean, 'card_holds'). Laid BY PROGRAM, IN A SANDBOX (cutbox-door.mjs). By AI agents, Wed Nov 11 2026. No macro, syntax, notation, axiom, sorry.
-/
import Derived.Test.YtceiipcdkonnlaaDoorRows
import GoSem.ClaimSeven
namespace Go.Proofs.YtceiipcdkonnlaaDoor
namespace Rows

/-- THE TIED CARD OF 'crierlaw12.FramerPlays'. -/
def framerPlaysCard : Claim7 := { stood := { row := framerPlaysRow, standIns := [], harness := (true, "672b6a6cefaa010d16e4b50a8dc8818406e39970c3635d89ab85666ef5c56cfa"), looks := true }, kinds := [], alts := [], laidByText := true, laidKinds := [.data, .handle, .sentinel], laidTests := true, laidLooks := .later }
def FramerPlaysCardSaid : Prop := Claim7.holds Tryd.pinned (.plain (OpenSpec.ofChange framerPlaysSpec)) framerPlaysCard

/-- THE TIED CARD OF 'crierlaw12.FramerChunks'. -/
def framerChunksCard : Claim7 := { stood := { row := framerChunksRow, standIns := [], harness := (true, "672b6a6cefaa010d16e4b50a8dc8818406e39970c3635d89ab85666ef5c56cfa"), looks := true }, kinds := [], alts := [], laidByText := true, laidKinds := [.data, .handle, .sentinel], laidTests := true, laidLooks := .later }
def FramerChunksCardSaid : Prop := Claim7.holds Tryd.pinned (.plain (OpenSpec.ofChange framerChunksSpec)) framerChunksCard

/-- THE TIED CARD OF 'crierlaw12.FramerBack'. -/
def framerBackCard : Claim7 := { stood := { row := framerBackRow, standIns := [], harness := (true, "672b6a6cefaa010d16e4b50a8dc8818406e39970c3635d89ab85666ef5c56cfa"), looks := true }, kinds := [], alts := [], laidByText := true, laidKinds := [.data, .handle, .sentinel], laidTests := true, laidLooks := .later }
def FramerBackCardSaid : Prop := Claim7.holds Tryd.pinned (.plain (OpenSpec.ofChange framerBackSpec)) framerBackCard

/-- THE TIED CARD OF 'crierlaw12.FramerDead'. -/
def framerDeadCard : Claim7 := { stood := { row := framerDeadRow, standIns := [], harness := (true, "672b6a6cefaa010d16e4b50a8dc8818406e39970c3635d89ab85666ef5c56cfa"), looks := true }, kinds := [], alts := [], laidByText := true, laidKinds := [.data, .handle, .sentinel], laidTests := true, laidLooks := .later }
def FramerDeadCardSaid : Prop := Claim7.holds Tryd.pinned (.plain (OpenSpec.ofChange framerDeadSpec)) framerDeadCard

/-- THE TIED CARD OF 'crierlaw12.FramerZero'. -/
def framerZeroCard : Claim7 := { stood := { row := framerZeroRow, standIns := [], harness := (true, "672b6a6cefaa010d16e4b50a8dc8818406e39970c3635d89ab85666ef5c56cfa"), looks := true }, kinds := [], alts := [], laidByText := true, laidKinds := [.data, .handle, .sentinel], laidTests := true, laidLooks := .later }
def FramerZeroCardSaid : Prop := Claim7.holds Tryd.pinned (.plain (OpenSpec.ofChange framerZeroSpec)) framerZeroCard

/-- THE SECOND FORM's CARD OF 'crierlaw12.FramerPlays'. -/
def framerPlaysUptoCard : Claim7 := { stood := { row := framerPlaysUptoRow, standIns := [], harness := (true, "672b6a6cefaa010d16e4b50a8dc8818406e39970c3635d89ab85666ef5c56cfa"), looks := true }, kinds := [], alts := [], laidByText := true, laidKinds := [.data, .handle, .sentinel], laidTests := true, laidLooks := .later }
def FramerPlaysUptoCardSaid : Prop := Claim7.holds Tryd.pinned (.plain (OpenSpec.upto framerPlaysSpec)) framerPlaysUptoCard

/-- THE SECOND FORM's CARD OF 'crierlaw12.FramerChunks'. -/
def framerChunksUptoCard : Claim7 := { stood := { row := framerChunksUptoRow, standIns := [], harness := (true, "672b6a6cefaa010d16e4b50a8dc8818406e39970c3635d89ab85666ef5c56cfa"), looks := true }, kinds := [], alts := [], laidByText := true, laidKinds := [.data, .handle, .sentinel], laidTests := true, laidLooks := .later }
def FramerChunksUptoCardSaid : Prop := Claim7.holds Tryd.pinned (.plain (OpenSpec.upto framerChunksSpec)) framerChunksUptoCard

/-- THE SECOND FORM's CARD OF 'crierlaw12.FramerBack'. -/
def framerBackUptoCard : Claim7 := { stood := { row := framerBackUptoRow, standIns := [], harness := (true, "672b6a6cefaa010d16e4b50a8dc8818406e39970c3635d89ab85666ef5c56cfa"), looks := true }, kinds := [], alts := [], laidByText := true, laidKinds := [.data, .handle, .sentinel], laidTests := true, laidLooks := .later }
def FramerBackUptoCardSaid : Prop := Claim7.holds Tryd.pinned (.plain (OpenSpec.upto framerBackSpec)) framerBackUptoCard

/-- THE SECOND FORM's CARD OF 'crierlaw12.FramerDead'. -/
def framerDeadUptoCard : Claim7 := { stood := { row := framerDeadUptoRow, standIns := [], harness := (true, "672b6a6cefaa010d16e4b50a8dc8818406e39970c3635d89ab85666ef5c56cfa"), looks := true }, kinds := [], alts := [], laidByText := true, laidKinds := [.data, .handle, .sentinel], laidTests := true, laidLooks := .later }
def FramerDeadUptoCardSaid : Prop := Claim7.holds Tryd.pinned (.plain (OpenSpec.upto framerDeadSpec)) framerDeadUptoCard

/-- THE SECOND FORM's CARD OF 'crierlaw12.FramerZero'. -/
def framerZeroUptoCard : Claim7 := { stood := { row := framerZeroUptoRow, standIns := [], harness := (true, "672b6a6cefaa010d16e4b50a8dc8818406e39970c3635d89ab85666ef5c56cfa"), looks := true }, kinds := [], alts := [], laidByText := true, laidKinds := [.data, .handle, .sentinel], laidTests := true, laidLooks := .later }
def FramerZeroUptoCardSaid : Prop := Claim7.holds Tryd.pinned (.plain (OpenSpec.upto framerZeroSpec)) framerZeroUptoCard
end Rows
end Go.Proofs.YtceiipcdkonnlaaDoor
