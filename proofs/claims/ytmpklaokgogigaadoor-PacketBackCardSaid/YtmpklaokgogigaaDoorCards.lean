/-
  DERIVED. GIVEN WITH THE SEED: THE CARDS: each row of YtmpklaokgogigaaDoorRows.lean that lists a variable, with what it lists TIED to the program's text (the seventh form; the later family's looks); each row that meets fmt, with fmt's text TOLD by the authors' own Lean function (tested against real Go, not proved from fmt's source: count such statements apart). THE CARD IS WHAT COUNTS. Prove the row's statement (the work); the ties are given (YtmpklaokgogigaaDoorTie.lean); close each card by the builder's one call (the guide's Derived/Test/ToyasCard.lean, 'card_holds'). Laid BY PROGRAM, IN A SANDBOX (cutbox-door.mjs). By AI agents, Wed Nov 11 2026. No macro, syntax, notation, axiom, sorry.
-/
import Derived.Test.YtmpklaokgogigaaDoorRows
import GoSem.ClaimSeven
namespace Go.Proofs.YtmpklaokgogigaaDoor
namespace Rows

/-- THE TIED CARD OF 'crierlaw16.PacketReads'. -/
def packetReadsCard : Claim7 := { stood := { row := packetReadsRow, standIns := [], harness := (true, "e04809a1f8cfe3d2c4e620ab49c09eb64745468ed94e36109cf148af8277e423"), looks := false }, kinds := [], alts := [], laidByText := true, laidKinds := [.data], laidTests := true, laidLooks := .later }
def PacketReadsCardSaid : Prop := Claim7.holds Tryd.pinned (.plain (OpenSpec.ofChange packetReadsSpec)) packetReadsCard

/-- THE TIED CARD OF 'crierlaw16.PacketAll'. -/
def packetAllCard : Claim7 := { stood := { row := packetAllRow, standIns := [], harness := (true, "e04809a1f8cfe3d2c4e620ab49c09eb64745468ed94e36109cf148af8277e423"), looks := false }, kinds := [], alts := [], laidByText := true, laidKinds := [.data], laidTests := true, laidLooks := .later }
def PacketAllCardSaid : Prop := Claim7.holds Tryd.pinned (.plain (OpenSpec.ofChange packetAllSpec)) packetAllCard

/-- THE TIED CARD OF 'crierlaw16.PacketBack'. -/
def packetBackCard : Claim7 := { stood := { row := packetBackRow, standIns := [], harness := (true, "e04809a1f8cfe3d2c4e620ab49c09eb64745468ed94e36109cf148af8277e423"), looks := false }, kinds := [], alts := [], laidByText := true, laidKinds := [.data], laidTests := true, laidLooks := .later }
def PacketBackCardSaid : Prop := Claim7.holds Tryd.pinned (.plain (OpenSpec.ofChange packetBackSpec)) packetBackCard

/-- THE TIED CARD OF 'crierlaw16.PacketSame'. -/
def packetSameCard : Claim7 := { stood := { row := packetSameRow, standIns := [], harness := (true, "e04809a1f8cfe3d2c4e620ab49c09eb64745468ed94e36109cf148af8277e423"), looks := false }, kinds := [], alts := [], laidByText := true, laidKinds := [.data], laidTests := true, laidLooks := .later }
def PacketSameCardSaid : Prop := Claim7.holds Tryd.pinned (.plain (OpenSpec.ofChange packetSameSpec)) packetSameCard

/-- THE SECOND FORM's CARD OF 'crierlaw16.PacketReads'. -/
def packetReadsUptoCard : Claim7 := { stood := { row := packetReadsUptoRow, standIns := [], harness := (true, "e04809a1f8cfe3d2c4e620ab49c09eb64745468ed94e36109cf148af8277e423"), looks := false }, kinds := [], alts := [], laidByText := true, laidKinds := [.data], laidTests := true, laidLooks := .later }
def PacketReadsUptoCardSaid : Prop := Claim7.holds Tryd.pinned (.plain (OpenSpec.upto packetReadsSpec)) packetReadsUptoCard

/-- THE SECOND FORM's CARD OF 'crierlaw16.PacketAll'. -/
def packetAllUptoCard : Claim7 := { stood := { row := packetAllUptoRow, standIns := [], harness := (true, "e04809a1f8cfe3d2c4e620ab49c09eb64745468ed94e36109cf148af8277e423"), looks := false }, kinds := [], alts := [], laidByText := true, laidKinds := [.data], laidTests := true, laidLooks := .later }
def PacketAllUptoCardSaid : Prop := Claim7.holds Tryd.pinned (.plain (OpenSpec.upto packetAllSpec)) packetAllUptoCard

/-- THE SECOND FORM's CARD OF 'crierlaw16.PacketBack'. -/
def packetBackUptoCard : Claim7 := { stood := { row := packetBackUptoRow, standIns := [], harness := (true, "e04809a1f8cfe3d2c4e620ab49c09eb64745468ed94e36109cf148af8277e423"), looks := false }, kinds := [], alts := [], laidByText := true, laidKinds := [.data], laidTests := true, laidLooks := .later }
def PacketBackUptoCardSaid : Prop := Claim7.holds Tryd.pinned (.plain (OpenSpec.upto packetBackSpec)) packetBackUptoCard

/-- THE SECOND FORM's CARD OF 'crierlaw16.PacketSame'. -/
def packetSameUptoCard : Claim7 := { stood := { row := packetSameUptoRow, standIns := [], harness := (true, "e04809a1f8cfe3d2c4e620ab49c09eb64745468ed94e36109cf148af8277e423"), looks := false }, kinds := [], alts := [], laidByText := true, laidKinds := [.data], laidTests := true, laidLooks := .later }
def PacketSameUptoCardSaid : Prop := Claim7.holds Tryd.pinned (.plain (OpenSpec.upto packetSameSpec)) packetSameUptoCard
end Rows
end Go.Proofs.YtmpklaokgogigaaDoor
