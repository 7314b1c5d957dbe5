/-
  DERIVED. GIVEN WITH THE SEED: THE CARDS: each row of YtihblangceblhaaDoorRows.lean that lists a variable, with what it lists TIED to the program's text (the seventh form; the later family's looks); each row that meets fmt, with fmt's text TOLD by the authors' own Lean function (tested against real Go, not proved from fmt's source: count such statements apart). THE CARD IS WHAT COUNTS. Prove the row's statement (the work); the ties are given (YtihblangceblhaaDoorTie.lean); close each card by the builder's one call (the guide's Derived/Test/ToyasCard.lean, 'card_holds'). Laid BY PROGRAM, IN A SANDBOX (cutbox-door.mjs). By AI agents, Wed Nov 11 2026. No macro, syntax, notation, axiom, sorry.
-/
import Derived.Test.YtihblangceblhaaDoorRows
import GoSem.ClaimSeven
namespace Go.Proofs.YtihblangceblhaaDoor
namespace Rows

/-- THE TIED CARD OF 'crierlaw31.ItemsBorn'. -/
def itemsBornCard : Claim7 := { stood := { row := itemsBornRow, standIns := [], harness := (true, "0777dde0b4e644fedbc9f6773d36c5cda27bc192f3a1b8781d90299edebe2b2b"), looks := true }, kinds := [], alts := [], laidByText := true, laidKinds := [.handle], laidTests := true, laidLooks := .later }
def ItemsBornCardSaid : Prop := Claim7.holds Tryd.pinned (.plain (OpenSpec.ofChange itemsBornSpec)) itemsBornCard

/-- THE TIED CARD OF 'crierlaw31.ItemsUpdates'. -/
def itemsUpdatesCard : Claim7 := { stood := { row := itemsUpdatesRow, standIns := [], harness := (true, "0777dde0b4e644fedbc9f6773d36c5cda27bc192f3a1b8781d90299edebe2b2b"), looks := true }, kinds := [], alts := [], laidByText := true, laidKinds := [.handle], laidTests := true, laidLooks := .later }
def ItemsUpdatesCardSaid : Prop := Claim7.holds Tryd.pinned (.plain (OpenSpec.ofChange itemsUpdatesSpec)) itemsUpdatesCard

/-- THE TIED CARD OF 'crierlaw31.ItemsStay'. -/
def itemsStayCard : Claim7 := { stood := { row := itemsStayRow, standIns := [], harness := (true, "0777dde0b4e644fedbc9f6773d36c5cda27bc192f3a1b8781d90299edebe2b2b"), looks := true }, kinds := [], alts := [], laidByText := true, laidKinds := [.handle], laidTests := true, laidLooks := .later }
def ItemsStayCardSaid : Prop := Claim7.holds Tryd.pinned (.plain (OpenSpec.ofChange itemsStaySpec)) itemsStayCard

/-- THE TIED CARD OF 'crierlaw31.ItemsTwo'. -/
def itemsTwoCard : Claim7 := { stood := { row := itemsTwoRow, standIns := [], harness := (true, "0777dde0b4e644fedbc9f6773d36c5cda27bc192f3a1b8781d90299edebe2b2b"), looks := true }, kinds := [], alts := [], laidByText := true, laidKinds := [.handle], laidTests := true, laidLooks := .later }
def ItemsTwoCardSaid : Prop := Claim7.holds Tryd.pinned (.plain (OpenSpec.ofChange itemsTwoSpec)) itemsTwoCard

/-- THE SECOND FORM's CARD OF 'crierlaw31.ItemsBorn'. -/
def itemsBornUptoCard : Claim7 := { stood := { row := itemsBornUptoRow, standIns := [], harness := (true, "0777dde0b4e644fedbc9f6773d36c5cda27bc192f3a1b8781d90299edebe2b2b"), looks := true }, kinds := [], alts := [], laidByText := true, laidKinds := [.handle], laidTests := true, laidLooks := .later }
def ItemsBornUptoCardSaid : Prop := Claim7.holds Tryd.pinned (.plain (OpenSpec.upto itemsBornSpec)) itemsBornUptoCard

/-- THE SECOND FORM's CARD OF 'crierlaw31.ItemsUpdates'. -/
def itemsUpdatesUptoCard : Claim7 := { stood := { row := itemsUpdatesUptoRow, standIns := [], harness := (true, "0777dde0b4e644fedbc9f6773d36c5cda27bc192f3a1b8781d90299edebe2b2b"), looks := true }, kinds := [], alts := [], laidByText := true, laidKinds := [.handle], laidTests := true, laidLooks := .later }
def ItemsUpdatesUptoCardSaid : Prop := Claim7.holds Tryd.pinned (.plain (OpenSpec.upto itemsUpdatesSpec)) itemsUpdatesUptoCard

/-- THE SECOND FORM's CARD OF 'crierlaw31.ItemsStay'. -/
def itemsStayUptoCard : Claim7 := { stood := { row := itemsStayUptoRow, standIns := [], harness := (true, "0777dde0b4e644fedbc9f6773d36c5cda27bc192f3a1b8781d90299edebe2b2b"), looks := true }, kinds := [], alts := [], laidByText := true, laidKinds := [.handle], laidTests := true, laidLooks := .later }
def ItemsStayUptoCardSaid : Prop := Claim7.holds Tryd.pinned (.plain (OpenSpec.upto itemsStaySpec)) itemsStayUptoCard

/-- THE SECOND FORM's CARD OF 'crierlaw31.ItemsTwo'. -/
def itemsTwoUptoCard : Claim7 := { stood := { row := itemsTwoUptoRow, standIns := [], harness := (true, "0777dde0b4e644fedbc9f6773d36c5cda27bc192f3a1b8781d90299edebe2b2b"), looks := true }, kinds := [], alts := [], laidByText := true, laidKinds := [.handle], laidTests := true, laidLooks := .later }
def ItemsTwoUptoCardSaid : Prop := Claim7.holds Tryd.pinned (.plain (OpenSpec.upto itemsTwoSpec)) itemsTwoUptoCard
end Rows
end Go.Proofs.YtihblangceblhaaDoor
