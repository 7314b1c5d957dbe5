/-
  DERIVED. GIVEN WITH THE SEED: THE CARDS: each row of YtoglgdkeknojkaaDoorRows.lean that lists a variable, with what it lists TIED to the program's text (the seventh form; the later family's looks); each row that meets fmt, with fmt's text TOLD by the authors' own Lean function (tested against real Go, not proved from fmt's source: count such statements apart). THE CARD IS WHAT COUNTS. Prove the row's statement (the work); the ties are given (YtoglgdkeknojkaaDoorTie.lean); close each card by the builder's one call (the guide's Derived/Test/ToyasCard.lean, 'card_holds'). Laid BY PROGRAM, IN A SANDBOX (cutbox-door.mjs). By AI agents, Wed Nov 11 2026. No macro, syntax, notation, axiom, sorry.
-/
import Derived.Test.YtoglgdkeknojkaaDoorRows
import GoSem.ClaimSeven
namespace Go.Proofs.YtoglgdkeknojkaaDoor
namespace Rows

/-- THE TIED CARD OF 'crierlaw05.ValuePuts'. -/
def valuePutsCard : Claim7 := { stood := { row := valuePutsRow, standIns := [], harness := (true, "ea3f8a80bfccfa44cde32d08f9f0dd47e154ad2c4fedfe42829a8f2d226f3068"), looks := false }, kinds := [], alts := [], laidByText := true, laidKinds := [.data, .data], laidTests := true, laidLooks := .later }
def ValuePutsCardSaid : Prop := Claim7.holds Tryd.pinned (.plain (OpenSpec.ofChange valuePutsSpec)) valuePutsCard

/-- THE TIED CARD OF 'crierlaw05.ValueReads'. -/
def valueReadsCard : Claim7 := { stood := { row := valueReadsRow, standIns := [], harness := (true, "ea3f8a80bfccfa44cde32d08f9f0dd47e154ad2c4fedfe42829a8f2d226f3068"), looks := false }, kinds := [], alts := [], laidByText := true, laidKinds := [.data, .data], laidTests := true, laidLooks := .later }
def ValueReadsCardSaid : Prop := Claim7.holds Tryd.pinned (.plain (OpenSpec.ofChange valueReadsSpec)) valueReadsCard

/-- THE TIED CARD OF 'crierlaw05.ValueBack'. -/
def valueBackCard : Claim7 := { stood := { row := valueBackRow, standIns := [], harness := (true, "ea3f8a80bfccfa44cde32d08f9f0dd47e154ad2c4fedfe42829a8f2d226f3068"), looks := false }, kinds := [], alts := [], laidByText := true, laidKinds := [.data, .data], laidTests := true, laidLooks := .later }
def ValueBackCardSaid : Prop := Claim7.holds Tryd.pinned (.plain (OpenSpec.ofChange valueBackSpec)) valueBackCard

/-- THE TIED CARD OF 'crierlaw05.ValueRaw'. -/
def valueRawCard : Claim7 := { stood := { row := valueRawRow, standIns := [], harness := (true, "ea3f8a80bfccfa44cde32d08f9f0dd47e154ad2c4fedfe42829a8f2d226f3068"), looks := false }, kinds := [], alts := [], laidByText := true, laidKinds := [.data, .data], laidTests := true, laidLooks := .later }
def ValueRawCardSaid : Prop := Claim7.holds Tryd.pinned (.plain (OpenSpec.ofChange valueRawSpec)) valueRawCard

/-- THE SECOND FORM's CARD OF 'crierlaw05.ValuePuts'. -/
def valuePutsUptoCard : Claim7 := { stood := { row := valuePutsUptoRow, standIns := [], harness := (true, "ea3f8a80bfccfa44cde32d08f9f0dd47e154ad2c4fedfe42829a8f2d226f3068"), looks := false }, kinds := [], alts := [], laidByText := true, laidKinds := [.data, .data], laidTests := true, laidLooks := .later }
def ValuePutsUptoCardSaid : Prop := Claim7.holds Tryd.pinned (.plain (OpenSpec.upto valuePutsSpec)) valuePutsUptoCard

/-- THE SECOND FORM's CARD OF 'crierlaw05.ValueReads'. -/
def valueReadsUptoCard : Claim7 := { stood := { row := valueReadsUptoRow, standIns := [], harness := (true, "ea3f8a80bfccfa44cde32d08f9f0dd47e154ad2c4fedfe42829a8f2d226f3068"), looks := false }, kinds := [], alts := [], laidByText := true, laidKinds := [.data, .data], laidTests := true, laidLooks := .later }
def ValueReadsUptoCardSaid : Prop := Claim7.holds Tryd.pinned (.plain (OpenSpec.upto valueReadsSpec)) valueReadsUptoCard

/-- THE SECOND FORM's CARD OF 'crierlaw05.ValueBack'. -/
def valueBackUptoCard : Claim7 := { stood := { row := valueBackUptoRow, standIns := [], harness := (true, "ea3f8a80bfccfa44cde32d08f9f0dd47e154ad2c4fedfe42829a8f2d226f3068"), looks := false }, kinds := [], alts := [], laidByText := true, laidKinds := [.data, .data], laidTests := true, laidLooks := .later }
def ValueBackUptoCardSaid : Prop := Claim7.holds Tryd.pinned (.plain (OpenSpec.upto valueBackSpec)) valueBackUptoCard

/-- THE SECOND FORM's CARD OF 'crierlaw05.ValueRaw'. -/
def valueRawUptoCard : Claim7 := { stood := { row := valueRawUptoRow, standIns := [], harness := (true, "ea3f8a80bfccfa44cde32d08f9f0dd47e154ad2c4fedfe42829a8f2d226f3068"), looks := false }, kinds := [], alts := [], laidByText := true, laidKinds := [.data, .data], laidTests := true, laidLooks := .later }
def ValueRawUptoCardSaid : Prop := Claim7.holds Tryd.pinned (.plain (OpenSpec.upto valueRawSpec)) valueRawUptoCard
end Rows
end Go.Proofs.YtoglgdkeknojkaaDoor
