/-
  No cell of these rows narrows 'for every input' (looked for: loops, veiled, ifaces, maps, wideKeys, modest, calm, conditions, laid).
  DERIVED. THE GIVEN ROWS OF THIS SEAT. 9 by the template 'for every input the law returns true; each argument reads behind the call as it read before'; 0 by the template 'total and deterministic' (their statements: YtcjoemejoeekiaaTotals.lean).
  GIVEN WITH THE SEED: the statements are not yours to turn. If you find one false, say at which input.
  Laid BY PROGRAM, IN A SANDBOX (cutbox-rows.mjs): the forced cells as the released guide's own fill.sh prints them over the translation ae223907d96cbc07… (all of the seat's roots in one cut). By AI agents, Wed Nov 11 2026. No macro, syntax, notation, axiom, sorry.
-/
import Derived.Test.YtcjoemejoeekiaaChecked
import GoSem.Claim
import GoSem.ClaimJoined
import GoSem.ClaimMapViews
import Derived.JoinedTies
import Derived.KernelRfl
namespace Go.Proofs.Ytcjoemejoeekiaa
/- THE CELL 'sum', in the pinned program and in every row, IS THE sha256 OF THE DUMP (.gsa) THAT YtcjoemejoeekiaaProg.lean LOADS. Nothing in Lean hashes anything: it is a label: what it is worth is what the hold of that sum in a sandbox is worth. -/
noncomputable def Try.pinned : Pinned := { name := "ytcjoemejoeekiaa", sum := "ae223907d96cbc0736bdc8ac2dc8d5ffb95908cdc6ea17ae287ee251cdcde17a", checked := Try.checked }
namespace Rows
def none {H : Type} : Left H := { results := [], args := [] }

/-- 'crierlaw26.ClocksPlays': WHATEVER THE INPUT: true; the input reads as it did. -/
def clocksPlaysSpec : ChangeSpec := { name := "clocksPlays", fn := fun _ => fun
  | [d] => { results := [.lit (.bool true)], args := [d] }
  | _ => none }
def clocksPlaysRow : OpenClaim := { program := "ytcjoemejoeekiaa", sum := "ae223907d96cbc0736bdc8ac2dc8d5ffb95908cdc6ea17ae287ee251cdcde17a", func := "crier/crierlaw26.ClocksPlays", spec := "clocksPlays", unfollowed := true, recurses := true, apart := false }
def ClocksPlaysSaid : Prop := clocksPlaysRow.holds Try.pinned (OpenSpec.ofChange clocksPlaysSpec)

/-- ITS FALSE NEIGHBOUR: 'it returns false'. Refute it at one input. -/
def clocksPlaysWrong : ChangeSpec := { name := "clocksPlays", fn := fun _ => fun
  | [d] => { results := [.lit (.bool false)], args := [d] }
  | _ => none }
def ClocksPlaysWrongFalsely : Prop := clocksPlaysRow.holds Try.pinned (OpenSpec.ofChange clocksPlaysWrong)

/-- 'crierlaw26.ClocksOnce': WHATEVER THE INPUT: true; the input reads as it did. -/
def clocksOnceSpec : ChangeSpec := { name := "clocksOnce", fn := fun _ => fun
  | [d1, d2] => { results := [.lit (.bool true)], args := [d1, d2] }
  | _ => none }
def clocksOnceRow : OpenClaim := { program := "ytcjoemejoeekiaa", sum := "ae223907d96cbc0736bdc8ac2dc8d5ffb95908cdc6ea17ae287ee251cdcde17a", func := "crier/crierlaw26.ClocksOnce", spec := "clocksOnce", unfollowed := true, recurses := true, apart := false }
def ClocksOnceSaid : Prop := clocksOnceRow.holds Try.pinned (OpenSpec.ofChange clocksOnceSpec)

/-- ITS FALSE NEIGHBOUR: 'it returns false'. Refute it at one input. -/
def clocksOnceWrong : ChangeSpec := { name := "clocksOnce", fn := fun _ => fun
  | [d1, d2] => { results := [.lit (.bool false)], args := [d1, d2] }
  | _ => none }
def ClocksOnceWrongFalsely : Prop := clocksOnceRow.holds Try.pinned (OpenSpec.ofChange clocksOnceWrong)

/-- 'crierlaw26.ClocksLate': WHATEVER THE INPUT: true; the input reads as it did. -/
def clocksLateSpec : ChangeSpec := { name := "clocksLate", fn := fun _ => fun
  | [d1, d2] => { results := [.lit (.bool true)], args := [d1, d2] }
  | _ => none }
def clocksLateRow : OpenClaim := { program := "ytcjoemejoeekiaa", sum := "ae223907d96cbc0736bdc8ac2dc8d5ffb95908cdc6ea17ae287ee251cdcde17a", func := "crier/crierlaw26.ClocksLate", spec := "clocksLate", unfollowed := true, recurses := true, apart := false }
def ClocksLateSaid : Prop := clocksLateRow.holds Try.pinned (OpenSpec.ofChange clocksLateSpec)

/-- ITS FALSE NEIGHBOUR: 'it returns false'. Refute it at one input. -/
def clocksLateWrong : ChangeSpec := { name := "clocksLate", fn := fun _ => fun
  | [d1, d2] => { results := [.lit (.bool false)], args := [d1, d2] }
  | _ => none }
def ClocksLateWrongFalsely : Prop := clocksLateRow.holds Try.pinned (OpenSpec.ofChange clocksLateWrong)

/-- 'crierlaw26.ClocksOrder': WHATEVER THE INPUT: true; the input reads as it did. -/
def clocksOrderSpec : ChangeSpec := { name := "clocksOrder", fn := fun _ => fun
  | [d] => { results := [.lit (.bool true)], args := [d] }
  | _ => none }
def clocksOrderRow : OpenClaim := { program := "ytcjoemejoeekiaa", sum := "ae223907d96cbc0736bdc8ac2dc8d5ffb95908cdc6ea17ae287ee251cdcde17a", func := "crier/crierlaw26.ClocksOrder", spec := "clocksOrder", unfollowed := true, recurses := true, apart := false }
def ClocksOrderSaid : Prop := clocksOrderRow.holds Try.pinned (OpenSpec.ofChange clocksOrderSpec)

/-- ITS FALSE NEIGHBOUR: 'it returns false'. Refute it at one input. -/
def clocksOrderWrong : ChangeSpec := { name := "clocksOrder", fn := fun _ => fun
  | [d] => { results := [.lit (.bool false)], args := [d] }
  | _ => none }
def ClocksOrderWrongFalsely : Prop := clocksOrderRow.holds Try.pinned (OpenSpec.ofChange clocksOrderWrong)

/-- 'crierlaw26.ClocksZero': WHATEVER THE INPUT: true; the input reads as it did. -/
def clocksZeroSpec : ChangeSpec := { name := "clocksZero", fn := fun _ => fun
  | [d1, d2] => { results := [.lit (.bool true)], args := [d1, d2] }
  | _ => none }
def clocksZeroRow : OpenClaim := { program := "ytcjoemejoeekiaa", sum := "ae223907d96cbc0736bdc8ac2dc8d5ffb95908cdc6ea17ae287ee251cdcde17a", func := "crier/crierlaw26.ClocksZero", spec := "clocksZero", unfollowed := true, recurses := true, apart := false }
def ClocksZeroSaid : Prop := clocksZeroRow.holds Try.pinned (OpenSpec.ofChange clocksZeroSpec)

/-- ITS FALSE NEIGHBOUR: 'it returns false'. Refute it at one input. -/
def clocksZeroWrong : ChangeSpec := { name := "clocksZero", fn := fun _ => fun
  | [d1, d2] => { results := [.lit (.bool false)], args := [d1, d2] }
  | _ => none }
def ClocksZeroWrongFalsely : Prop := clocksZeroRow.holds Try.pinned (OpenSpec.ofChange clocksZeroWrong)

/-- 'crierlaw23.FlightPlays': WHATEVER THE INPUT: true; the input reads as it did. -/
def flightPlaysSpec : ChangeSpec := { name := "flightPlays", fn := fun _ => fun
  | [d] => { results := [.lit (.bool true)], args := [d] }
  | _ => none }
def flightPlaysRow : OpenClaim := { program := "ytcjoemejoeekiaa", sum := "ae223907d96cbc0736bdc8ac2dc8d5ffb95908cdc6ea17ae287ee251cdcde17a", func := "crier/crierlaw23.FlightPlays", spec := "flightPlays", unfollowed := true, recurses := true, apart := false }
def FlightPlaysSaid : Prop := flightPlaysRow.holds Try.pinned (OpenSpec.ofChange flightPlaysSpec)

/-- ITS FALSE NEIGHBOUR: 'it returns false'. Refute it at one input. -/
def flightPlaysWrong : ChangeSpec := { name := "flightPlays", fn := fun _ => fun
  | [d] => { results := [.lit (.bool false)], args := [d] }
  | _ => none }
def FlightPlaysWrongFalsely : Prop := flightPlaysRow.holds Try.pinned (OpenSpec.ofChange flightPlaysWrong)

/-- 'crierlaw23.FlightOne': WHATEVER THE INPUT: true; the input reads as it did. -/
def flightOneSpec : ChangeSpec := { name := "flightOne", fn := fun _ => fun
  | [d] => { results := [.lit (.bool true)], args := [d] }
  | _ => none }
def flightOneRow : OpenClaim := { program := "ytcjoemejoeekiaa", sum := "ae223907d96cbc0736bdc8ac2dc8d5ffb95908cdc6ea17ae287ee251cdcde17a", func := "crier/crierlaw23.FlightOne", spec := "flightOne", unfollowed := true, recurses := true, apart := false }
def FlightOneSaid : Prop := flightOneRow.holds Try.pinned (OpenSpec.ofChange flightOneSpec)

/-- ITS FALSE NEIGHBOUR: 'it returns false'. Refute it at one input. -/
def flightOneWrong : ChangeSpec := { name := "flightOne", fn := fun _ => fun
  | [d] => { results := [.lit (.bool false)], args := [d] }
  | _ => none }
def FlightOneWrongFalsely : Prop := flightOneRow.holds Try.pinned (OpenSpec.ofChange flightOneWrong)

/-- 'crierlaw23.FlightEnds': WHATEVER THE INPUT: true; the input reads as it did. -/
def flightEndsSpec : ChangeSpec := { name := "flightEnds", fn := fun _ => fun
  | [d1, d2] => { results := [.lit (.bool true)], args := [d1, d2] }
  | _ => none }
def flightEndsRow : OpenClaim := { program := "ytcjoemejoeekiaa", sum := "ae223907d96cbc0736bdc8ac2dc8d5ffb95908cdc6ea17ae287ee251cdcde17a", func := "crier/crierlaw23.FlightEnds", spec := "flightEnds", unfollowed := true, recurses := true, apart := false }
def FlightEndsSaid : Prop := flightEndsRow.holds Try.pinned (OpenSpec.ofChange flightEndsSpec)

/-- ITS FALSE NEIGHBOUR: 'it returns false'. Refute it at one input. -/
def flightEndsWrong : ChangeSpec := { name := "flightEnds", fn := fun _ => fun
  | [d1, d2] => { results := [.lit (.bool false)], args := [d1, d2] }
  | _ => none }
def FlightEndsWrongFalsely : Prop := flightEndsRow.holds Try.pinned (OpenSpec.ofChange flightEndsWrong)

/-- 'crierlaw23.FlightZero': WHATEVER THE INPUT: true; the input reads as it did. -/
def flightZeroSpec : ChangeSpec := { name := "flightZero", fn := fun _ => fun
  | [d1, d2] => { results := [.lit (.bool true)], args := [d1, d2] }
  | _ => none }
def flightZeroRow : OpenClaim := { program := "ytcjoemejoeekiaa", sum := "ae223907d96cbc0736bdc8ac2dc8d5ffb95908cdc6ea17ae287ee251cdcde17a", func := "crier/crierlaw23.FlightZero", spec := "flightZero", unfollowed := true, recurses := true, apart := false }
def FlightZeroSaid : Prop := flightZeroRow.holds Try.pinned (OpenSpec.ofChange flightZeroSpec)

/-- ITS FALSE NEIGHBOUR: 'it returns false'. Refute it at one input. -/
def flightZeroWrong : ChangeSpec := { name := "flightZero", fn := fun _ => fun
  | [d1, d2] => { results := [.lit (.bool false)], args := [d1, d2] }
  | _ => none }
def FlightZeroWrongFalsely : Prop := flightZeroRow.holds Try.pinned (OpenSpec.ofChange flightZeroWrong)

/- THE SECOND FORM. 'bulk': how many values and letters a reading holds, each counted each time it is reached (what is shared counts as often as it is met; a slice's spare places count too). A statement '..UptoSaid' is the law's where the arguments, and the package variables that the reading takes, are together of bulk at most 1048576: NARROWER than '..Said'. Prove '..Said' where nothing that the law and all that it calls make is longer than what came in: it says more and counts as full. Else prove '..UptoSaid'. A law counts once. -/
mutual
def uptoBulk {H : Type} : DataW H → Nat
  | .lit (.string bytes) => bytes.length + 1
  | .lit _ => 1
  | .nil => 1
  | .ptr d => uptoBulk d + 1
  | .slice elems spare => uptoBulkAll elems + uptoBulkAll spare + 1
  | .agg parts => uptoBulkAll parts + 1
  | .iface _ d => uptoBulk d + 1
  | .map entries => uptoBulkEntries entries + 1
  | .held _ => 1
def uptoBulkAll {H : Type} : List (DataW H) → Nat
  | [] => 0
  | d :: r => uptoBulk d + uptoBulkAll r
def uptoBulkEntries {H : Type} : List (Lit × DataW H) → Nat
  | [] => 0
  | x :: r => uptoBulkEntry x + uptoBulkEntries r
def uptoBulkEntry {H : Type} : Lit × DataW H → Nat
  | (.string bytes, d) => bytes.length + uptoBulk d + 1
  | (_, d) => uptoBulk d + 1
 end
def uptoSmall : (H : Type) → List (DataW H) → Bool := fun _ ds => decide (uptoBulkAll ds ≤ 1048576)
def OpenSpec.upto (s : _root_.Go.ChangeSpec) : _root_.Go.OpenSpec := { _root_.Go.OpenSpec.ofChange s with cond := some uptoSmall }

/-- 'crierlaw26.ClocksPlays', WHERE WHAT IT READS IS OF BULK AT MOST 1048576: true; the input reads as it did. -/
def clocksPlaysUptoRow : OpenClaim := { program := "ytcjoemejoeekiaa", sum := "ae223907d96cbc0736bdc8ac2dc8d5ffb95908cdc6ea17ae287ee251cdcde17a", func := "crier/crierlaw26.ClocksPlays", spec := "clocksPlays", unfollowed := true, recurses := true, apart := false, narrowed := true }
def ClocksPlaysUptoSaid : Prop := clocksPlaysUptoRow.holds Try.pinned (OpenSpec.upto clocksPlaysSpec)

/-- 'crierlaw26.ClocksOnce', WHERE WHAT IT READS IS OF BULK AT MOST 1048576: true; the input reads as it did. -/
def clocksOnceUptoRow : OpenClaim := { program := "ytcjoemejoeekiaa", sum := "ae223907d96cbc0736bdc8ac2dc8d5ffb95908cdc6ea17ae287ee251cdcde17a", func := "crier/crierlaw26.ClocksOnce", spec := "clocksOnce", unfollowed := true, recurses := true, apart := false, narrowed := true }
def ClocksOnceUptoSaid : Prop := clocksOnceUptoRow.holds Try.pinned (OpenSpec.upto clocksOnceSpec)

/-- 'crierlaw26.ClocksLate', WHERE WHAT IT READS IS OF BULK AT MOST 1048576: true; the input reads as it did. -/
def clocksLateUptoRow : OpenClaim := { program := "ytcjoemejoeekiaa", sum := "ae223907d96cbc0736bdc8ac2dc8d5ffb95908cdc6ea17ae287ee251cdcde17a", func := "crier/crierlaw26.ClocksLate", spec := "clocksLate", unfollowed := true, recurses := true, apart := false, narrowed := true }
def ClocksLateUptoSaid : Prop := clocksLateUptoRow.holds Try.pinned (OpenSpec.upto clocksLateSpec)

/-- 'crierlaw26.ClocksOrder', WHERE WHAT IT READS IS OF BULK AT MOST 1048576: true; the input reads as it did. -/
def clocksOrderUptoRow : OpenClaim := { program := "ytcjoemejoeekiaa", sum := "ae223907d96cbc0736bdc8ac2dc8d5ffb95908cdc6ea17ae287ee251cdcde17a", func := "crier/crierlaw26.ClocksOrder", spec := "clocksOrder", unfollowed := true, recurses := true, apart := false, narrowed := true }
def ClocksOrderUptoSaid : Prop := clocksOrderUptoRow.holds Try.pinned (OpenSpec.upto clocksOrderSpec)

/-- 'crierlaw26.ClocksZero', WHERE WHAT IT READS IS OF BULK AT MOST 1048576: true; the input reads as it did. -/
def clocksZeroUptoRow : OpenClaim := { program := "ytcjoemejoeekiaa", sum := "ae223907d96cbc0736bdc8ac2dc8d5ffb95908cdc6ea17ae287ee251cdcde17a", func := "crier/crierlaw26.ClocksZero", spec := "clocksZero", unfollowed := true, recurses := true, apart := false, narrowed := true }
def ClocksZeroUptoSaid : Prop := clocksZeroUptoRow.holds Try.pinned (OpenSpec.upto clocksZeroSpec)

/-- 'crierlaw23.FlightPlays', WHERE WHAT IT READS IS OF BULK AT MOST 1048576: true; the input reads as it did. -/
def flightPlaysUptoRow : OpenClaim := { program := "ytcjoemejoeekiaa", sum := "ae223907d96cbc0736bdc8ac2dc8d5ffb95908cdc6ea17ae287ee251cdcde17a", func := "crier/crierlaw23.FlightPlays", spec := "flightPlays", unfollowed := true, recurses := true, apart := false, narrowed := true }
def FlightPlaysUptoSaid : Prop := flightPlaysUptoRow.holds Try.pinned (OpenSpec.upto flightPlaysSpec)

/-- 'crierlaw23.FlightOne', WHERE WHAT IT READS IS OF BULK AT MOST 1048576: true; the input reads as it did. -/
def flightOneUptoRow : OpenClaim := { program := "ytcjoemejoeekiaa", sum := "ae223907d96cbc0736bdc8ac2dc8d5ffb95908cdc6ea17ae287ee251cdcde17a", func := "crier/crierlaw23.FlightOne", spec := "flightOne", unfollowed := true, recurses := true, apart := false, narrowed := true }
def FlightOneUptoSaid : Prop := flightOneUptoRow.holds Try.pinned (OpenSpec.upto flightOneSpec)

/-- 'crierlaw23.FlightEnds', WHERE WHAT IT READS IS OF BULK AT MOST 1048576: true; the input reads as it did. -/
def flightEndsUptoRow : OpenClaim := { program := "ytcjoemejoeekiaa", sum := "ae223907d96cbc0736bdc8ac2dc8d5ffb95908cdc6ea17ae287ee251cdcde17a", func := "crier/crierlaw23.FlightEnds", spec := "flightEnds", unfollowed := true, recurses := true, apart := false, narrowed := true }
def FlightEndsUptoSaid : Prop := flightEndsUptoRow.holds Try.pinned (OpenSpec.upto flightEndsSpec)

/-- 'crierlaw23.FlightZero', WHERE WHAT IT READS IS OF BULK AT MOST 1048576: true; the input reads as it did. -/
def flightZeroUptoRow : OpenClaim := { program := "ytcjoemejoeekiaa", sum := "ae223907d96cbc0736bdc8ac2dc8d5ffb95908cdc6ea17ae287ee251cdcde17a", func := "crier/crierlaw23.FlightZero", spec := "flightZero", unfollowed := true, recurses := true, apart := false, narrowed := true }
def FlightZeroUptoSaid : Prop := flightZeroUptoRow.holds Try.pinned (OpenSpec.upto flightZeroSpec)

end Rows
end Go.Proofs.Ytcjoemejoeekiaa
