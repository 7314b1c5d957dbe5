/-
  No cell of these rows narrows 'for every input' (looked for: loops, veiled, ifaces, maps, wideKeys, modest, calm, conditions, laid).
  DERIVED. THE GIVEN ROWS OF THIS SEAT. 4 by the template 'for every input the law returns true; each argument reads behind the call as it read before'; 0 by the template 'total and deterministic' (their statements: YtdcfenkllpfbaaaTotals.lean).
  GIVEN WITH THE SEED: the statements are not yours to turn. If you find one false, say at which input.
  Laid BY PROGRAM, IN A SANDBOX (cutbox-rows.mjs): the forced cells as the released guide's own fill.sh prints them over the translation edb1b8f029683279… (all of the seat's roots in one cut). By AI agents, Wed Nov 11 2026. No macro, syntax, notation, axiom, sorry.
-/
import Derived.Test.YtdcfenkllpfbaaaChecked
import GoSem.Claim
import GoSem.ClaimJoined
import GoSem.ClaimMapViews
import Derived.JoinedTies
import Derived.KernelRfl
namespace Go.Proofs.Ytdcfenkllpfbaaa
/- THE CELL 'sum', in the pinned program and in every row, IS THE sha256 OF THE DUMP (.gsa) THAT YtdcfenkllpfbaaaProg.lean LOADS. Nothing in Lean hashes anything: it is a label: what it is worth is what the hold of that sum in a sandbox is worth. -/
noncomputable def Try.pinned : Pinned := { name := "ytdcfenkllpfbaaa", sum := "edb1b8f029683279461fa6413a36ab27112b5304fc0240b2c29f848acf9e99dd", checked := Try.checked }
namespace Rows
def none {H : Type} : Left H := { results := [], args := [] }

/-- 'crierlaw28.SessionsZero': WHATEVER THE INPUT: true; the input reads as it did. -/
def sessionsZeroSpec : ChangeSpec := { name := "sessionsZero", fn := fun _ => fun
  | [d1, d2] => { results := [.lit (.bool true)], args := [d1, d2] }
  | _ => none }
def sessionsZeroRow : OpenClaim := { program := "ytdcfenkllpfbaaa", sum := "edb1b8f029683279461fa6413a36ab27112b5304fc0240b2c29f848acf9e99dd", func := "crier/crierlaw28.SessionsZero", spec := "sessionsZero", unfollowed := true, recurses := true, apart := false }
def SessionsZeroSaid : Prop := sessionsZeroRow.holds Try.pinned (OpenSpec.ofChange sessionsZeroSpec)

/-- ITS FALSE NEIGHBOUR: 'it returns false'. Refute it at one input. -/
def sessionsZeroWrong : ChangeSpec := { name := "sessionsZero", fn := fun _ => fun
  | [d1, d2] => { results := [.lit (.bool false)], args := [d1, d2] }
  | _ => none }
def SessionsZeroWrongFalsely : Prop := sessionsZeroRow.holds Try.pinned (OpenSpec.ofChange sessionsZeroWrong)

/-- 'crierlaw28.SessionsGoOn': WHATEVER THE INPUT: true; the input reads as it did. -/
def sessionsGoOnSpec : ChangeSpec := { name := "sessionsGoOn", fn := fun _ => fun
  | [d1, d2, d3] => { results := [.lit (.bool true)], args := [d1, d2, d3] }
  | _ => none }
def sessionsGoOnRow : OpenClaim := { program := "ytdcfenkllpfbaaa", sum := "edb1b8f029683279461fa6413a36ab27112b5304fc0240b2c29f848acf9e99dd", func := "crier/crierlaw28.SessionsGoOn", spec := "sessionsGoOn", unfollowed := true, recurses := true, apart := false }
def SessionsGoOnSaid : Prop := sessionsGoOnRow.holds Try.pinned (OpenSpec.ofChange sessionsGoOnSpec)

/-- ITS FALSE NEIGHBOUR: 'it returns false'. Refute it at one input. -/
def sessionsGoOnWrong : ChangeSpec := { name := "sessionsGoOn", fn := fun _ => fun
  | [d1, d2, d3] => { results := [.lit (.bool false)], args := [d1, d2, d3] }
  | _ => none }
def SessionsGoOnWrongFalsely : Prop := sessionsGoOnRow.holds Try.pinned (OpenSpec.ofChange sessionsGoOnWrong)

/-- 'crierlaw28.SessionsOne': WHATEVER THE INPUT: true; the input reads as it did. -/
def sessionsOneSpec : ChangeSpec := { name := "sessionsOne", fn := fun _ => fun
  | [d] => { results := [.lit (.bool true)], args := [d] }
  | _ => none }
def sessionsOneRow : OpenClaim := { program := "ytdcfenkllpfbaaa", sum := "edb1b8f029683279461fa6413a36ab27112b5304fc0240b2c29f848acf9e99dd", func := "crier/crierlaw28.SessionsOne", spec := "sessionsOne", unfollowed := true, recurses := true, apart := false }
def SessionsOneSaid : Prop := sessionsOneRow.holds Try.pinned (OpenSpec.ofChange sessionsOneSpec)

/-- ITS FALSE NEIGHBOUR: 'it returns false'. Refute it at one input. -/
def sessionsOneWrong : ChangeSpec := { name := "sessionsOne", fn := fun _ => fun
  | [d] => { results := [.lit (.bool false)], args := [d] }
  | _ => none }
def SessionsOneWrongFalsely : Prop := sessionsOneRow.holds Try.pinned (OpenSpec.ofChange sessionsOneWrong)

/-- 'crierlaw28.SessionsPlays': WHATEVER THE INPUT: true; the input reads as it did. -/
def sessionsPlaysSpec : ChangeSpec := { name := "sessionsPlays", fn := fun _ => fun
  | [d] => { results := [.lit (.bool true)], args := [d] }
  | _ => none }
def sessionsPlaysRow : OpenClaim := { program := "ytdcfenkllpfbaaa", sum := "edb1b8f029683279461fa6413a36ab27112b5304fc0240b2c29f848acf9e99dd", func := "crier/crierlaw28.SessionsPlays", spec := "sessionsPlays", unfollowed := true, recurses := true, apart := false }
def SessionsPlaysSaid : Prop := sessionsPlaysRow.holds Try.pinned (OpenSpec.ofChange sessionsPlaysSpec)

/-- ITS FALSE NEIGHBOUR: 'it returns false'. Refute it at one input. -/
def sessionsPlaysWrong : ChangeSpec := { name := "sessionsPlays", fn := fun _ => fun
  | [d] => { results := [.lit (.bool false)], args := [d] }
  | _ => none }
def SessionsPlaysWrongFalsely : Prop := sessionsPlaysRow.holds Try.pinned (OpenSpec.ofChange sessionsPlaysWrong)

/- THE SECOND FORM. 'bulk': how many values and letters a reading holds, each counted each time it is reached (what is shared counts as often as it is met; a slice's spare places count too). A statement '..UptoSaid' is the law's where the arguments, and the package variables that the reading takes, are together of bulk at most 1048576: NARROWER than '..Said'. Prove '..Said' where nothing that the law and all that it calls make is longer than what came in: it says more and counts as full. Else prove '..UptoSaid'. A law counts once. -/
mutual
def uptoBulk {H : Type} : DataW H → Nat
  | .lit (.string bytes) => bytes.length + 1
  | .lit _ => 1
  | .nil => 1
  | .ptr d => uptoBulk d + 1
  | .slice elems spare => uptoBulkAll elems + uptoBulkAll spare + 1
  | .agg parts => uptoBulkAll parts + 1
  | .iface _ d => uptoBulk d + 1
  | .map entries => uptoBulkEntries entries + 1
  | .held _ => 1
def uptoBulkAll {H : Type} : List (DataW H) → Nat
  | [] => 0
  | d :: r => uptoBulk d + uptoBulkAll r
def uptoBulkEntries {H : Type} : List (Lit × DataW H) → Nat
  | [] => 0
  | x :: r => uptoBulkEntry x + uptoBulkEntries r
def uptoBulkEntry {H : Type} : Lit × DataW H → Nat
  | (.string bytes, d) => bytes.length + uptoBulk d + 1
  | (_, d) => uptoBulk d + 1
 end
def uptoSmall : (H : Type) → List (DataW H) → Bool := fun _ ds => decide (uptoBulkAll ds ≤ 1048576)
def OpenSpec.upto (s : _root_.Go.ChangeSpec) : _root_.Go.OpenSpec := { _root_.Go.OpenSpec.ofChange s with cond := some uptoSmall }

/-- 'crierlaw28.SessionsZero', WHERE WHAT IT READS IS OF BULK AT MOST 1048576: true; the input reads as it did. -/
def sessionsZeroUptoRow : OpenClaim := { program := "ytdcfenkllpfbaaa", sum := "edb1b8f029683279461fa6413a36ab27112b5304fc0240b2c29f848acf9e99dd", func := "crier/crierlaw28.SessionsZero", spec := "sessionsZero", unfollowed := true, recurses := true, apart := false, narrowed := true }
def SessionsZeroUptoSaid : Prop := sessionsZeroUptoRow.holds Try.pinned (OpenSpec.upto sessionsZeroSpec)

/-- 'crierlaw28.SessionsGoOn', WHERE WHAT IT READS IS OF BULK AT MOST 1048576: true; the input reads as it did. -/
def sessionsGoOnUptoRow : OpenClaim := { program := "ytdcfenkllpfbaaa", sum := "edb1b8f029683279461fa6413a36ab27112b5304fc0240b2c29f848acf9e99dd", func := "crier/crierlaw28.SessionsGoOn", spec := "sessionsGoOn", unfollowed := true, recurses := true, apart := false, narrowed := true }
def SessionsGoOnUptoSaid : Prop := sessionsGoOnUptoRow.holds Try.pinned (OpenSpec.upto sessionsGoOnSpec)

/-- 'crierlaw28.SessionsOne', WHERE WHAT IT READS IS OF BULK AT MOST 1048576: true; the input reads as it did. -/
def sessionsOneUptoRow : OpenClaim := { program := "ytdcfenkllpfbaaa", sum := "edb1b8f029683279461fa6413a36ab27112b5304fc0240b2c29f848acf9e99dd", func := "crier/crierlaw28.SessionsOne", spec := "sessionsOne", unfollowed := true, recurses := true, apart := false, narrowed := true }
def SessionsOneUptoSaid : Prop := sessionsOneUptoRow.holds Try.pinned (OpenSpec.upto sessionsOneSpec)

/-- 'crierlaw28.SessionsPlays', WHERE WHAT IT READS IS OF BULK AT MOST 1048576: true; the input reads as it did. -/
def sessionsPlaysUptoRow : OpenClaim := { program := "ytdcfenkllpfbaaa", sum := "edb1b8f029683279461fa6413a36ab27112b5304fc0240b2c29f848acf9e99dd", func := "crier/crierlaw28.SessionsPlays", spec := "sessionsPlays", unfollowed := true, recurses := true, apart := false, narrowed := true }
def SessionsPlaysUptoSaid : Prop := sessionsPlaysUptoRow.holds Try.pinned (OpenSpec.upto sessionsPlaysSpec)

end Rows
end Go.Proofs.Ytdcfenkllpfbaaa
