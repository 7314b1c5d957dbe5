/-
  No cell of these rows narrows 'for every input' (looked for: loops, veiled, ifaces, maps, wideKeys, modest, calm, conditions, laid).
  DERIVED. THE GIVEN ROWS OF THIS SEAT. 6 by the template 'for every input the law returns true; each argument reads behind the call as it read before'; 0 by the template 'total and deterministic' (their statements: YtdcnnghnnahhcabTotals.lean).
  GIVEN WITH THE SEED: the statements are not yours to turn. If you find one false, say at which input.
  Laid BY PROGRAM, IN A SANDBOX (cutbox-rows.mjs): the forced cells as the released guide's own fill.sh prints them over the translation bca6dc9a1f5acd0a… (all of the seat's roots in one cut). By AI agents, Wed Nov 11 2026. No macro, syntax, notation, axiom, sorry.
-/
import Derived.Test.YtdcnnghnnahhcabChecked
import GoSem.Claim
import GoSem.ClaimJoined
import GoSem.ClaimMapViews
import Derived.JoinedTies
import Derived.KernelRfl
namespace Go.Proofs.Ytdcnnghnnahhcab
/- THE CELL 'sum', in the pinned program and in every row, IS THE sha256 OF THE DUMP (.gsa) THAT YtdcnnghnnahhcabProg.lean LOADS. Nothing in Lean hashes anything: it is a label: what it is worth is what the hold of that sum in a sandbox is worth. -/
noncomputable def Try.pinned : Pinned := { name := "ytdcnnghnnahhcab", sum := "bca6dc9a1f5acd0a7e3ede1ac3ed610ece0f02a371c4214086281eb4b14ffb70", checked := Try.checked }
namespace Rows
def none {H : Type} : Left H := { results := [], args := [] }

/-- 'crierlaw21.IdsZero': WHATEVER THE INPUT: true; the input reads as it did. -/
def idsZeroSpec : ChangeSpec := { name := "idsZero", fn := fun _ => fun
  | [d] => { results := [.lit (.bool true)], args := [d] }
  | _ => none }
def idsZeroRow : OpenClaim := { program := "ytdcnnghnnahhcab", sum := "bca6dc9a1f5acd0a7e3ede1ac3ed610ece0f02a371c4214086281eb4b14ffb70", func := "crier/crierlaw21.IdsZero", spec := "idsZero", unfollowed := true, recurses := true, apart := false }
def IdsZeroSaid : Prop := idsZeroRow.holds Try.pinned (OpenSpec.ofChange idsZeroSpec)

/-- ITS FALSE NEIGHBOUR: 'it returns false'. Refute it at one input. -/
def idsZeroWrong : ChangeSpec := { name := "idsZero", fn := fun _ => fun
  | [d] => { results := [.lit (.bool false)], args := [d] }
  | _ => none }
def IdsZeroWrongFalsely : Prop := idsZeroRow.holds Try.pinned (OpenSpec.ofChange idsZeroWrong)

/-- 'crierlaw22.QueueZero': WHATEVER THE INPUT: true; the input reads as it did. -/
def queueZeroSpec : ChangeSpec := { name := "queueZero", fn := fun _ => fun
  | [d] => { results := [.lit (.bool true)], args := [d] }
  | _ => none }
def queueZeroRow : OpenClaim := { program := "ytdcnnghnnahhcab", sum := "bca6dc9a1f5acd0a7e3ede1ac3ed610ece0f02a371c4214086281eb4b14ffb70", func := "crier/crierlaw22.QueueZero", spec := "queueZero", apart := false }
def QueueZeroSaid : Prop := queueZeroRow.holds Try.pinned (OpenSpec.ofChange queueZeroSpec)

/-- ITS FALSE NEIGHBOUR: 'it returns false'. Refute it at one input. -/
def queueZeroWrong : ChangeSpec := { name := "queueZero", fn := fun _ => fun
  | [d] => { results := [.lit (.bool false)], args := [d] }
  | _ => none }
def QueueZeroWrongFalsely : Prop := queueZeroRow.holds Try.pinned (OpenSpec.ofChange queueZeroWrong)

/-- 'crierlaw35.RateZero': WHATEVER THE INPUT: true; the input reads as it did. -/
def rateZeroSpec : ChangeSpec := { name := "rateZero", fn := fun _ => fun
  | [d1, d2] => { results := [.lit (.bool true)], args := [d1, d2] }
  | _ => none }
def rateZeroRow : OpenClaim := { program := "ytdcnnghnnahhcab", sum := "bca6dc9a1f5acd0a7e3ede1ac3ed610ece0f02a371c4214086281eb4b14ffb70", func := "crier/crierlaw35.RateZero", spec := "rateZero", unfollowed := true, recurses := true, apart := false }
def RateZeroSaid : Prop := rateZeroRow.holds Try.pinned (OpenSpec.ofChange rateZeroSpec)

/-- ITS FALSE NEIGHBOUR: 'it returns false'. Refute it at one input. -/
def rateZeroWrong : ChangeSpec := { name := "rateZero", fn := fun _ => fun
  | [d1, d2] => { results := [.lit (.bool false)], args := [d1, d2] }
  | _ => none }
def RateZeroWrongFalsely : Prop := rateZeroRow.holds Try.pinned (OpenSpec.ofChange rateZeroWrong)

/-- 'crierlaw26.ClocksZero': WHATEVER THE INPUT: true; the input reads as it did. -/
def clocksZeroSpec : ChangeSpec := { name := "clocksZero", fn := fun _ => fun
  | [d1, d2] => { results := [.lit (.bool true)], args := [d1, d2] }
  | _ => none }
def clocksZeroRow : OpenClaim := { program := "ytdcnnghnnahhcab", sum := "bca6dc9a1f5acd0a7e3ede1ac3ed610ece0f02a371c4214086281eb4b14ffb70", func := "crier/crierlaw26.ClocksZero", spec := "clocksZero", unfollowed := true, recurses := true, apart := false }
def ClocksZeroSaid : Prop := clocksZeroRow.holds Try.pinned (OpenSpec.ofChange clocksZeroSpec)

/-- ITS FALSE NEIGHBOUR: 'it returns false'. Refute it at one input. -/
def clocksZeroWrong : ChangeSpec := { name := "clocksZero", fn := fun _ => fun
  | [d1, d2] => { results := [.lit (.bool false)], args := [d1, d2] }
  | _ => none }
def ClocksZeroWrongFalsely : Prop := clocksZeroRow.holds Try.pinned (OpenSpec.ofChange clocksZeroWrong)

/-- 'crierlaw27.RetainZero': WHATEVER THE INPUT: true; the input reads as it did. -/
def retainZeroSpec : ChangeSpec := { name := "retainZero", fn := fun _ => fun
  | [d] => { results := [.lit (.bool true)], args := [d] }
  | _ => none }
def retainZeroRow : OpenClaim := { program := "ytdcnnghnnahhcab", sum := "bca6dc9a1f5acd0a7e3ede1ac3ed610ece0f02a371c4214086281eb4b14ffb70", func := "crier/crierlaw27.RetainZero", spec := "retainZero", inPlace := ["internal/bytealg.CountString", "internal/bytealg.IndexByteString", "internal/bytealg.IndexString"], unfollowed := true, recurses := true, named := ["internal/bytealg.MaxLen"], apart := false }
def RetainZeroSaid : Prop := retainZeroRow.holds Try.pinned (OpenSpec.ofChange retainZeroSpec)

/-- ITS FALSE NEIGHBOUR: 'it returns false'. Refute it at one input. -/
def retainZeroWrong : ChangeSpec := { name := "retainZero", fn := fun _ => fun
  | [d] => { results := [.lit (.bool false)], args := [d] }
  | _ => none }
def RetainZeroWrongFalsely : Prop := retainZeroRow.holds Try.pinned (OpenSpec.ofChange retainZeroWrong)

/-- 'crierlaw19.TrieZero': WHATEVER THE INPUT: true; the input reads as it did. -/
def trieZeroSpec : ChangeSpec := { name := "trieZero", fn := fun _ => fun
  | [d1, d2] => { results := [.lit (.bool true)], args := [d1, d2] }
  | _ => none }
def trieZeroRow : OpenClaim := { program := "ytdcnnghnnahhcab", sum := "bca6dc9a1f5acd0a7e3ede1ac3ed610ece0f02a371c4214086281eb4b14ffb70", func := "crier/crierlaw19.TrieZero", spec := "trieZero", inPlace := ["internal/bytealg.CountString", "internal/bytealg.IndexByteString", "internal/bytealg.IndexString", "internal/abi.NoEscape", "internal/bytealg.MakeNoZero"], unfollowed := true, recurses := true, named := ["internal/bytealg.MaxLen"], apart := false }
def TrieZeroSaid : Prop := trieZeroRow.holds Try.pinned (OpenSpec.ofChange trieZeroSpec)

/-- ITS FALSE NEIGHBOUR: 'it returns false'. Refute it at one input. -/
def trieZeroWrong : ChangeSpec := { name := "trieZero", fn := fun _ => fun
  | [d1, d2] => { results := [.lit (.bool false)], args := [d1, d2] }
  | _ => none }
def TrieZeroWrongFalsely : Prop := trieZeroRow.holds Try.pinned (OpenSpec.ofChange trieZeroWrong)

/- THE SECOND FORM. 'bulk': how many values and letters a reading holds, each counted each time it is reached (what is shared counts as often as it is met; a slice's spare places count too). A statement '..UptoSaid' is the law's where the arguments, and the package variables that the reading takes, are together of bulk at most 1048576: NARROWER than '..Said'. Prove '..Said' where nothing that the law and all that it calls make is longer than what came in: it says more and counts as full. Else prove '..UptoSaid'. A law counts once. -/
mutual
def uptoBulk {H : Type} : DataW H → Nat
  | .lit (.string bytes) => bytes.length + 1
  | .lit _ => 1
  | .nil => 1
  | .ptr d => uptoBulk d + 1
  | .slice elems spare => uptoBulkAll elems + uptoBulkAll spare + 1
  | .agg parts => uptoBulkAll parts + 1
  | .iface _ d => uptoBulk d + 1
  | .map entries => uptoBulkEntries entries + 1
  | .held _ => 1
def uptoBulkAll {H : Type} : List (DataW H) → Nat
  | [] => 0
  | d :: r => uptoBulk d + uptoBulkAll r
def uptoBulkEntries {H : Type} : List (Lit × DataW H) → Nat
  | [] => 0
  | x :: r => uptoBulkEntry x + uptoBulkEntries r
def uptoBulkEntry {H : Type} : Lit × DataW H → Nat
  | (.string bytes, d) => bytes.length + uptoBulk d + 1
  | (_, d) => uptoBulk d + 1
 end
def uptoSmall : (H : Type) → List (DataW H) → Bool := fun _ ds => decide (uptoBulkAll ds ≤ 1048576)
def OpenSpec.upto (s : _root_.Go.ChangeSpec) : _root_.Go.OpenSpec := { _root_.Go.OpenSpec.ofChange s with cond := some uptoSmall }

/-- 'crierlaw21.IdsZero', WHERE WHAT IT READS IS OF BULK AT MOST 1048576: true; the input reads as it did. -/
def idsZeroUptoRow : OpenClaim := { program := "ytdcnnghnnahhcab", sum := "bca6dc9a1f5acd0a7e3ede1ac3ed610ece0f02a371c4214086281eb4b14ffb70", func := "crier/crierlaw21.IdsZero", spec := "idsZero", unfollowed := true, recurses := true, apart := false, narrowed := true }
def IdsZeroUptoSaid : Prop := idsZeroUptoRow.holds Try.pinned (OpenSpec.upto idsZeroSpec)

/-- 'crierlaw22.QueueZero', WHERE WHAT IT READS IS OF BULK AT MOST 1048576: true; the input reads as it did. -/
def queueZeroUptoRow : OpenClaim := { program := "ytdcnnghnnahhcab", sum := "bca6dc9a1f5acd0a7e3ede1ac3ed610ece0f02a371c4214086281eb4b14ffb70", func := "crier/crierlaw22.QueueZero", spec := "queueZero", apart := false, narrowed := true }
def QueueZeroUptoSaid : Prop := queueZeroUptoRow.holds Try.pinned (OpenSpec.upto queueZeroSpec)

/-- 'crierlaw35.RateZero', WHERE WHAT IT READS IS OF BULK AT MOST 1048576: true; the input reads as it did. -/
def rateZeroUptoRow : OpenClaim := { program := "ytdcnnghnnahhcab", sum := "bca6dc9a1f5acd0a7e3ede1ac3ed610ece0f02a371c4214086281eb4b14ffb70", func := "crier/crierlaw35.RateZero", spec := "rateZero", unfollowed := true, recurses := true, apart := false, narrowed := true }
def RateZeroUptoSaid : Prop := rateZeroUptoRow.holds Try.pinned (OpenSpec.upto rateZeroSpec)

/-- 'crierlaw26.ClocksZero', WHERE WHAT IT READS IS OF BULK AT MOST 1048576: true; the input reads as it did. -/
def clocksZeroUptoRow : OpenClaim := { program := "ytdcnnghnnahhcab", sum := "bca6dc9a1f5acd0a7e3ede1ac3ed610ece0f02a371c4214086281eb4b14ffb70", func := "crier/crierlaw26.ClocksZero", spec := "clocksZero", unfollowed := true, recurses := true, apart := false, narrowed := true }
def ClocksZeroUptoSaid : Prop := clocksZeroUptoRow.holds Try.pinned (OpenSpec.upto clocksZeroSpec)

/-- 'crierlaw27.RetainZero', WHERE WHAT IT READS IS OF BULK AT MOST 1048576: true; the input reads as it did. -/
def retainZeroUptoRow : OpenClaim := { program := "ytdcnnghnnahhcab", sum := "bca6dc9a1f5acd0a7e3ede1ac3ed610ece0f02a371c4214086281eb4b14ffb70", func := "crier/crierlaw27.RetainZero", spec := "retainZero", inPlace := ["internal/bytealg.CountString", "internal/bytealg.IndexByteString", "internal/bytealg.IndexString"], unfollowed := true, recurses := true, named := ["internal/bytealg.MaxLen"], apart := false, narrowed := true }
def RetainZeroUptoSaid : Prop := retainZeroUptoRow.holds Try.pinned (OpenSpec.upto retainZeroSpec)

/-- 'crierlaw19.TrieZero', WHERE WHAT IT READS IS OF BULK AT MOST 1048576: true; the input reads as it did. -/
def trieZeroUptoRow : OpenClaim := { program := "ytdcnnghnnahhcab", sum := "bca6dc9a1f5acd0a7e3ede1ac3ed610ece0f02a371c4214086281eb4b14ffb70", func := "crier/crierlaw19.TrieZero", spec := "trieZero", inPlace := ["internal/bytealg.CountString", "internal/bytealg.IndexByteString", "internal/bytealg.IndexString", "internal/abi.NoEscape", "internal/bytealg.MakeNoZero"], unfollowed := true, recurses := true, named := ["internal/bytealg.MaxLen"], apart := false, narrowed := true }
def TrieZeroUptoSaid : Prop := trieZeroUptoRow.holds Try.pinned (OpenSpec.upto trieZeroSpec)

end Rows
end Go.Proofs.Ytdcnnghnnahhcab
