/-
  No cell of these rows narrows 'for every input' (looked for: loops, veiled, ifaces, maps, wideKeys, modest, calm, conditions, laid).
  DERIVED. THE GIVEN ROWS OF THIS SEAT. 11 by the template 'for every input the law returns true; each argument reads behind the call as it read before'; 0 by the template 'total and deterministic' (their statements: YtkihhnndidaloaaTotals.lean).
  GIVEN WITH THE SEED: the statements are not yours to turn. If you find one false, say at which input.
  Laid BY PROGRAM, IN A SANDBOX (cutbox-rows.mjs): the forced cells as the released guide's own fill.sh prints them over the translation 5d1b7420b6754084… (all of the seat's roots in one cut). By AI agents, Wed Nov 11 2026. No macro, syntax, notation, axiom, sorry.
-/
import Derived.Test.YtkihhnndidaloaaChecked
import GoSem.Claim
import GoSem.ClaimJoined
import GoSem.ClaimMapViews
import Derived.JoinedTies
import Derived.KernelRfl
namespace Go.Proofs.Ytkihhnndidaloaa
/- THE CELL 'sum', in the pinned program and in every row, IS THE sha256 OF THE DUMP (.gsa) THAT YtkihhnndidaloaaProg.lean LOADS. Nothing in Lean hashes anything: it is a label: what it is worth is what the hold of that sum in a sandbox is worth. -/
noncomputable def Try.pinned : Pinned := { name := "ytkihhnndidaloaa", sum := "5d1b7420b67540848480122601882feec4fd65589431172c62cf1c44eb396849", checked := Try.checked }
namespace Rows
def none {H : Type} : Left H := { results := [], args := [] }

/-- 'crierlaw14.PublishPuts': WHATEVER THE INPUT: true; the input reads as it did. -/
def publishPutsSpec : ChangeSpec := { name := "publishPuts", fn := fun _ => fun
  | [d1, d2] => { results := [.lit (.bool true)], args := [d1, d2] }
  | _ => none }
def publishPutsRow : OpenClaim := { program := "ytkihhnndidaloaa", sum := "5d1b7420b67540848480122601882feec4fd65589431172c62cf1c44eb396849", func := "crier/crierlaw14.PublishPuts", spec := "publishPuts", unfollowed := true, recurses := true, apart := false }
def PublishPutsSaid : Prop := publishPutsRow.holds Try.pinned (OpenSpec.ofChange publishPutsSpec)

/-- ITS FALSE NEIGHBOUR: 'it returns false'. Refute it at one input. -/
def publishPutsWrong : ChangeSpec := { name := "publishPuts", fn := fun _ => fun
  | [d1, d2] => { results := [.lit (.bool false)], args := [d1, d2] }
  | _ => none }
def PublishPutsWrongFalsely : Prop := publishPutsRow.holds Try.pinned (OpenSpec.ofChange publishPutsWrong)

/-- 'crierlaw14.PublishReads': WHATEVER THE INPUT: true; the input reads as it did. -/
def publishReadsSpec : ChangeSpec := { name := "publishReads", fn := fun _ => fun
  | [d1, d2] => { results := [.lit (.bool true)], args := [d1, d2] }
  | _ => none }
def publishReadsRow : OpenClaim := { program := "ytkihhnndidaloaa", sum := "5d1b7420b67540848480122601882feec4fd65589431172c62cf1c44eb396849", func := "crier/crierlaw14.PublishReads", spec := "publishReads", unfollowed := true, recurses := true, apart := false }
def PublishReadsSaid : Prop := publishReadsRow.holds Try.pinned (OpenSpec.ofChange publishReadsSpec)

/-- ITS FALSE NEIGHBOUR: 'it returns false'. Refute it at one input. -/
def publishReadsWrong : ChangeSpec := { name := "publishReads", fn := fun _ => fun
  | [d1, d2] => { results := [.lit (.bool false)], args := [d1, d2] }
  | _ => none }
def PublishReadsWrongFalsely : Prop := publishReadsRow.holds Try.pinned (OpenSpec.ofChange publishReadsWrong)

/-- 'crierlaw14.PublishBack': WHATEVER THE INPUT: true; the input reads as it did. -/
def publishBackSpec : ChangeSpec := { name := "publishBack", fn := fun _ => fun
  | [d1, d2] => { results := [.lit (.bool true)], args := [d1, d2] }
  | _ => none }
def publishBackRow : OpenClaim := { program := "ytkihhnndidaloaa", sum := "5d1b7420b67540848480122601882feec4fd65589431172c62cf1c44eb396849", func := "crier/crierlaw14.PublishBack", spec := "publishBack", unfollowed := true, recurses := true, apart := false }
def PublishBackSaid : Prop := publishBackRow.holds Try.pinned (OpenSpec.ofChange publishBackSpec)

/-- ITS FALSE NEIGHBOUR: 'it returns false'. Refute it at one input. -/
def publishBackWrong : ChangeSpec := { name := "publishBack", fn := fun _ => fun
  | [d1, d2] => { results := [.lit (.bool false)], args := [d1, d2] }
  | _ => none }
def PublishBackWrongFalsely : Prop := publishBackRow.holds Try.pinned (OpenSpec.ofChange publishBackWrong)

/-- 'crierlaw14.PublishIds': WHATEVER THE INPUT: true; the input reads as it did. -/
def publishIdsSpec : ChangeSpec := { name := "publishIds", fn := fun _ => fun
  | [d1, d2] => { results := [.lit (.bool true)], args := [d1, d2] }
  | _ => none }
def publishIdsRow : OpenClaim := { program := "ytkihhnndidaloaa", sum := "5d1b7420b67540848480122601882feec4fd65589431172c62cf1c44eb396849", func := "crier/crierlaw14.PublishIds", spec := "publishIds", unfollowed := true, recurses := true, apart := false }
def PublishIdsSaid : Prop := publishIdsRow.holds Try.pinned (OpenSpec.ofChange publishIdsSpec)

/-- ITS FALSE NEIGHBOUR: 'it returns false'. Refute it at one input. -/
def publishIdsWrong : ChangeSpec := { name := "publishIds", fn := fun _ => fun
  | [d1, d2] => { results := [.lit (.bool false)], args := [d1, d2] }
  | _ => none }
def PublishIdsWrongFalsely : Prop := publishIdsRow.holds Try.pinned (OpenSpec.ofChange publishIdsWrong)

/-- 'crierlaw13.ConnectPuts': WHATEVER THE INPUT: true; the input reads as it did. -/
def connectPutsSpec : ChangeSpec := { name := "connectPuts", fn := fun _ => fun
  | [d] => { results := [.lit (.bool true)], args := [d] }
  | _ => none }
def connectPutsRow : OpenClaim := { program := "ytkihhnndidaloaa", sum := "5d1b7420b67540848480122601882feec4fd65589431172c62cf1c44eb396849", func := "crier/crierlaw13.ConnectPuts", spec := "connectPuts", apart := false }
def ConnectPutsSaid : Prop := connectPutsRow.holds Try.pinned (OpenSpec.ofChange connectPutsSpec)

/-- ITS FALSE NEIGHBOUR: 'it returns false'. Refute it at one input. -/
def connectPutsWrong : ChangeSpec := { name := "connectPuts", fn := fun _ => fun
  | [d] => { results := [.lit (.bool false)], args := [d] }
  | _ => none }
def ConnectPutsWrongFalsely : Prop := connectPutsRow.holds Try.pinned (OpenSpec.ofChange connectPutsWrong)

/-- 'crierlaw13.ConnectReads': WHATEVER THE INPUT: true; the input reads as it did. -/
def connectReadsSpec : ChangeSpec := { name := "connectReads", fn := fun _ => fun
  | [d] => { results := [.lit (.bool true)], args := [d] }
  | _ => none }
def connectReadsRow : OpenClaim := { program := "ytkihhnndidaloaa", sum := "5d1b7420b67540848480122601882feec4fd65589431172c62cf1c44eb396849", func := "crier/crierlaw13.ConnectReads", spec := "connectReads", unfollowed := true, recurses := true, apart := false }
def ConnectReadsSaid : Prop := connectReadsRow.holds Try.pinned (OpenSpec.ofChange connectReadsSpec)

/-- ITS FALSE NEIGHBOUR: 'it returns false'. Refute it at one input. -/
def connectReadsWrong : ChangeSpec := { name := "connectReads", fn := fun _ => fun
  | [d] => { results := [.lit (.bool false)], args := [d] }
  | _ => none }
def ConnectReadsWrongFalsely : Prop := connectReadsRow.holds Try.pinned (OpenSpec.ofChange connectReadsWrong)

/-- 'crierlaw13.ConnectBack': WHATEVER THE INPUT: true; the input reads as it did. -/
def connectBackSpec : ChangeSpec := { name := "connectBack", fn := fun _ => fun
  | [d1, d2] => { results := [.lit (.bool true)], args := [d1, d2] }
  | _ => none }
def connectBackRow : OpenClaim := { program := "ytkihhnndidaloaa", sum := "5d1b7420b67540848480122601882feec4fd65589431172c62cf1c44eb396849", func := "crier/crierlaw13.ConnectBack", spec := "connectBack", unfollowed := true, recurses := true, apart := false }
def ConnectBackSaid : Prop := connectBackRow.holds Try.pinned (OpenSpec.ofChange connectBackSpec)

/-- ITS FALSE NEIGHBOUR: 'it returns false'. Refute it at one input. -/
def connectBackWrong : ChangeSpec := { name := "connectBack", fn := fun _ => fun
  | [d1, d2] => { results := [.lit (.bool false)], args := [d1, d2] }
  | _ => none }
def ConnectBackWrongFalsely : Prop := connectBackRow.holds Try.pinned (OpenSpec.ofChange connectBackWrong)

/-- 'crierlaw13.ConnectAcks': WHATEVER THE INPUT: true; the input reads as it did. -/
def connectAcksSpec : ChangeSpec := { name := "connectAcks", fn := fun _ => fun
  | [d1, d2, d3] => { results := [.lit (.bool true)], args := [d1, d2, d3] }
  | _ => none }
def connectAcksRow : OpenClaim := { program := "ytkihhnndidaloaa", sum := "5d1b7420b67540848480122601882feec4fd65589431172c62cf1c44eb396849", func := "crier/crierlaw13.ConnectAcks", spec := "connectAcks", apart := false }
def ConnectAcksSaid : Prop := connectAcksRow.holds Try.pinned (OpenSpec.ofChange connectAcksSpec)

/-- ITS FALSE NEIGHBOUR: 'it returns false'. Refute it at one input. -/
def connectAcksWrong : ChangeSpec := { name := "connectAcks", fn := fun _ => fun
  | [d1, d2, d3] => { results := [.lit (.bool false)], args := [d1, d2, d3] }
  | _ => none }
def ConnectAcksWrongFalsely : Prop := connectAcksRow.holds Try.pinned (OpenSpec.ofChange connectAcksWrong)

/-- 'crierlaw17.LevelPlays': WHATEVER THE INPUT: true; the input reads as it did. -/
def levelPlaysSpec : ChangeSpec := { name := "levelPlays", fn := fun _ => fun
  | [d1, d2] => { results := [.lit (.bool true)], args := [d1, d2] }
  | _ => none }
def levelPlaysRow : OpenClaim := { program := "ytkihhnndidaloaa", sum := "5d1b7420b67540848480122601882feec4fd65589431172c62cf1c44eb396849", func := "crier/crierlaw17.LevelPlays", spec := "levelPlays", inPlace := ["internal/bytealg.CountString", "internal/bytealg.IndexByteString", "internal/bytealg.IndexString", "internal/abi.NoEscape", "internal/bytealg.MakeNoZero"], named := ["internal/bytealg.MaxLen"], apart := false }
def LevelPlaysSaid : Prop := levelPlaysRow.holds Try.pinned (OpenSpec.ofChange levelPlaysSpec)

/-- ITS FALSE NEIGHBOUR: 'it returns false'. Refute it at one input. -/
def levelPlaysWrong : ChangeSpec := { name := "levelPlays", fn := fun _ => fun
  | [d1, d2] => { results := [.lit (.bool false)], args := [d1, d2] }
  | _ => none }
def LevelPlaysWrongFalsely : Prop := levelPlaysRow.holds Try.pinned (OpenSpec.ofChange levelPlaysWrong)

/-- 'crierlaw17.LevelBack': WHATEVER THE INPUT: true; the input reads as it did. -/
def levelBackSpec : ChangeSpec := { name := "levelBack", fn := fun _ => fun
  | [d] => { results := [.lit (.bool true)], args := [d] }
  | _ => none }
def levelBackRow : OpenClaim := { program := "ytkihhnndidaloaa", sum := "5d1b7420b67540848480122601882feec4fd65589431172c62cf1c44eb396849", func := "crier/crierlaw17.LevelBack", spec := "levelBack", inPlace := ["internal/abi.NoEscape", "internal/bytealg.MakeNoZero", "internal/bytealg.CountString", "internal/bytealg.IndexByteString", "internal/bytealg.IndexString"], named := ["internal/bytealg.MaxLen"], apart := false }
def LevelBackSaid : Prop := levelBackRow.holds Try.pinned (OpenSpec.ofChange levelBackSpec)

/-- ITS FALSE NEIGHBOUR: 'it returns false'. Refute it at one input. -/
def levelBackWrong : ChangeSpec := { name := "levelBack", fn := fun _ => fun
  | [d] => { results := [.lit (.bool false)], args := [d] }
  | _ => none }
def LevelBackWrongFalsely : Prop := levelBackRow.holds Try.pinned (OpenSpec.ofChange levelBackWrong)

/-- 'crierlaw17.LevelLimits': WHATEVER THE INPUT: true; the input reads as it did. -/
def levelLimitsSpec : ChangeSpec := { name := "levelLimits", fn := fun _ => fun
  | [d1, d2] => { results := [.lit (.bool true)], args := [d1, d2] }
  | _ => none }
def levelLimitsRow : OpenClaim := { program := "ytkihhnndidaloaa", sum := "5d1b7420b67540848480122601882feec4fd65589431172c62cf1c44eb396849", func := "crier/crierlaw17.LevelLimits", spec := "levelLimits", inPlace := ["internal/bytealg.CountString", "internal/bytealg.IndexByteString", "internal/bytealg.IndexString"], named := ["internal/bytealg.MaxLen"], apart := false }
def LevelLimitsSaid : Prop := levelLimitsRow.holds Try.pinned (OpenSpec.ofChange levelLimitsSpec)

/-- ITS FALSE NEIGHBOUR: 'it returns false'. Refute it at one input. -/
def levelLimitsWrong : ChangeSpec := { name := "levelLimits", fn := fun _ => fun
  | [d1, d2] => { results := [.lit (.bool false)], args := [d1, d2] }
  | _ => none }
def LevelLimitsWrongFalsely : Prop := levelLimitsRow.holds Try.pinned (OpenSpec.ofChange levelLimitsWrong)

/- THE SECOND FORM. 'bulk': how many values and letters a reading holds, each counted each time it is reached (what is shared counts as often as it is met; a slice's spare places count too). A statement '..UptoSaid' is the law's where the arguments, and the package variables that the reading takes, are together of bulk at most 1048576: NARROWER than '..Said'. Prove '..Said' where nothing that the law and all that it calls make is longer than what came in: it says more and counts as full. Else prove '..UptoSaid'. A law counts once. -/
mutual
def uptoBulk {H : Type} : DataW H → Nat
  | .lit (.string bytes) => bytes.length + 1
  | .lit _ => 1
  | .nil => 1
  | .ptr d => uptoBulk d + 1
  | .slice elems spare => uptoBulkAll elems + uptoBulkAll spare + 1
  | .agg parts => uptoBulkAll parts + 1
  | .iface _ d => uptoBulk d + 1
  | .map entries => uptoBulkEntries entries + 1
  | .held _ => 1
def uptoBulkAll {H : Type} : List (DataW H) → Nat
  | [] => 0
  | d :: r => uptoBulk d + uptoBulkAll r
def uptoBulkEntries {H : Type} : List (Lit × DataW H) → Nat
  | [] => 0
  | x :: r => uptoBulkEntry x + uptoBulkEntries r
def uptoBulkEntry {H : Type} : Lit × DataW H → Nat
  | (.string bytes, d) => bytes.length + uptoBulk d + 1
  | (_, d) => uptoBulk d + 1
 end
def uptoSmall : (H : Type) → List (DataW H) → Bool := fun _ ds => decide (uptoBulkAll ds ≤ 1048576)
def OpenSpec.upto (s : _root_.Go.ChangeSpec) : _root_.Go.OpenSpec := { _root_.Go.OpenSpec.ofChange s with cond := some uptoSmall }

/-- 'crierlaw14.PublishPuts', WHERE WHAT IT READS IS OF BULK AT MOST 1048576: true; the input reads as it did. -/
def publishPutsUptoRow : OpenClaim := { program := "ytkihhnndidaloaa", sum := "5d1b7420b67540848480122601882feec4fd65589431172c62cf1c44eb396849", func := "crier/crierlaw14.PublishPuts", spec := "publishPuts", unfollowed := true, recurses := true, apart := false, narrowed := true }
def PublishPutsUptoSaid : Prop := publishPutsUptoRow.holds Try.pinned (OpenSpec.upto publishPutsSpec)

/-- 'crierlaw14.PublishReads', WHERE WHAT IT READS IS OF BULK AT MOST 1048576: true; the input reads as it did. -/
def publishReadsUptoRow : OpenClaim := { program := "ytkihhnndidaloaa", sum := "5d1b7420b67540848480122601882feec4fd65589431172c62cf1c44eb396849", func := "crier/crierlaw14.PublishReads", spec := "publishReads", unfollowed := true, recurses := true, apart := false, narrowed := true }
def PublishReadsUptoSaid : Prop := publishReadsUptoRow.holds Try.pinned (OpenSpec.upto publishReadsSpec)

/-- 'crierlaw14.PublishBack', WHERE WHAT IT READS IS OF BULK AT MOST 1048576: true; the input reads as it did. -/
def publishBackUptoRow : OpenClaim := { program := "ytkihhnndidaloaa", sum := "5d1b7420b67540848480122601882feec4fd65589431172c62cf1c44eb396849", func := "crier/crierlaw14.PublishBack", spec := "publishBack", unfollowed := true, recurses := true, apart := false, narrowed := true }
def PublishBackUptoSaid : Prop := publishBackUptoRow.holds Try.pinned (OpenSpec.upto publishBackSpec)

/-- 'crierlaw14.PublishIds', WHERE WHAT IT READS IS OF BULK AT MOST 1048576: true; the input reads as it did. -/
def publishIdsUptoRow : OpenClaim := { program := "ytkihhnndidaloaa", sum := "5d1b7420b67540848480122601882feec4fd65589431172c62cf1c44eb396849", func := "crier/crierlaw14.PublishIds", spec := "publishIds", unfollowed := true, recurses := true, apart := false, narrowed := true }
def PublishIdsUptoSaid : Prop := publishIdsUptoRow.holds Try.pinned (OpenSpec.upto publishIdsSpec)

/-- 'crierlaw13.ConnectPuts', WHERE WHAT IT READS IS OF BULK AT MOST 1048576: true; the input reads as it did. -/
def connectPutsUptoRow : OpenClaim := { program := "ytkihhnndidaloaa", sum := "5d1b7420b67540848480122601882feec4fd65589431172c62cf1c44eb396849", func := "crier/crierlaw13.ConnectPuts", spec := "connectPuts", apart := false, narrowed := true }
def ConnectPutsUptoSaid : Prop := connectPutsUptoRow.holds Try.pinned (OpenSpec.upto connectPutsSpec)

/-- 'crierlaw13.ConnectReads', WHERE WHAT IT READS IS OF BULK AT MOST 1048576: true; the input reads as it did. -/
def connectReadsUptoRow : OpenClaim := { program := "ytkihhnndidaloaa", sum := "5d1b7420b67540848480122601882feec4fd65589431172c62cf1c44eb396849", func := "crier/crierlaw13.ConnectReads", spec := "connectReads", unfollowed := true, recurses := true, apart := false, narrowed := true }
def ConnectReadsUptoSaid : Prop := connectReadsUptoRow.holds Try.pinned (OpenSpec.upto connectReadsSpec)

/-- 'crierlaw13.ConnectBack', WHERE WHAT IT READS IS OF BULK AT MOST 1048576: true; the input reads as it did. -/
def connectBackUptoRow : OpenClaim := { program := "ytkihhnndidaloaa", sum := "5d1b7420b67540848480122601882feec4fd65589431172c62cf1c44eb396849", func := "crier/crierlaw13.ConnectBack", spec := "connectBack", unfollowed := true, recurses := true, apart := false, narrowed := true }
def ConnectBackUptoSaid : Prop := connectBackUptoRow.holds Try.pinned (OpenSpec.upto connectBackSpec)

/-- 'crierlaw13.ConnectAcks', WHERE WHAT IT READS IS OF BULK AT MOST 1048576: true; the input reads as it did. -/
def connectAcksUptoRow : OpenClaim := { program := "ytkihhnndidaloaa", sum := "5d1b7420b67540848480122601882feec4fd65589431172c62cf1c44eb396849", func := "crier/crierlaw13.ConnectAcks", spec := "connectAcks", apart := false, narrowed := true }
def ConnectAcksUptoSaid : Prop := connectAcksUptoRow.holds Try.pinned (OpenSpec.upto connectAcksSpec)

/-- 'crierlaw17.LevelPlays', WHERE WHAT IT READS IS OF BULK AT MOST 1048576: true; the input reads as it did. -/
def levelPlaysUptoRow : OpenClaim := { program := "ytkihhnndidaloaa", sum := "5d1b7420b67540848480122601882feec4fd65589431172c62cf1c44eb396849", func := "crier/crierlaw17.LevelPlays", spec := "levelPlays", inPlace := ["internal/bytealg.CountString", "internal/bytealg.IndexByteString", "internal/bytealg.IndexString", "internal/abi.NoEscape", "internal/bytealg.MakeNoZero"], named := ["internal/bytealg.MaxLen"], apart := false, narrowed := true }
def LevelPlaysUptoSaid : Prop := levelPlaysUptoRow.holds Try.pinned (OpenSpec.upto levelPlaysSpec)

/-- 'crierlaw17.LevelBack', WHERE WHAT IT READS IS OF BULK AT MOST 1048576: true; the input reads as it did. -/
def levelBackUptoRow : OpenClaim := { program := "ytkihhnndidaloaa", sum := "5d1b7420b67540848480122601882feec4fd65589431172c62cf1c44eb396849", func := "crier/crierlaw17.LevelBack", spec := "levelBack", inPlace := ["internal/abi.NoEscape", "internal/bytealg.MakeNoZero", "internal/bytealg.CountString", "internal/bytealg.IndexByteString", "internal/bytealg.IndexString"], named := ["internal/bytealg.MaxLen"], apart := false, narrowed := true }
def LevelBackUptoSaid : Prop := levelBackUptoRow.holds Try.pinned (OpenSpec.upto levelBackSpec)

/-- 'crierlaw17.LevelLimits', WHERE WHAT IT READS IS OF BULK AT MOST 1048576: true; the input reads as it did. -/
def levelLimitsUptoRow : OpenClaim := { program := "ytkihhnndidaloaa", sum := "5d1b7420b67540848480122601882feec4fd65589431172c62cf1c44eb396849", func := "crier/crierlaw17.LevelLimits", spec := "levelLimits", inPlace := ["internal/bytealg.CountString", "internal/bytealg.IndexByteString", "internal/bytealg.IndexString"], named := ["internal/bytealg.MaxLen"], apart := false, narrowed := true }
def LevelLimitsUptoSaid : Prop := levelLimitsUptoRow.holds Try.pinned (OpenSpec.upto levelLimitsSpec)

end Rows
end Go.Proofs.Ytkihhnndidaloaa
