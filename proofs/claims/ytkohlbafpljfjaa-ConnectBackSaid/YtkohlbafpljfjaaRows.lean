/-
  No cell of these rows narrows 'for every input' (looked for: loops, veiled, ifaces, maps, wideKeys, modest, calm, conditions, laid).
  DERIVED. THE GIVEN ROWS OF THIS SEAT. 6 by the template 'for every input the law returns true; each argument reads behind the call as it read before'; 0 by the template 'total and deterministic' (their statements: YtkohlbafpljfjaaTotals.lean).
  GIVEN WITH THE SEED: the statements are not yours to turn. If you find one false, say at which input.
  Laid BY PROGRAM, IN A SANDBOX (cutbox-rows.mjs): the forced cells as the released guide's own fill.sh prints them over the translation 1d85408cc5877ba1… (all of the seat's roots in one cut). By AI agents, Wed Nov 11 2026. No macro, syntax, notation, axiom, sorry.
-/
import Derived.Test.YtkohlbafpljfjaaChecked
import GoSem.Claim
import GoSem.ClaimJoined
import GoSem.ClaimMapViews
import Derived.JoinedTies
import Derived.KernelRfl
namespace Go.Proofs.Ytkohlbafpljfjaa
/- THE CELL 'sum', in the pinned program and in every row, IS THE sha256 OF THE DUMP (.gsa) THAT YtkohlbafpljfjaaProg.lean LOADS. Nothing in Lean hashes anything: it is a label: what it is worth is what the hold of that sum in a sandbox is worth. -/
noncomputable def Try.pinned : Pinned := { name := "ytkohlbafpljfjaa", sum := "1d85408cc5877ba14d2f8d7c4e1990be52fb09da0228a6740d06b8bc6a2828ce", checked := Try.checked }
namespace Rows
def none {H : Type} : Left H := { results := [], args := [] }

/-- 'crierlaw15.SubsPuts': WHATEVER THE INPUT: true; the input reads as it did. -/
def subsPutsSpec : ChangeSpec := { name := "subsPuts", fn := fun _ => fun
  | [d1, d2, d3] => { results := [.lit (.bool true)], args := [d1, d2, d3] }
  | _ => none }
def subsPutsRow : OpenClaim := { program := "ytkohlbafpljfjaa", sum := "1d85408cc5877ba14d2f8d7c4e1990be52fb09da0228a6740d06b8bc6a2828ce", func := "crier/crierlaw15.SubsPuts", spec := "subsPuts", apart := false }
def SubsPutsSaid : Prop := subsPutsRow.holds Try.pinned (OpenSpec.ofChange subsPutsSpec)

/-- ITS FALSE NEIGHBOUR: 'it returns false'. Refute it at one input. -/
def subsPutsWrong : ChangeSpec := { name := "subsPuts", fn := fun _ => fun
  | [d1, d2, d3] => { results := [.lit (.bool false)], args := [d1, d2, d3] }
  | _ => none }
def SubsPutsWrongFalsely : Prop := subsPutsRow.holds Try.pinned (OpenSpec.ofChange subsPutsWrong)

/-- 'crierlaw15.SubsReads': WHATEVER THE INPUT: true; the input reads as it did. -/
def subsReadsSpec : ChangeSpec := { name := "subsReads", fn := fun _ => fun
  | [d1, d2] => { results := [.lit (.bool true)], args := [d1, d2] }
  | _ => none }
def subsReadsRow : OpenClaim := { program := "ytkohlbafpljfjaa", sum := "1d85408cc5877ba14d2f8d7c4e1990be52fb09da0228a6740d06b8bc6a2828ce", func := "crier/crierlaw15.SubsReads", spec := "subsReads", unfollowed := true, recurses := true, apart := false }
def SubsReadsSaid : Prop := subsReadsRow.holds Try.pinned (OpenSpec.ofChange subsReadsSpec)

/-- ITS FALSE NEIGHBOUR: 'it returns false'. Refute it at one input. -/
def subsReadsWrong : ChangeSpec := { name := "subsReads", fn := fun _ => fun
  | [d1, d2] => { results := [.lit (.bool false)], args := [d1, d2] }
  | _ => none }
def SubsReadsWrongFalsely : Prop := subsReadsRow.holds Try.pinned (OpenSpec.ofChange subsReadsWrong)

/-- 'crierlaw15.SubsAcks': WHATEVER THE INPUT: true; the input reads as it did. -/
def subsAcksSpec : ChangeSpec := { name := "subsAcks", fn := fun _ => fun
  | [d1, d2, d3] => { results := [.lit (.bool true)], args := [d1, d2, d3] }
  | _ => none }
def subsAcksRow : OpenClaim := { program := "ytkohlbafpljfjaa", sum := "1d85408cc5877ba14d2f8d7c4e1990be52fb09da0228a6740d06b8bc6a2828ce", func := "crier/crierlaw15.SubsAcks", spec := "subsAcks", apart := false }
def SubsAcksSaid : Prop := subsAcksRow.holds Try.pinned (OpenSpec.ofChange subsAcksSpec)

/-- ITS FALSE NEIGHBOUR: 'it returns false'. Refute it at one input. -/
def subsAcksWrong : ChangeSpec := { name := "subsAcks", fn := fun _ => fun
  | [d1, d2, d3] => { results := [.lit (.bool false)], args := [d1, d2, d3] }
  | _ => none }
def SubsAcksWrongFalsely : Prop := subsAcksRow.holds Try.pinned (OpenSpec.ofChange subsAcksWrong)

/-- 'crierlaw15.SubsBack': WHATEVER THE INPUT: true; the input reads as it did. -/
def subsBackSpec : ChangeSpec := { name := "subsBack", fn := fun _ => fun
  | [d1, d2, d3] => { results := [.lit (.bool true)], args := [d1, d2, d3] }
  | _ => none }
def subsBackRow : OpenClaim := { program := "ytkohlbafpljfjaa", sum := "1d85408cc5877ba14d2f8d7c4e1990be52fb09da0228a6740d06b8bc6a2828ce", func := "crier/crierlaw15.SubsBack", spec := "subsBack", unfollowed := true, recurses := true, apart := false }
def SubsBackSaid : Prop := subsBackRow.holds Try.pinned (OpenSpec.ofChange subsBackSpec)

/-- ITS FALSE NEIGHBOUR: 'it returns false'. Refute it at one input. -/
def subsBackWrong : ChangeSpec := { name := "subsBack", fn := fun _ => fun
  | [d1, d2, d3] => { results := [.lit (.bool false)], args := [d1, d2, d3] }
  | _ => none }
def SubsBackWrongFalsely : Prop := subsBackRow.holds Try.pinned (OpenSpec.ofChange subsBackWrong)

/-- 'crierlaw13.ConnectReads': WHATEVER THE INPUT: true; the input reads as it did. -/
def connectReadsSpec : ChangeSpec := { name := "connectReads", fn := fun _ => fun
  | [d] => { results := [.lit (.bool true)], args := [d] }
  | _ => none }
def connectReadsRow : OpenClaim := { program := "ytkohlbafpljfjaa", sum := "1d85408cc5877ba14d2f8d7c4e1990be52fb09da0228a6740d06b8bc6a2828ce", func := "crier/crierlaw13.ConnectReads", spec := "connectReads", unfollowed := true, recurses := true, apart := false }
def ConnectReadsSaid : Prop := connectReadsRow.holds Try.pinned (OpenSpec.ofChange connectReadsSpec)

/-- ITS FALSE NEIGHBOUR: 'it returns false'. Refute it at one input. -/
def connectReadsWrong : ChangeSpec := { name := "connectReads", fn := fun _ => fun
  | [d] => { results := [.lit (.bool false)], args := [d] }
  | _ => none }
def ConnectReadsWrongFalsely : Prop := connectReadsRow.holds Try.pinned (OpenSpec.ofChange connectReadsWrong)

/-- 'crierlaw13.ConnectBack': WHATEVER THE INPUT: true; the input reads as it did. -/
def connectBackSpec : ChangeSpec := { name := "connectBack", fn := fun _ => fun
  | [d1, d2] => { results := [.lit (.bool true)], args := [d1, d2] }
  | _ => none }
def connectBackRow : OpenClaim := { program := "ytkohlbafpljfjaa", sum := "1d85408cc5877ba14d2f8d7c4e1990be52fb09da0228a6740d06b8bc6a2828ce", func := "crier/crierlaw13.ConnectBack", spec := "connectBack", unfollowed := true, recurses := true, apart := false }
def ConnectBackSaid : Prop := connectBackRow.holds Try.pinned (OpenSpec.ofChange connectBackSpec)

/-- ITS FALSE NEIGHBOUR: 'it returns false'. Refute it at one input. -/
def connectBackWrong : ChangeSpec := { name := "connectBack", fn := fun _ => fun
  | [d1, d2] => { results := [.lit (.bool false)], args := [d1, d2] }
  | _ => none }
def ConnectBackWrongFalsely : Prop := connectBackRow.holds Try.pinned (OpenSpec.ofChange connectBackWrong)

/- THE SECOND FORM. 'bulk': how many values and letters a reading holds, each counted each time it is reached (what is shared counts as often as it is met; a slice's spare places count too). A statement '..UptoSaid' is the law's where the arguments, and the package variables that the reading takes, are together of bulk at most 1048576: NARROWER than '..Said'. Prove '..Said' where nothing that the law and all that it calls make is longer than what came in: it says more and counts as full. Else prove '..UptoSaid'. A law counts once. -/
mutual
def uptoBulk {H : Type} : DataW H → Nat
  | .lit (.string bytes) => bytes.length + 1
  | .lit _ => 1
  | .nil => 1
  | .ptr d => uptoBulk d + 1
  | .slice elems spare => uptoBulkAll elems + uptoBulkAll spare + 1
  | .agg parts => uptoBulkAll parts + 1
  | .iface _ d => uptoBulk d + 1
  | .map entries => uptoBulkEntries entries + 1
  | .held _ => 1
def uptoBulkAll {H : Type} : List (DataW H) → Nat
  | [] => 0
  | d :: r => uptoBulk d + uptoBulkAll r
def uptoBulkEntries {H : Type} : List (Lit × DataW H) → Nat
  | [] => 0
  | x :: r => uptoBulkEntry x + uptoBulkEntries r
def uptoBulkEntry {H : Type} : Lit × DataW H → Nat
  | (.string bytes, d) => bytes.length + uptoBulk d + 1
  | (_, d) => uptoBulk d + 1
 end
def uptoSmall : (H : Type) → List (DataW H) → Bool := fun _ ds => decide (uptoBulkAll ds ≤ 1048576)
def OpenSpec.upto (s : _root_.Go.ChangeSpec) : _root_.Go.OpenSpec := { _root_.Go.OpenSpec.ofChange s with cond := some uptoSmall }

/-- 'crierlaw15.SubsPuts', WHERE WHAT IT READS IS OF BULK AT MOST 1048576: true; the input reads as it did. -/
def subsPutsUptoRow : OpenClaim := { program := "ytkohlbafpljfjaa", sum := "1d85408cc5877ba14d2f8d7c4e1990be52fb09da0228a6740d06b8bc6a2828ce", func := "crier/crierlaw15.SubsPuts", spec := "subsPuts", apart := false, narrowed := true }
def SubsPutsUptoSaid : Prop := subsPutsUptoRow.holds Try.pinned (OpenSpec.upto subsPutsSpec)

/-- 'crierlaw15.SubsReads', WHERE WHAT IT READS IS OF BULK AT MOST 1048576: true; the input reads as it did. -/
def subsReadsUptoRow : OpenClaim := { program := "ytkohlbafpljfjaa", sum := "1d85408cc5877ba14d2f8d7c4e1990be52fb09da0228a6740d06b8bc6a2828ce", func := "crier/crierlaw15.SubsReads", spec := "subsReads", unfollowed := true, recurses := true, apart := false, narrowed := true }
def SubsReadsUptoSaid : Prop := subsReadsUptoRow.holds Try.pinned (OpenSpec.upto subsReadsSpec)

/-- 'crierlaw15.SubsAcks', WHERE WHAT IT READS IS OF BULK AT MOST 1048576: true; the input reads as it did. -/
def subsAcksUptoRow : OpenClaim := { program := "ytkohlbafpljfjaa", sum := "1d85408cc5877ba14d2f8d7c4e1990be52fb09da0228a6740d06b8bc6a2828ce", func := "crier/crierlaw15.SubsAcks", spec := "subsAcks", apart := false, narrowed := true }
def SubsAcksUptoSaid : Prop := subsAcksUptoRow.holds Try.pinned (OpenSpec.upto subsAcksSpec)

/-- 'crierlaw15.SubsBack', WHERE WHAT IT READS IS OF BULK AT MOST 1048576: true; the input reads as it did. -/
def subsBackUptoRow : OpenClaim := { program := "ytkohlbafpljfjaa", sum := "1d85408cc5877ba14d2f8d7c4e1990be52fb09da0228a6740d06b8bc6a2828ce", func := "crier/crierlaw15.SubsBack", spec := "subsBack", unfollowed := true, recurses := true, apart := false, narrowed := true }
def SubsBackUptoSaid : Prop := subsBackUptoRow.holds Try.pinned (OpenSpec.upto subsBackSpec)

/-- 'crierlaw13.ConnectReads', WHERE WHAT IT READS IS OF BULK AT MOST 1048576: true; the input reads as it did. -/
def connectReadsUptoRow : OpenClaim := { program := "ytkohlbafpljfjaa", sum := "1d85408cc5877ba14d2f8d7c4e1990be52fb09da0228a6740d06b8bc6a2828ce", func := "crier/crierlaw13.ConnectReads", spec := "connectReads", unfollowed := true, recurses := true, apart := false, narrowed := true }
def ConnectReadsUptoSaid : Prop := connectReadsUptoRow.holds Try.pinned (OpenSpec.upto connectReadsSpec)

/-- 'crierlaw13.ConnectBack', WHERE WHAT IT READS IS OF BULK AT MOST 1048576: true; the input reads as it did. -/
def connectBackUptoRow : OpenClaim := { program := "ytkohlbafpljfjaa", sum := "1d85408cc5877ba14d2f8d7c4e1990be52fb09da0228a6740d06b8bc6a2828ce", func := "crier/crierlaw13.ConnectBack", spec := "connectBack", unfollowed := true, recurses := true, apart := false, narrowed := true }
def ConnectBackUptoSaid : Prop := connectBackUptoRow.holds Try.pinned (OpenSpec.upto connectBackSpec)

end Rows
end Go.Proofs.Ytkohlbafpljfjaa
