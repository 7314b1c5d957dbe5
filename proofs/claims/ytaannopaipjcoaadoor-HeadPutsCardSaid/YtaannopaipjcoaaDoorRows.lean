/-
  NARROWER THAN 'FOR EVERY INPUT', by the rows' own cells (each row's printed sentence says how): HeadPuts: laid · HeadReads: laid · HeadBack: laid · HeadFlags: laid.
  DERIVED. THE GIVEN ROWS OF THIS SEAT. 4 by the template 'for every input the law returns true; each argument reads behind the call as it read before'; 0 by the template 'total and deterministic' (their statements: YtaannopaipjcoaaDoorTotals.lean).
  GIVEN WITH THE SEED: the statements are not yours to turn. If you find one false, say at which input.
  Laid BY PROGRAM, IN A SANDBOX (cutbox-rows.mjs): the forced cells as the released guide's own fill.sh prints them over the translation 6bc910f9dfeab6a8… (all of the seat's roots in one cut). By AI agents, Wed Nov 11 2026. No macro, syntax, notation, axiom, sorry.
-/
import Derived.Test.YtaannopaipjcoaaDoorChecked
import GoSem.Claim
import GoSem.ClaimJoined
import GoSem.ClaimMapViews
import Derived.JoinedTies
import Derived.KernelRfl
namespace Go.Proofs.YtaannopaipjcoaaDoor
/- THE CELL 'sum', in the pinned program and in every row, IS THE sha256 OF THE DUMP (.gsa) THAT YtaannopaipjcoaaDoorProg.lean LOADS. Nothing in Lean hashes anything: it is a label: what it is worth is what the hold of that sum in a sandbox is worth. -/
noncomputable def Tryd.pinned : Pinned := { name := "ytaannopaipjcoaadoor", sum := "6bc910f9dfeab6a8db55a84c6f8e0161b001e660e1d61434f568710e2230c877", checked := Tryd.checked }
namespace Rows
def none {H : Type} : Left H := { results := [], args := [] }

/- WHAT THE LISTED PACKAGE-LEVEL VARIABLES READ AS WHEN THE CALL BEGINS. Each datum BY PROGRAM (the guide's laid-datum.mjs) off the statement by which the dump's own 'gosem.cut.vars' lays the variable. In a bare row this is a premise. The card (YtaannopaipjcoaaDoorCards.lean) ties it to the program's text. -/
def laid_crier_head_may {H : Type} : DataW H := .agg [.lit (.int .u16 1), .lit (.int .u16 4), .lit (.int .u16 15423)]

/-- 'crierlaw11.HeadPuts': WHATEVER THE INPUT: true; the input reads as it did. -/
def headPutsSpec : ChangeSpec := { name := "headPuts", fn := fun _ => fun
  | [d] => { results := [.lit (.bool true)], args := [d] }
  | _ => none }
def headPutsRow : OpenClaim := { program := "ytaannopaipjcoaadoor", sum := "6bc910f9dfeab6a8db55a84c6f8e0161b001e660e1d61434f568710e2230c877", func := "crier/crierlaw11.HeadPuts", spec := "headPuts", named := ["crier/head.may"], apart := false, laid := [("crier/head.may", laid_crier_head_may)] }
def HeadPutsSaid : Prop := headPutsRow.holds Tryd.pinned (OpenSpec.ofChange headPutsSpec)

/-- ITS FALSE NEIGHBOUR: 'it returns false'. Refute it at one input. -/
def headPutsWrong : ChangeSpec := { name := "headPuts", fn := fun _ => fun
  | [d] => { results := [.lit (.bool false)], args := [d] }
  | _ => none }
def HeadPutsWrongFalsely : Prop := headPutsRow.holds Tryd.pinned (OpenSpec.ofChange headPutsWrong)

/-- 'crierlaw11.HeadReads': WHATEVER THE INPUT: true; the input reads as it did. -/
def headReadsSpec : ChangeSpec := { name := "headReads", fn := fun _ => fun
  | [d1, d2] => { results := [.lit (.bool true)], args := [d1, d2] }
  | _ => none }
def headReadsRow : OpenClaim := { program := "ytaannopaipjcoaadoor", sum := "6bc910f9dfeab6a8db55a84c6f8e0161b001e660e1d61434f568710e2230c877", func := "crier/crierlaw11.HeadReads", spec := "headReads", named := ["crier/head.may"], apart := false, laid := [("crier/head.may", laid_crier_head_may)] }
def HeadReadsSaid : Prop := headReadsRow.holds Tryd.pinned (OpenSpec.ofChange headReadsSpec)

/-- ITS FALSE NEIGHBOUR: 'it returns false'. Refute it at one input. -/
def headReadsWrong : ChangeSpec := { name := "headReads", fn := fun _ => fun
  | [d1, d2] => { results := [.lit (.bool false)], args := [d1, d2] }
  | _ => none }
def HeadReadsWrongFalsely : Prop := headReadsRow.holds Tryd.pinned (OpenSpec.ofChange headReadsWrong)

/-- 'crierlaw11.HeadBack': WHATEVER THE INPUT: true; the input reads as it did. -/
def headBackSpec : ChangeSpec := { name := "headBack", fn := fun _ => fun
  | [d1, d2, d3, d4] => { results := [.lit (.bool true)], args := [d1, d2, d3, d4] }
  | _ => none }
def headBackRow : OpenClaim := { program := "ytaannopaipjcoaadoor", sum := "6bc910f9dfeab6a8db55a84c6f8e0161b001e660e1d61434f568710e2230c877", func := "crier/crierlaw11.HeadBack", spec := "headBack", named := ["crier/head.may"], apart := false, laid := [("crier/head.may", laid_crier_head_may)] }
def HeadBackSaid : Prop := headBackRow.holds Tryd.pinned (OpenSpec.ofChange headBackSpec)

/-- ITS FALSE NEIGHBOUR: 'it returns false'. Refute it at one input. -/
def headBackWrong : ChangeSpec := { name := "headBack", fn := fun _ => fun
  | [d1, d2, d3, d4] => { results := [.lit (.bool false)], args := [d1, d2, d3, d4] }
  | _ => none }
def HeadBackWrongFalsely : Prop := headBackRow.holds Tryd.pinned (OpenSpec.ofChange headBackWrong)

/-- 'crierlaw11.HeadFlags': WHATEVER THE INPUT: true; the input reads as it did. -/
def headFlagsSpec : ChangeSpec := { name := "headFlags", fn := fun _ => fun
  | [d1, d2, d3, d4] => { results := [.lit (.bool true)], args := [d1, d2, d3, d4] }
  | _ => none }
def headFlagsRow : OpenClaim := { program := "ytaannopaipjcoaadoor", sum := "6bc910f9dfeab6a8db55a84c6f8e0161b001e660e1d61434f568710e2230c877", func := "crier/crierlaw11.HeadFlags", spec := "headFlags", named := ["crier/head.may"], apart := false, laid := [("crier/head.may", laid_crier_head_may)] }
def HeadFlagsSaid : Prop := headFlagsRow.holds Tryd.pinned (OpenSpec.ofChange headFlagsSpec)

/-- ITS FALSE NEIGHBOUR: 'it returns false'. Refute it at one input. -/
def headFlagsWrong : ChangeSpec := { name := "headFlags", fn := fun _ => fun
  | [d1, d2, d3, d4] => { results := [.lit (.bool false)], args := [d1, d2, d3, d4] }
  | _ => none }
def HeadFlagsWrongFalsely : Prop := headFlagsRow.holds Tryd.pinned (OpenSpec.ofChange headFlagsWrong)

/- THE SECOND FORM. 'bulk': how many values and letters a reading holds, each counted each time it is reached (what is shared counts as often as it is met; a slice's spare places count too). A statement '..UptoSaid' is the law's where the arguments, and the package variables that the reading takes, are together of bulk at most 1048576: NARROWER than '..Said'. Prove '..Said' where nothing that the law and all that it calls make is longer than what came in: it says more and counts as full. Else prove '..UptoSaid'. A law counts once. -/
mutual
def uptoBulk {H : Type} : DataW H → Nat
  | .lit (.string bytes) => bytes.length + 1
  | .lit _ => 1
  | .nil => 1
  | .ptr d => uptoBulk d + 1
  | .slice elems spare => uptoBulkAll elems + uptoBulkAll spare + 1
  | .agg parts => uptoBulkAll parts + 1
  | .iface _ d => uptoBulk d + 1
  | .map entries => uptoBulkEntries entries + 1
  | .held _ => 1
def uptoBulkAll {H : Type} : List (DataW H) → Nat
  | [] => 0
  | d :: r => uptoBulk d + uptoBulkAll r
def uptoBulkEntries {H : Type} : List (Lit × DataW H) → Nat
  | [] => 0
  | x :: r => uptoBulkEntry x + uptoBulkEntries r
def uptoBulkEntry {H : Type} : Lit × DataW H → Nat
  | (.string bytes, d) => bytes.length + uptoBulk d + 1
  | (_, d) => uptoBulk d + 1
 end
def uptoSmall : (H : Type) → List (DataW H) → Bool := fun _ ds => decide (uptoBulkAll ds ≤ 1048576)
def OpenSpec.upto (s : _root_.Go.ChangeSpec) : _root_.Go.OpenSpec := { _root_.Go.OpenSpec.ofChange s with cond := some uptoSmall }

/-- 'crierlaw11.HeadPuts', WHERE WHAT IT READS IS OF BULK AT MOST 1048576: true; the input reads as it did. -/
def headPutsUptoRow : OpenClaim := { program := "ytaannopaipjcoaadoor", sum := "6bc910f9dfeab6a8db55a84c6f8e0161b001e660e1d61434f568710e2230c877", func := "crier/crierlaw11.HeadPuts", spec := "headPuts", named := ["crier/head.may"], apart := false, laid := [("crier/head.may", laid_crier_head_may)], narrowed := true }
def HeadPutsUptoSaid : Prop := headPutsUptoRow.holds Tryd.pinned (OpenSpec.upto headPutsSpec)

/-- 'crierlaw11.HeadReads', WHERE WHAT IT READS IS OF BULK AT MOST 1048576: true; the input reads as it did. -/
def headReadsUptoRow : OpenClaim := { program := "ytaannopaipjcoaadoor", sum := "6bc910f9dfeab6a8db55a84c6f8e0161b001e660e1d61434f568710e2230c877", func := "crier/crierlaw11.HeadReads", spec := "headReads", named := ["crier/head.may"], apart := false, laid := [("crier/head.may", laid_crier_head_may)], narrowed := true }
def HeadReadsUptoSaid : Prop := headReadsUptoRow.holds Tryd.pinned (OpenSpec.upto headReadsSpec)

/-- 'crierlaw11.HeadBack', WHERE WHAT IT READS IS OF BULK AT MOST 1048576: true; the input reads as it did. -/
def headBackUptoRow : OpenClaim := { program := "ytaannopaipjcoaadoor", sum := "6bc910f9dfeab6a8db55a84c6f8e0161b001e660e1d61434f568710e2230c877", func := "crier/crierlaw11.HeadBack", spec := "headBack", named := ["crier/head.may"], apart := false, laid := [("crier/head.may", laid_crier_head_may)], narrowed := true }
def HeadBackUptoSaid : Prop := headBackUptoRow.holds Tryd.pinned (OpenSpec.upto headBackSpec)

/-- 'crierlaw11.HeadFlags', WHERE WHAT IT READS IS OF BULK AT MOST 1048576: true; the input reads as it did. -/
def headFlagsUptoRow : OpenClaim := { program := "ytaannopaipjcoaadoor", sum := "6bc910f9dfeab6a8db55a84c6f8e0161b001e660e1d61434f568710e2230c877", func := "crier/crierlaw11.HeadFlags", spec := "headFlags", named := ["crier/head.may"], apart := false, laid := [("crier/head.may", laid_crier_head_may)], narrowed := true }
def HeadFlagsUptoSaid : Prop := headFlagsUptoRow.holds Tryd.pinned (OpenSpec.upto headFlagsSpec)

end Rows
end Go.Proofs.YtaannopaipjcoaaDoor
