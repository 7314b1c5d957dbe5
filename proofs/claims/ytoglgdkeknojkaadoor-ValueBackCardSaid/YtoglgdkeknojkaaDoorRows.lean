/-
  NARROWER THAN 'FOR EVERY INPUT', by the rows' own cells (each row's printed sentence says how): ValuePuts: laid · ValueReads: laid · ValueBack: laid · ValueRaw: laid.
  DERIVED. THE GIVEN ROWS OF THIS SEAT. 4 by the template 'for every input the law returns true; each argument reads behind the call as it read before'; 0 by the template 'total and deterministic' (their statements: YtoglgdkeknojkaaDoorTotals.lean).
  GIVEN WITH THE SEED: the statements are not yours to turn. If you find one false, say at which input.
  Laid BY PROGRAM, IN A SANDBOX (cutbox-rows.mjs): the forced cells as the released guide's own fill.sh prints them over the translation 86df5f4247625c72… (all of the seat's roots in one cut). By AI agents, Wed Nov 11 2026. No macro, syntax, notation, axiom, sorry.
-/
import Derived.Test.YtoglgdkeknojkaaDoorChecked
import GoSem.Claim
import GoSem.ClaimJoined
import GoSem.ClaimMapViews
import Derived.JoinedTies
import Derived.KernelRfl
namespace Go.Proofs.YtoglgdkeknojkaaDoor
/- THE CELL 'sum', in the pinned program and in every row, IS THE sha256 OF THE DUMP (.gsa) THAT YtoglgdkeknojkaaDoorProg.lean LOADS. Nothing in Lean hashes anything: it is a label: what it is worth is what the hold of that sum in a sandbox is worth. -/
noncomputable def Tryd.pinned : Pinned := { name := "ytoglgdkeknojkaadoor", sum := "86df5f4247625c72b7e40bd3683b3dd6333be55049cf0d1c64ee8aec38041fb1", checked := Tryd.checked }
namespace Rows
def none {H : Type} : Left H := { results := [], args := [] }

/- WHAT THE LISTED PACKAGE-LEVEL VARIABLES READ AS WHEN THE CALL BEGINS. Each datum BY PROGRAM (the guide's laid-datum.mjs) off the statement by which the dump's own 'gosem.cut.vars' lays the variable. In a bare row this is a premise. The card (YtoglgdkeknojkaaDoorCards.lean) ties it to the program's text. -/
def laid_crier_value_kinds {H : Type} : DataW H := .agg [.lit (.int .i64 0), .lit (.int .i64 0), .lit (.int .i64 0), .lit (.int .i64 5), .lit (.int .i64 1), .lit (.int .i64 0), .lit (.int .i64 2), .lit (.int .i64 2)]
def laid_crier_value_most {H : Type} : DataW H := .agg [.lit (.int .u64 18446744073709551615), .lit (.int .u64 4294967295), .lit (.int .u64 18446744073709551615), .lit (.int .u64 4294967295), .lit (.int .u64 18446744073709551615), .lit (.int .u64 1), .lit (.int .u64 18446744073709551615), .lit (.int .u64 18446744073709551615)]

/-- 'crierlaw05.ValuePuts': WHATEVER THE INPUT: true; the input reads as it did. -/
def valuePutsSpec : ChangeSpec := { name := "valuePuts", fn := fun _ => fun
  | [d1, d2, d3] => { results := [.lit (.bool true)], args := [d1, d2, d3] }
  | _ => none }
def valuePutsRow : OpenClaim := { program := "ytoglgdkeknojkaadoor", sum := "86df5f4247625c72b7e40bd3683b3dd6333be55049cf0d1c64ee8aec38041fb1", func := "crier/crierlaw05.ValuePuts", spec := "valuePuts", named := ["crier/value.kinds", "crier/value.most"], apart := false, laid := [("crier/value.kinds", laid_crier_value_kinds), ("crier/value.most", laid_crier_value_most)] }
def ValuePutsSaid : Prop := valuePutsRow.holds Tryd.pinned (OpenSpec.ofChange valuePutsSpec)

/-- ITS FALSE NEIGHBOUR: 'it returns false'. Refute it at one input. -/
def valuePutsWrong : ChangeSpec := { name := "valuePuts", fn := fun _ => fun
  | [d1, d2, d3] => { results := [.lit (.bool false)], args := [d1, d2, d3] }
  | _ => none }
def ValuePutsWrongFalsely : Prop := valuePutsRow.holds Tryd.pinned (OpenSpec.ofChange valuePutsWrong)

/-- 'crierlaw05.ValueReads': WHATEVER THE INPUT: true; the input reads as it did. -/
def valueReadsSpec : ChangeSpec := { name := "valueReads", fn := fun _ => fun
  | [d1, d2, d3] => { results := [.lit (.bool true)], args := [d1, d2, d3] }
  | _ => none }
def valueReadsRow : OpenClaim := { program := "ytoglgdkeknojkaadoor", sum := "86df5f4247625c72b7e40bd3683b3dd6333be55049cf0d1c64ee8aec38041fb1", func := "crier/crierlaw05.ValueReads", spec := "valueReads", named := ["crier/value.kinds", "crier/value.most"], apart := false, laid := [("crier/value.kinds", laid_crier_value_kinds), ("crier/value.most", laid_crier_value_most)] }
def ValueReadsSaid : Prop := valueReadsRow.holds Tryd.pinned (OpenSpec.ofChange valueReadsSpec)

/-- ITS FALSE NEIGHBOUR: 'it returns false'. Refute it at one input. -/
def valueReadsWrong : ChangeSpec := { name := "valueReads", fn := fun _ => fun
  | [d1, d2, d3] => { results := [.lit (.bool false)], args := [d1, d2, d3] }
  | _ => none }
def ValueReadsWrongFalsely : Prop := valueReadsRow.holds Tryd.pinned (OpenSpec.ofChange valueReadsWrong)

/-- 'crierlaw05.ValueBack': WHATEVER THE INPUT: true; the input reads as it did. -/
def valueBackSpec : ChangeSpec := { name := "valueBack", fn := fun _ => fun
  | [d1, d2, d3] => { results := [.lit (.bool true)], args := [d1, d2, d3] }
  | _ => none }
def valueBackRow : OpenClaim := { program := "ytoglgdkeknojkaadoor", sum := "86df5f4247625c72b7e40bd3683b3dd6333be55049cf0d1c64ee8aec38041fb1", func := "crier/crierlaw05.ValueBack", spec := "valueBack", unfollowed := true, recurses := true, named := ["crier/value.kinds", "crier/value.most"], apart := false, laid := [("crier/value.kinds", laid_crier_value_kinds), ("crier/value.most", laid_crier_value_most)] }
def ValueBackSaid : Prop := valueBackRow.holds Tryd.pinned (OpenSpec.ofChange valueBackSpec)

/-- ITS FALSE NEIGHBOUR: 'it returns false'. Refute it at one input. -/
def valueBackWrong : ChangeSpec := { name := "valueBack", fn := fun _ => fun
  | [d1, d2, d3] => { results := [.lit (.bool false)], args := [d1, d2, d3] }
  | _ => none }
def ValueBackWrongFalsely : Prop := valueBackRow.holds Tryd.pinned (OpenSpec.ofChange valueBackWrong)

/-- 'crierlaw05.ValueRaw': WHATEVER THE INPUT: true; the input reads as it did. -/
def valueRawSpec : ChangeSpec := { name := "valueRaw", fn := fun _ => fun
  | [d1, d2, d3] => { results := [.lit (.bool true)], args := [d1, d2, d3] }
  | _ => none }
def valueRawRow : OpenClaim := { program := "ytoglgdkeknojkaadoor", sum := "86df5f4247625c72b7e40bd3683b3dd6333be55049cf0d1c64ee8aec38041fb1", func := "crier/crierlaw05.ValueRaw", spec := "valueRaw", named := ["crier/value.kinds", "crier/value.most"], apart := false, laid := [("crier/value.kinds", laid_crier_value_kinds), ("crier/value.most", laid_crier_value_most)] }
def ValueRawSaid : Prop := valueRawRow.holds Tryd.pinned (OpenSpec.ofChange valueRawSpec)

/-- ITS FALSE NEIGHBOUR: 'it returns false'. Refute it at one input. -/
def valueRawWrong : ChangeSpec := { name := "valueRaw", fn := fun _ => fun
  | [d1, d2, d3] => { results := [.lit (.bool false)], args := [d1, d2, d3] }
  | _ => none }
def ValueRawWrongFalsely : Prop := valueRawRow.holds Tryd.pinned (OpenSpec.ofChange valueRawWrong)

/- THE SECOND FORM. 'bulk': how many values and letters a reading holds, each counted each time it is reached (what is shared counts as often as it is met; a slice's spare places count too). A statement '..UptoSaid' is the law's where the arguments, and the package variables that the reading takes, are together of bulk at most 1048576: NARROWER than '..Said'. Prove '..Said' where nothing that the law and all that it calls make is longer than what came in: it says more and counts as full. Else prove '..UptoSaid'. A law counts once. -/
mutual
def uptoBulk {H : Type} : DataW H → Nat
  | .lit (.string bytes) => bytes.length + 1
  | .lit _ => 1
  | .nil => 1
  | .ptr d => uptoBulk d + 1
  | .slice elems spare => uptoBulkAll elems + uptoBulkAll spare + 1
  | .agg parts => uptoBulkAll parts + 1
  | .iface _ d => uptoBulk d + 1
  | .map entries => uptoBulkEntries entries + 1
  | .held _ => 1
def uptoBulkAll {H : Type} : List (DataW H) → Nat
  | [] => 0
  | d :: r => uptoBulk d + uptoBulkAll r
def uptoBulkEntries {H : Type} : List (Lit × DataW H) → Nat
  | [] => 0
  | x :: r => uptoBulkEntry x + uptoBulkEntries r
def uptoBulkEntry {H : Type} : Lit × DataW H → Nat
  | (.string bytes, d) => bytes.length + uptoBulk d + 1
  | (_, d) => uptoBulk d + 1
 end
def uptoSmall : (H : Type) → List (DataW H) → Bool := fun _ ds => decide (uptoBulkAll ds ≤ 1048576)
def OpenSpec.upto (s : _root_.Go.ChangeSpec) : _root_.Go.OpenSpec := { _root_.Go.OpenSpec.ofChange s with cond := some uptoSmall }

/-- 'crierlaw05.ValuePuts', WHERE WHAT IT READS IS OF BULK AT MOST 1048576: true; the input reads as it did. -/
def valuePutsUptoRow : OpenClaim := { program := "ytoglgdkeknojkaadoor", sum := "86df5f4247625c72b7e40bd3683b3dd6333be55049cf0d1c64ee8aec38041fb1", func := "crier/crierlaw05.ValuePuts", spec := "valuePuts", named := ["crier/value.kinds", "crier/value.most"], apart := false, laid := [("crier/value.kinds", laid_crier_value_kinds), ("crier/value.most", laid_crier_value_most)], narrowed := true }
def ValuePutsUptoSaid : Prop := valuePutsUptoRow.holds Tryd.pinned (OpenSpec.upto valuePutsSpec)

/-- 'crierlaw05.ValueReads', WHERE WHAT IT READS IS OF BULK AT MOST 1048576: true; the input reads as it did. -/
def valueReadsUptoRow : OpenClaim := { program := "ytoglgdkeknojkaadoor", sum := "86df5f4247625c72b7e40bd3683b3dd6333be55049cf0d1c64ee8aec38041fb1", func := "crier/crierlaw05.ValueReads", spec := "valueReads", named := ["crier/value.kinds", "crier/value.most"], apart := false, laid := [("crier/value.kinds", laid_crier_value_kinds), ("crier/value.most", laid_crier_value_most)], narrowed := true }
def ValueReadsUptoSaid : Prop := valueReadsUptoRow.holds Tryd.pinned (OpenSpec.upto valueReadsSpec)

/-- 'crierlaw05.ValueBack', WHERE WHAT IT READS IS OF BULK AT MOST 1048576: true; the input reads as it did. -/
def valueBackUptoRow : OpenClaim := { program := "ytoglgdkeknojkaadoor", sum := "86df5f4247625c72b7e40bd3683b3dd6333be55049cf0d1c64ee8aec38041fb1", func := "crier/crierlaw05.ValueBack", spec := "valueBack", unfollowed := true, recurses := true, named := ["crier/value.kinds", "crier/value.most"], apart := false, laid := [("crier/value.kinds", laid_crier_value_kinds), ("crier/value.most", laid_crier_value_most)], narrowed := true }
def ValueBackUptoSaid : Prop := valueBackUptoRow.holds Tryd.pinned (OpenSpec.upto valueBackSpec)

/-- 'crierlaw05.ValueRaw', WHERE WHAT IT READS IS OF BULK AT MOST 1048576: true; the input reads as it did. -/
def valueRawUptoRow : OpenClaim := { program := "ytoglgdkeknojkaadoor", sum := "86df5f4247625c72b7e40bd3683b3dd6333be55049cf0d1c64ee8aec38041fb1", func := "crier/crierlaw05.ValueRaw", spec := "valueRaw", named := ["crier/value.kinds", "crier/value.most"], apart := false, laid := [("crier/value.kinds", laid_crier_value_kinds), ("crier/value.most", laid_crier_value_most)], narrowed := true }
def ValueRawUptoSaid : Prop := valueRawUptoRow.holds Tryd.pinned (OpenSpec.upto valueRawSpec)

end Rows
end Go.Proofs.YtoglgdkeknojkaaDoor
