/-
  NARROWER THAN 'FOR EVERY INPUT', by the rows' own cells (each row's printed sentence says how): SpaceBack: laid · SpaceOne: laid · SpaceWords: laid · SpaceBirths: laid.
  DERIVED. THE GIVEN ROWS OF THIS SEAT. 4 by the template 'for every input the law returns true; each argument reads behind the call as it read before'; 0 by the template 'total and deterministic' (their statements: YtbmelmmefgehoaaDoorTotals.lean).
  GIVEN WITH THE SEED: the statements are not yours to turn. If you find one false, say at which input.
  Laid BY PROGRAM, IN A SANDBOX (cutbox-rows.mjs): the forced cells as the released guide's own fill.sh prints them over the translation ed1e244aafc3c060… (all of the seat's roots in one cut). By AI agents, Wed Nov 11 2026. No macro, syntax, notation, axiom, sorry.
-/
import Derived.Test.YtbmelmmefgehoaaDoorChecked
import GoSem.Claim
import GoSem.ClaimJoined
import GoSem.ClaimMapViews
import Derived.JoinedTies
import Derived.KernelRfl
namespace Go.Proofs.YtbmelmmefgehoaaDoor
/- THE CELL 'sum', in the pinned program and in every row, IS THE sha256 OF THE DUMP (.gsa) THAT YtbmelmmefgehoaaDoorProg.lean LOADS. Nothing in Lean hashes anything: it is a label: what it is worth is what the hold of that sum in a sandbox is worth. -/
noncomputable def Tryd.pinned : Pinned := { name := "ytbmelmmefgehoaadoor", sum := "ed1e244aafc3c060079354b5b1ebafcc2813a37bdf9258f0266df4cbd7109fd7", checked := Tryd.checked }
namespace Rows
def none {H : Type} : Left H := { results := [], args := [] }

/- WHAT THE LISTED PACKAGE-LEVEL VARIABLES READ AS WHEN THE CALL BEGINS. Each datum BY PROGRAM (the guide's laid-datum.mjs) off the statement by which the dump's own 'gosem.cut.vars' lays the variable. In a bare row this is a premise. The card (YtbmelmmefgehoaaDoorCards.lean) ties it to the program's text. -/
def laid_crier_space_rows {H : Type} : DataW H := .agg [.agg [.lit (.string []), .lit (.int .i64 0)], .agg [.lit (.string [78, 66, 73, 82, 84, 72]), .lit (.int .i64 1)], .agg [.lit (.string [78, 68, 69, 65, 84, 72]), .lit (.int .i64 1)], .agg [.lit (.string [78, 68, 65, 84, 65]), .lit (.int .i64 1)], .agg [.lit (.string [78, 67, 77, 68]), .lit (.int .i64 1)], .agg [.lit (.string [68, 66, 73, 82, 84, 72]), .lit (.int .i64 3)], .agg [.lit (.string [68, 68, 69, 65, 84, 72]), .lit (.int .i64 3)], .agg [.lit (.string [68, 68, 65, 84, 65]), .lit (.int .i64 3)], .agg [.lit (.string [68, 67, 77, 68]), .lit (.int .i64 3)], .agg [.lit (.string [83, 84, 65, 84, 69]), .lit (.int .i64 0)]]

/-- 'crierlaw20.SpaceBack': WHATEVER THE INPUT: true; the input reads as it did. -/
def spaceBackSpec : ChangeSpec := { name := "spaceBack", fn := fun _ => fun
  | [d1, d2] => { results := [.lit (.bool true)], args := [d1, d2] }
  | _ => none }
def spaceBackRow : OpenClaim := { program := "ytbmelmmefgehoaadoor", sum := "ed1e244aafc3c060079354b5b1ebafcc2813a37bdf9258f0266df4cbd7109fd7", func := "crier/crierlaw20.SpaceBack", spec := "spaceBack", inPlace := ["internal/bytealg.CountString", "internal/bytealg.IndexByteString", "internal/bytealg.IndexString", "internal/abi.NoEscape", "internal/bytealg.MakeNoZero"], named := ["crier/space.rows", "internal/bytealg.MaxLen"], apart := false, laid := [("crier/space.rows", laid_crier_space_rows)] }
def SpaceBackSaid : Prop := spaceBackRow.holds Tryd.pinned (OpenSpec.ofChange spaceBackSpec)

/-- ITS FALSE NEIGHBOUR: 'it returns false'. Refute it at one input. -/
def spaceBackWrong : ChangeSpec := { name := "spaceBack", fn := fun _ => fun
  | [d1, d2] => { results := [.lit (.bool false)], args := [d1, d2] }
  | _ => none }
def SpaceBackWrongFalsely : Prop := spaceBackRow.holds Tryd.pinned (OpenSpec.ofChange spaceBackWrong)

/-- 'crierlaw20.SpaceOne': WHATEVER THE INPUT: true; the input reads as it did. -/
def spaceOneSpec : ChangeSpec := { name := "spaceOne", fn := fun _ => fun
  | [d1, d2] => { results := [.lit (.bool true)], args := [d1, d2] }
  | _ => none }
def spaceOneRow : OpenClaim := { program := "ytbmelmmefgehoaadoor", sum := "ed1e244aafc3c060079354b5b1ebafcc2813a37bdf9258f0266df4cbd7109fd7", func := "crier/crierlaw20.SpaceOne", spec := "spaceOne", inPlace := ["internal/bytealg.CountString", "internal/bytealg.IndexByteString", "internal/bytealg.IndexString", "internal/abi.NoEscape", "internal/bytealg.MakeNoZero"], named := ["crier/space.rows", "internal/bytealg.MaxLen"], apart := false, laid := [("crier/space.rows", laid_crier_space_rows)] }
def SpaceOneSaid : Prop := spaceOneRow.holds Tryd.pinned (OpenSpec.ofChange spaceOneSpec)

/-- ITS FALSE NEIGHBOUR: 'it returns false'. Refute it at one input. -/
def spaceOneWrong : ChangeSpec := { name := "spaceOne", fn := fun _ => fun
  | [d1, d2] => { results := [.lit (.bool false)], args := [d1, d2] }
  | _ => none }
def SpaceOneWrongFalsely : Prop := spaceOneRow.holds Tryd.pinned (OpenSpec.ofChange spaceOneWrong)

/-- 'crierlaw20.SpaceWords': WHATEVER THE INPUT: true; the input reads as it did. -/
def spaceWordsSpec : ChangeSpec := { name := "spaceWords", fn := fun _ => fun
  | [d1, d2] => { results := [.lit (.bool true)], args := [d1, d2] }
  | _ => none }
def spaceWordsRow : OpenClaim := { program := "ytbmelmmefgehoaadoor", sum := "ed1e244aafc3c060079354b5b1ebafcc2813a37bdf9258f0266df4cbd7109fd7", func := "crier/crierlaw20.SpaceWords", spec := "spaceWords", inPlace := ["internal/bytealg.CountString", "internal/bytealg.IndexByteString", "internal/bytealg.IndexString", "internal/abi.NoEscape", "internal/bytealg.MakeNoZero"], named := ["crier/space.rows", "internal/bytealg.MaxLen"], apart := false, laid := [("crier/space.rows", laid_crier_space_rows)] }
def SpaceWordsSaid : Prop := spaceWordsRow.holds Tryd.pinned (OpenSpec.ofChange spaceWordsSpec)

/-- ITS FALSE NEIGHBOUR: 'it returns false'. Refute it at one input. -/
def spaceWordsWrong : ChangeSpec := { name := "spaceWords", fn := fun _ => fun
  | [d1, d2] => { results := [.lit (.bool false)], args := [d1, d2] }
  | _ => none }
def SpaceWordsWrongFalsely : Prop := spaceWordsRow.holds Tryd.pinned (OpenSpec.ofChange spaceWordsWrong)

/-- 'crierlaw20.SpaceBirths': WHATEVER THE INPUT: true; the input reads as it did. -/
def spaceBirthsSpec : ChangeSpec := { name := "spaceBirths", fn := fun _ => fun
  | [d] => { results := [.lit (.bool true)], args := [d] }
  | _ => none }
def spaceBirthsRow : OpenClaim := { program := "ytbmelmmefgehoaadoor", sum := "ed1e244aafc3c060079354b5b1ebafcc2813a37bdf9258f0266df4cbd7109fd7", func := "crier/crierlaw20.SpaceBirths", spec := "spaceBirths", inPlace := ["internal/bytealg.CountString", "internal/bytealg.IndexByteString", "internal/bytealg.IndexString", "internal/abi.NoEscape", "internal/bytealg.MakeNoZero"], named := ["crier/space.rows", "internal/bytealg.MaxLen"], apart := false, laid := [("crier/space.rows", laid_crier_space_rows)] }
def SpaceBirthsSaid : Prop := spaceBirthsRow.holds Tryd.pinned (OpenSpec.ofChange spaceBirthsSpec)

/-- ITS FALSE NEIGHBOUR: 'it returns false'. Refute it at one input. -/
def spaceBirthsWrong : ChangeSpec := { name := "spaceBirths", fn := fun _ => fun
  | [d] => { results := [.lit (.bool false)], args := [d] }
  | _ => none }
def SpaceBirthsWrongFalsely : Prop := spaceBirthsRow.holds Tryd.pinned (OpenSpec.ofChange spaceBirthsWrong)

/- THE SECOND FORM. 'bulk': how many values and letters a reading holds, each counted each time it is reached (what is shared counts as often as it is met; a slice's spare places count too). A statement '..UptoSaid' is the law's where the arguments, and the package variables that the reading takes, are together of bulk at most 1048576: NARROWER than '..Said'. Prove '..Said' where nothing that the law and all that it calls make is longer than what came in: it says more and counts as full. Else prove '..UptoSaid'. A law counts once. -/
mutual
def uptoBulk {H : Type} : DataW H → Nat
  | .lit (.string bytes) => bytes.length + 1
  | .lit _ => 1
  | .nil => 1
  | .ptr d => uptoBulk d + 1
  | .slice elems spare => uptoBulkAll elems + uptoBulkAll spare + 1
  | .agg parts => uptoBulkAll parts + 1
  | .iface _ d => uptoBulk d + 1
  | .map entries => uptoBulkEntries entries + 1
  | .held _ => 1
def uptoBulkAll {H : Type} : List (DataW H) → Nat
  | [] => 0
  | d :: r => uptoBulk d + uptoBulkAll r
def uptoBulkEntries {H : Type} : List (Lit × DataW H) → Nat
  | [] => 0
  | x :: r => uptoBulkEntry x + uptoBulkEntries r
def uptoBulkEntry {H : Type} : Lit × DataW H → Nat
  | (.string bytes, d) => bytes.length + uptoBulk d + 1
  | (_, d) => uptoBulk d + 1
 end
def uptoSmall : (H : Type) → List (DataW H) → Bool := fun _ ds => decide (uptoBulkAll ds ≤ 1048576)
def OpenSpec.upto (s : _root_.Go.ChangeSpec) : _root_.Go.OpenSpec := { _root_.Go.OpenSpec.ofChange s with cond := some uptoSmall }

/-- 'crierlaw20.SpaceBack', WHERE WHAT IT READS IS OF BULK AT MOST 1048576: true; the input reads as it did. -/
def spaceBackUptoRow : OpenClaim := { program := "ytbmelmmefgehoaadoor", sum := "ed1e244aafc3c060079354b5b1ebafcc2813a37bdf9258f0266df4cbd7109fd7", func := "crier/crierlaw20.SpaceBack", spec := "spaceBack", inPlace := ["internal/bytealg.CountString", "internal/bytealg.IndexByteString", "internal/bytealg.IndexString", "internal/abi.NoEscape", "internal/bytealg.MakeNoZero"], named := ["crier/space.rows", "internal/bytealg.MaxLen"], apart := false, laid := [("crier/space.rows", laid_crier_space_rows)], narrowed := true }
def SpaceBackUptoSaid : Prop := spaceBackUptoRow.holds Tryd.pinned (OpenSpec.upto spaceBackSpec)

/-- 'crierlaw20.SpaceOne', WHERE WHAT IT READS IS OF BULK AT MOST 1048576: true; the input reads as it did. -/
def spaceOneUptoRow : OpenClaim := { program := "ytbmelmmefgehoaadoor", sum := "ed1e244aafc3c060079354b5b1ebafcc2813a37bdf9258f0266df4cbd7109fd7", func := "crier/crierlaw20.SpaceOne", spec := "spaceOne", inPlace := ["internal/bytealg.CountString", "internal/bytealg.IndexByteString", "internal/bytealg.IndexString", "internal/abi.NoEscape", "internal/bytealg.MakeNoZero"], named := ["crier/space.rows", "internal/bytealg.MaxLen"], apart := false, laid := [("crier/space.rows", laid_crier_space_rows)], narrowed := true }
def SpaceOneUptoSaid : Prop := spaceOneUptoRow.holds Tryd.pinned (OpenSpec.upto spaceOneSpec)

/-- 'crierlaw20.SpaceWords', WHERE WHAT IT READS IS OF BULK AT MOST 1048576: true; the input reads as it did. -/
def spaceWordsUptoRow : OpenClaim := { program := "ytbmelmmefgehoaadoor", sum := "ed1e244aafc3c060079354b5b1ebafcc2813a37bdf9258f0266df4cbd7109fd7", func := "crier/crierlaw20.SpaceWords", spec := "spaceWords", inPlace := ["internal/bytealg.CountString", "internal/bytealg.IndexByteString", "internal/bytealg.IndexString", "internal/abi.NoEscape", "internal/bytealg.MakeNoZero"], named := ["crier/space.rows", "internal/bytealg.MaxLen"], apart := false, laid := [("crier/space.rows", laid_crier_space_rows)], narrowed := true }
def SpaceWordsUptoSaid : Prop := spaceWordsUptoRow.holds Tryd.pinned (OpenSpec.upto spaceWordsSpec)

/-- 'crierlaw20.SpaceBirths', WHERE WHAT IT READS IS OF BULK AT MOST 1048576: true; the input reads as it did. -/
def spaceBirthsUptoRow : OpenClaim := { program := "ytbmelmmefgehoaadoor", sum := "ed1e244aafc3c060079354b5b1ebafcc2813a37bdf9258f0266df4cbd7109fd7", func := "crier/crierlaw20.SpaceBirths", spec := "spaceBirths", inPlace := ["internal/bytealg.CountString", "internal/bytealg.IndexByteString", "internal/bytealg.IndexString", "internal/abi.NoEscape", "internal/bytealg.MakeNoZero"], named := ["crier/space.rows", "internal/bytealg.MaxLen"], apart := false, laid := [("crier/space.rows", laid_crier_space_rows)], narrowed := true }
def SpaceBirthsUptoSaid : Prop := spaceBirthsUptoRow.holds Tryd.pinned (OpenSpec.upto spaceBirthsSpec)

end Rows
end Go.Proofs.YtbmelmmefgehoaaDoor
