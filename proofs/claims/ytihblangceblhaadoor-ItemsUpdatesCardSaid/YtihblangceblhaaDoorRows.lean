/-
  NARROWER THAN 'FOR EVERY INPUT', by the rows' own cells (each row's printed sentence says how): ItemsBorn: loops, laid · ItemsUpdates: loops, laid · ItemsStay: loops, laid · ItemsTwo: loops, laid.
  DERIVED. THE GIVEN ROWS OF THIS SEAT. 4 by the template 'for every input the law returns true; each argument reads behind the call as it read before'; 0 by the template 'total and deterministic' (their statements: YtihblangceblhaaDoorTotals.lean).
  GIVEN WITH THE SEED: the statements are not yours to turn. If you find one false, say at which input.
  Laid BY PROGRAM, IN A SANDBOX (cutbox-rows.mjs): the forced cells as the released guide's own fill.sh prints them over the translation 17aa5a0db18da7a1… (all of the seat's roots in one cut). By AI agents, Wed Nov 11 2026. No macro, syntax, notation, axiom, sorry.
-/
import Derived.Test.YtihblangceblhaaDoorChecked
import GoSem.Claim
import GoSem.ClaimJoined
import GoSem.ClaimMapViews
import Derived.JoinedTies
import Derived.KernelRfl
namespace Go.Proofs.YtihblangceblhaaDoor
/- THE CELL 'sum', in the pinned program and in every row, IS THE sha256 OF THE DUMP (.gsa) THAT YtihblangceblhaaDoorProg.lean LOADS. Nothing in Lean hashes anything: it is a label: what it is worth is what the hold of that sum in a sandbox is worth. -/
noncomputable def Tryd.pinned : Pinned := { name := "ytihblangceblhaadoor", sum := "17aa5a0db18da7a121baebf99c2b9a0239405b724e2371c4bab2d5473e86d3d0", checked := Tryd.checked }
namespace Rows
def none {H : Type} : Left H := { results := [], args := [] }

/- WHAT THE LISTED PACKAGE-LEVEL VARIABLES READ AS WHEN THE CALL BEGINS. Each datum BY PROGRAM (the guide's laid-datum.mjs) off the statement by which the dump's own 'gosem.cut.vars' lays the variable. In a bare row this is a premise. The card (YtihblangceblhaaDoorCards.lean) ties it to the program's text. -/
def laid_errors_errorType {H : Type} : DataW H := .iface "internal/reflectlite.rtype" (.agg [.ptr (.lit (.string [101, 114, 114, 111, 114]))])

/-- 'crierlaw31.ItemsBorn': WHATEVER THE INPUT: true; the input reads as it did. -/
def itemsBornSpec : ChangeSpec := { name := "itemsBorn", fn := fun _ => fun
  | [d1, d2, d3] => { results := [.lit (.bool true)], args := [d1, d2, d3] }
  | _ => none }
def itemsBornRow : OpenClaim := { program := "ytihblangceblhaadoor", sum := "17aa5a0db18da7a121baebf99c2b9a0239405b724e2371c4bab2d5473e86d3d0", func := "crier/crierlaw31.ItemsBorn", spec := "itemsBorn", inPlace := ["internal/reflectlite.ValueOf", "(internal/reflectlite.Value).Type", "(internal/reflectlite.Value).IsNil", "internal/reflectlite.TypeOf", "(internal/reflectlite.Value).Elem", "(internal/reflectlite.Value).Set"], unfollowed := true, recurses := true, named := ["errors.errorType"], loops := true, apart := false, laid := [("errors.errorType", laid_errors_errorType)] }
def ItemsBornSaid : Prop := itemsBornRow.holds Tryd.pinned (OpenSpec.ofChange itemsBornSpec)

/-- ITS FALSE NEIGHBOUR: 'it returns false'. Refute it at one input. -/
def itemsBornWrong : ChangeSpec := { name := "itemsBorn", fn := fun _ => fun
  | [d1, d2, d3] => { results := [.lit (.bool false)], args := [d1, d2, d3] }
  | _ => none }
def ItemsBornWrongFalsely : Prop := itemsBornRow.holds Tryd.pinned (OpenSpec.ofChange itemsBornWrong)

/-- 'crierlaw31.ItemsUpdates': WHATEVER THE INPUT: true; the input reads as it did. -/
def itemsUpdatesSpec : ChangeSpec := { name := "itemsUpdates", fn := fun _ => fun
  | [d1, d2, d3, d4] => { results := [.lit (.bool true)], args := [d1, d2, d3, d4] }
  | _ => none }
def itemsUpdatesRow : OpenClaim := { program := "ytihblangceblhaadoor", sum := "17aa5a0db18da7a121baebf99c2b9a0239405b724e2371c4bab2d5473e86d3d0", func := "crier/crierlaw31.ItemsUpdates", spec := "itemsUpdates", inPlace := ["internal/reflectlite.ValueOf", "(internal/reflectlite.Value).Type", "(internal/reflectlite.Value).IsNil", "internal/reflectlite.TypeOf", "(internal/reflectlite.Value).Elem", "(internal/reflectlite.Value).Set"], unfollowed := true, recurses := true, named := ["errors.errorType"], loops := true, apart := false, laid := [("errors.errorType", laid_errors_errorType)] }
def ItemsUpdatesSaid : Prop := itemsUpdatesRow.holds Tryd.pinned (OpenSpec.ofChange itemsUpdatesSpec)

/-- ITS FALSE NEIGHBOUR: 'it returns false'. Refute it at one input. -/
def itemsUpdatesWrong : ChangeSpec := { name := "itemsUpdates", fn := fun _ => fun
  | [d1, d2, d3, d4] => { results := [.lit (.bool false)], args := [d1, d2, d3, d4] }
  | _ => none }
def ItemsUpdatesWrongFalsely : Prop := itemsUpdatesRow.holds Tryd.pinned (OpenSpec.ofChange itemsUpdatesWrong)

/-- 'crierlaw31.ItemsStay': WHATEVER THE INPUT: true; the input reads as it did. -/
def itemsStaySpec : ChangeSpec := { name := "itemsStay", fn := fun _ => fun
  | [d1, d2] => { results := [.lit (.bool true)], args := [d1, d2] }
  | _ => none }
def itemsStayRow : OpenClaim := { program := "ytihblangceblhaadoor", sum := "17aa5a0db18da7a121baebf99c2b9a0239405b724e2371c4bab2d5473e86d3d0", func := "crier/crierlaw31.ItemsStay", spec := "itemsStay", inPlace := ["internal/reflectlite.ValueOf", "(internal/reflectlite.Value).Type", "(internal/reflectlite.Value).IsNil", "internal/reflectlite.TypeOf", "(internal/reflectlite.Value).Elem", "(internal/reflectlite.Value).Set"], unfollowed := true, recurses := true, named := ["errors.errorType"], loops := true, apart := false, laid := [("errors.errorType", laid_errors_errorType)] }
def ItemsStaySaid : Prop := itemsStayRow.holds Tryd.pinned (OpenSpec.ofChange itemsStaySpec)

/-- ITS FALSE NEIGHBOUR: 'it returns false'. Refute it at one input. -/
def itemsStayWrong : ChangeSpec := { name := "itemsStay", fn := fun _ => fun
  | [d1, d2] => { results := [.lit (.bool false)], args := [d1, d2] }
  | _ => none }
def ItemsStayWrongFalsely : Prop := itemsStayRow.holds Tryd.pinned (OpenSpec.ofChange itemsStayWrong)

/-- 'crierlaw31.ItemsTwo': WHATEVER THE INPUT: true; the input reads as it did. -/
def itemsTwoSpec : ChangeSpec := { name := "itemsTwo", fn := fun _ => fun
  | [d1, d2, d3] => { results := [.lit (.bool true)], args := [d1, d2, d3] }
  | _ => none }
def itemsTwoRow : OpenClaim := { program := "ytihblangceblhaadoor", sum := "17aa5a0db18da7a121baebf99c2b9a0239405b724e2371c4bab2d5473e86d3d0", func := "crier/crierlaw31.ItemsTwo", spec := "itemsTwo", inPlace := ["internal/reflectlite.ValueOf", "(internal/reflectlite.Value).Type", "(internal/reflectlite.Value).IsNil", "internal/reflectlite.TypeOf", "(internal/reflectlite.Value).Elem", "(internal/reflectlite.Value).Set"], unfollowed := true, recurses := true, named := ["errors.errorType"], loops := true, apart := false, laid := [("errors.errorType", laid_errors_errorType)] }
def ItemsTwoSaid : Prop := itemsTwoRow.holds Tryd.pinned (OpenSpec.ofChange itemsTwoSpec)

/-- ITS FALSE NEIGHBOUR: 'it returns false'. Refute it at one input. -/
def itemsTwoWrong : ChangeSpec := { name := "itemsTwo", fn := fun _ => fun
  | [d1, d2, d3] => { results := [.lit (.bool false)], args := [d1, d2, d3] }
  | _ => none }
def ItemsTwoWrongFalsely : Prop := itemsTwoRow.holds Tryd.pinned (OpenSpec.ofChange itemsTwoWrong)

/- THE SECOND FORM. 'bulk': how many values and letters a reading holds, each counted each time it is reached (what is shared counts as often as it is met; a slice's spare places count too). A statement '..UptoSaid' is the law's where the arguments, and the package variables that the reading takes, are together of bulk at most 1048576: NARROWER than '..Said'. Prove '..Said' where nothing that the law and all that it calls make is longer than what came in: it says more and counts as full. Else prove '..UptoSaid'. A law counts once. -/
mutual
def uptoBulk {H : Type} : DataW H → Nat
  | .lit (.string bytes) => bytes.length + 1
  | .lit _ => 1
  | .nil => 1
  | .ptr d => uptoBulk d + 1
  | .slice elems spare => uptoBulkAll elems + uptoBulkAll spare + 1
  | .agg parts => uptoBulkAll parts + 1
  | .iface _ d => uptoBulk d + 1
  | .map entries => uptoBulkEntries entries + 1
  | .held _ => 1
def uptoBulkAll {H : Type} : List (DataW H) → Nat
  | [] => 0
  | d :: r => uptoBulk d + uptoBulkAll r
def uptoBulkEntries {H : Type} : List (Lit × DataW H) → Nat
  | [] => 0
  | x :: r => uptoBulkEntry x + uptoBulkEntries r
def uptoBulkEntry {H : Type} : Lit × DataW H → Nat
  | (.string bytes, d) => bytes.length + uptoBulk d + 1
  | (_, d) => uptoBulk d + 1
 end
def uptoSmall : (H : Type) → List (DataW H) → Bool := fun _ ds => decide (uptoBulkAll ds ≤ 1048576)
def OpenSpec.upto (s : _root_.Go.ChangeSpec) : _root_.Go.OpenSpec := { _root_.Go.OpenSpec.ofChange s with cond := some uptoSmall }

/-- 'crierlaw31.ItemsBorn', WHERE WHAT IT READS IS OF BULK AT MOST 1048576: true; the input reads as it did. -/
def itemsBornUptoRow : OpenClaim := { program := "ytihblangceblhaadoor", sum := "17aa5a0db18da7a121baebf99c2b9a0239405b724e2371c4bab2d5473e86d3d0", func := "crier/crierlaw31.ItemsBorn", spec := "itemsBorn", inPlace := ["internal/reflectlite.ValueOf", "(internal/reflectlite.Value).Type", "(internal/reflectlite.Value).IsNil", "internal/reflectlite.TypeOf", "(internal/reflectlite.Value).Elem", "(internal/reflectlite.Value).Set"], unfollowed := true, recurses := true, named := ["errors.errorType"], loops := true, apart := false, laid := [("errors.errorType", laid_errors_errorType)], narrowed := true }
def ItemsBornUptoSaid : Prop := itemsBornUptoRow.holds Tryd.pinned (OpenSpec.upto itemsBornSpec)

/-- 'crierlaw31.ItemsUpdates', WHERE WHAT IT READS IS OF BULK AT MOST 1048576: true; the input reads as it did. -/
def itemsUpdatesUptoRow : OpenClaim := { program := "ytihblangceblhaadoor", sum := "17aa5a0db18da7a121baebf99c2b9a0239405b724e2371c4bab2d5473e86d3d0", func := "crier/crierlaw31.ItemsUpdates", spec := "itemsUpdates", inPlace := ["internal/reflectlite.ValueOf", "(internal/reflectlite.Value).Type", "(internal/reflectlite.Value).IsNil", "internal/reflectlite.TypeOf", "(internal/reflectlite.Value).Elem", "(internal/reflectlite.Value).Set"], unfollowed := true, recurses := true, named := ["errors.errorType"], loops := true, apart := false, laid := [("errors.errorType", laid_errors_errorType)], narrowed := true }
def ItemsUpdatesUptoSaid : Prop := itemsUpdatesUptoRow.holds Tryd.pinned (OpenSpec.upto itemsUpdatesSpec)

/-- 'crierlaw31.ItemsStay', WHERE WHAT IT READS IS OF BULK AT MOST 1048576: true; the input reads as it did. -/
def itemsStayUptoRow : OpenClaim := { program := "ytihblangceblhaadoor", sum := "17aa5a0db18da7a121baebf99c2b9a0239405b724e2371c4bab2d5473e86d3d0", func := "crier/crierlaw31.ItemsStay", spec := "itemsStay", inPlace := ["internal/reflectlite.ValueOf", "(internal/reflectlite.Value).Type", "(internal/reflectlite.Value).IsNil", "internal/reflectlite.TypeOf", "(internal/reflectlite.Value).Elem", "(internal/reflectlite.Value).Set"], unfollowed := true, recurses := true, named := ["errors.errorType"], loops := true, apart := false, laid := [("errors.errorType", laid_errors_errorType)], narrowed := true }
def ItemsStayUptoSaid : Prop := itemsStayUptoRow.holds Tryd.pinned (OpenSpec.upto itemsStaySpec)

/-- 'crierlaw31.ItemsTwo', WHERE WHAT IT READS IS OF BULK AT MOST 1048576: true; the input reads as it did. -/
def itemsTwoUptoRow : OpenClaim := { program := "ytihblangceblhaadoor", sum := "17aa5a0db18da7a121baebf99c2b9a0239405b724e2371c4bab2d5473e86d3d0", func := "crier/crierlaw31.ItemsTwo", spec := "itemsTwo", inPlace := ["internal/reflectlite.ValueOf", "(internal/reflectlite.Value).Type", "(internal/reflectlite.Value).IsNil", "internal/reflectlite.TypeOf", "(internal/reflectlite.Value).Elem", "(internal/reflectlite.Value).Set"], unfollowed := true, recurses := true, named := ["errors.errorType"], loops := true, apart := false, laid := [("errors.errorType", laid_errors_errorType)], narrowed := true }
def ItemsTwoUptoSaid : Prop := itemsTwoUptoRow.holds Tryd.pinned (OpenSpec.upto itemsTwoSpec)

end Rows
end Go.Proofs.YtihblangceblhaaDoor
