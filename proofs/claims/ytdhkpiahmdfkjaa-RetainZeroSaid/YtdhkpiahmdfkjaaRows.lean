/-
  No cell of these rows narrows 'for every input' (looked for: loops, veiled, ifaces, maps, wideKeys, modest, calm, conditions, laid).
  DERIVED. THE GIVEN ROWS OF THIS SEAT. 2 by the template 'for every input the law returns true; each argument reads behind the call as it read before'; 0 by the template 'total and deterministic' (their statements: YtdhkpiahmdfkjaaTotals.lean).
  GIVEN WITH THE SEED: the statements are not yours to turn. If you find one false, say at which input.
  Laid BY PROGRAM, IN A SANDBOX (cutbox-rows.mjs): the forced cells as the released guide's own fill.sh prints them over the translation 996a472252db1bde… (all of the seat's roots in one cut). By AI agents, Wed Nov 11 2026. No macro, syntax, notation, axiom, sorry.
-/
import Derived.Test.YtdhkpiahmdfkjaaChecked
import GoSem.Claim
import GoSem.ClaimJoined
import GoSem.ClaimMapViews
import Derived.JoinedTies
import Derived.KernelRfl
namespace Go.Proofs.Ytdhkpiahmdfkjaa
/- THE CELL 'sum', in the pinned program and in every row, IS THE sha256 OF THE DUMP (.gsa) THAT YtdhkpiahmdfkjaaProg.lean LOADS. Nothing in Lean hashes anything: it is a label: what it is worth is what the hold of that sum in a sandbox is worth. -/
noncomputable def Try.pinned : Pinned := { name := "ytdhkpiahmdfkjaa", sum := "996a472252db1bde3e3530acda1c0ad44109b97810f785e763366f54eafbdb21", checked := Try.checked }
namespace Rows
def none {H : Type} : Left H := { results := [], args := [] }

/-- 'crierlaw27.RetainZero': WHATEVER THE INPUT: true; the input reads as it did. -/
def retainZeroSpec : ChangeSpec := { name := "retainZero", fn := fun _ => fun
  | [d] => { results := [.lit (.bool true)], args := [d] }
  | _ => none }
def retainZeroRow : OpenClaim := { program := "ytdhkpiahmdfkjaa", sum := "996a472252db1bde3e3530acda1c0ad44109b97810f785e763366f54eafbdb21", func := "crier/crierlaw27.RetainZero", spec := "retainZero", inPlace := ["internal/bytealg.CountString", "internal/bytealg.IndexByteString", "internal/bytealg.IndexString"], unfollowed := true, recurses := true, named := ["internal/bytealg.MaxLen"], apart := false }
def RetainZeroSaid : Prop := retainZeroRow.holds Try.pinned (OpenSpec.ofChange retainZeroSpec)

/-- ITS FALSE NEIGHBOUR: 'it returns false'. Refute it at one input. -/
def retainZeroWrong : ChangeSpec := { name := "retainZero", fn := fun _ => fun
  | [d] => { results := [.lit (.bool false)], args := [d] }
  | _ => none }
def RetainZeroWrongFalsely : Prop := retainZeroRow.holds Try.pinned (OpenSpec.ofChange retainZeroWrong)

/-- 'crierlaw30.AliasZero': WHATEVER THE INPUT: true; the input reads as it did. -/
def aliasZeroSpec : ChangeSpec := { name := "aliasZero", fn := fun _ => fun
  | [d1, d2, d3] => { results := [.lit (.bool true)], args := [d1, d2, d3] }
  | _ => none }
def aliasZeroRow : OpenClaim := { program := "ytdhkpiahmdfkjaa", sum := "996a472252db1bde3e3530acda1c0ad44109b97810f785e763366f54eafbdb21", func := "crier/crierlaw30.AliasZero", spec := "aliasZero", unfollowed := true, recurses := true, apart := false }
def AliasZeroSaid : Prop := aliasZeroRow.holds Try.pinned (OpenSpec.ofChange aliasZeroSpec)

/-- ITS FALSE NEIGHBOUR: 'it returns false'. Refute it at one input. -/
def aliasZeroWrong : ChangeSpec := { name := "aliasZero", fn := fun _ => fun
  | [d1, d2, d3] => { results := [.lit (.bool false)], args := [d1, d2, d3] }
  | _ => none }
def AliasZeroWrongFalsely : Prop := aliasZeroRow.holds Try.pinned (OpenSpec.ofChange aliasZeroWrong)

/- THE SECOND FORM. 'bulk': how many values and letters a reading holds, each counted each time it is reached (what is shared counts as often as it is met; a slice's spare places count too). A statement '..UptoSaid' is the law's where the arguments, and the package variables that the reading takes, are together of bulk at most 1048576: NARROWER than '..Said'. Prove '..Said' where nothing that the law and all that it calls make is longer than what came in: it says more and counts as full. Else prove '..UptoSaid'. A law counts once. -/
mutual
def uptoBulk {H : Type} : DataW H → Nat
  | .lit (.string bytes) => bytes.length + 1
  | .lit _ => 1
  | .nil => 1
  | .ptr d => uptoBulk d + 1
  | .slice elems spare => uptoBulkAll elems + uptoBulkAll spare + 1
  | .agg parts => uptoBulkAll parts + 1
  | .iface _ d => uptoBulk d + 1
  | .map entries => uptoBulkEntries entries + 1
  | .held _ => 1
def uptoBulkAll {H : Type} : List (DataW H) → Nat
  | [] => 0
  | d :: r => uptoBulk d + uptoBulkAll r
def uptoBulkEntries {H : Type} : List (Lit × DataW H) → Nat
  | [] => 0
  | x :: r => uptoBulkEntry x + uptoBulkEntries r
def uptoBulkEntry {H : Type} : Lit × DataW H → Nat
  | (.string bytes, d) => bytes.length + uptoBulk d + 1
  | (_, d) => uptoBulk d + 1
 end
def uptoSmall : (H : Type) → List (DataW H) → Bool := fun _ ds => decide (uptoBulkAll ds ≤ 1048576)
def OpenSpec.upto (s : _root_.Go.ChangeSpec) : _root_.Go.OpenSpec := { _root_.Go.OpenSpec.ofChange s with cond := some uptoSmall }

/-- 'crierlaw27.RetainZero', WHERE WHAT IT READS IS OF BULK AT MOST 1048576: true; the input reads as it did. -/
def retainZeroUptoRow : OpenClaim := { program := "ytdhkpiahmdfkjaa", sum := "996a472252db1bde3e3530acda1c0ad44109b97810f785e763366f54eafbdb21", func := "crier/crierlaw27.RetainZero", spec := "retainZero", inPlace := ["internal/bytealg.CountString", "internal/bytealg.IndexByteString", "internal/bytealg.IndexString"], unfollowed := true, recurses := true, named := ["internal/bytealg.MaxLen"], apart := false, narrowed := true }
def RetainZeroUptoSaid : Prop := retainZeroUptoRow.holds Try.pinned (OpenSpec.upto retainZeroSpec)

/-- 'crierlaw30.AliasZero', WHERE WHAT IT READS IS OF BULK AT MOST 1048576: true; the input reads as it did. -/
def aliasZeroUptoRow : OpenClaim := { program := "ytdhkpiahmdfkjaa", sum := "996a472252db1bde3e3530acda1c0ad44109b97810f785e763366f54eafbdb21", func := "crier/crierlaw30.AliasZero", spec := "aliasZero", unfollowed := true, recurses := true, apart := false, narrowed := true }
def AliasZeroUptoSaid : Prop := aliasZeroUptoRow.holds Try.pinned (OpenSpec.upto aliasZeroSpec)

end Rows
end Go.Proofs.Ytdhkpiahmdfkjaa
