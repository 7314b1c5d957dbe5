/-
  NARROWER THAN 'FOR EVERY INPUT', by the rows' own cells (each row's printed sentence says how): PacketReads: laid · PacketAll: laid · PacketBack: laid · PacketSame: laid.
  DERIVED. THE GIVEN ROWS OF THIS SEAT. 4 by the template 'for every input the law returns true; each argument reads behind the call as it read before'; 0 by the template 'total and deterministic' (their statements: YtmpklaokgogigaaDoorTotals.lean).
  GIVEN WITH THE SEED: the statements are not yours to turn. If you find one false, say at which input.
  Laid BY PROGRAM, IN A SANDBOX (cutbox-rows.mjs): the forced cells as the released guide's own fill.sh prints them over the translation 09abacb157333658… (all of the seat's roots in one cut). By AI agents, Wed Nov 11 2026. No macro, syntax, notation, axiom, sorry.
-/
import Derived.Test.YtmpklaokgogigaaDoorChecked
import GoSem.Claim
import GoSem.ClaimJoined
import GoSem.ClaimMapViews
import Derived.JoinedTies
import Derived.KernelRfl
namespace Go.Proofs.YtmpklaokgogigaaDoor
/- THE CELL 'sum', in the pinned program and in every row, IS THE sha256 OF THE DUMP (.gsa) THAT YtmpklaokgogigaaDoorProg.lean LOADS. Nothing in Lean hashes anything: it is a label: what it is worth is what the hold of that sum in a sandbox is worth. -/
noncomputable def Tryd.pinned : Pinned := { name := "ytmpklaokgogigaadoor", sum := "09abacb1573336589f0c11c6b33599b28043f92c313f37ea2e855ba94c67350d", checked := Tryd.checked }
namespace Rows
def none {H : Type} : Left H := { results := [], args := [] }

/- WHAT THE LISTED PACKAGE-LEVEL VARIABLES READ AS WHEN THE CALL BEGINS. Each datum BY PROGRAM (the guide's laid-datum.mjs) off the statement by which the dump's own 'gosem.cut.vars' lays the variable. In a bare row this is a premise. The card (YtmpklaokgogigaaDoorCards.lean) ties it to the program's text. -/
def laid_crier_head_may {H : Type} : DataW H := .agg [.lit (.int .u16 1), .lit (.int .u16 4), .lit (.int .u16 15423)]

/-- 'crierlaw16.PacketReads': WHATEVER THE INPUT: true; the input reads as it did. -/
def packetReadsSpec : ChangeSpec := { name := "packetReads", fn := fun _ => fun
  | [d] => { results := [.lit (.bool true)], args := [d] }
  | _ => none }
def packetReadsRow : OpenClaim := { program := "ytmpklaokgogigaadoor", sum := "09abacb1573336589f0c11c6b33599b28043f92c313f37ea2e855ba94c67350d", func := "crier/crierlaw16.PacketReads", spec := "packetReads", unfollowed := true, recurses := true, named := ["crier/head.may"], apart := false, laid := [("crier/head.may", laid_crier_head_may)] }
def PacketReadsSaid : Prop := packetReadsRow.holds Tryd.pinned (OpenSpec.ofChange packetReadsSpec)

/-- ITS FALSE NEIGHBOUR: 'it returns false'. Refute it at one input. -/
def packetReadsWrong : ChangeSpec := { name := "packetReads", fn := fun _ => fun
  | [d] => { results := [.lit (.bool false)], args := [d] }
  | _ => none }
def PacketReadsWrongFalsely : Prop := packetReadsRow.holds Tryd.pinned (OpenSpec.ofChange packetReadsWrong)

/-- 'crierlaw16.PacketAll': WHATEVER THE INPUT: true; the input reads as it did. -/
def packetAllSpec : ChangeSpec := { name := "packetAll", fn := fun _ => fun
  | [d] => { results := [.lit (.bool true)], args := [d] }
  | _ => none }
def packetAllRow : OpenClaim := { program := "ytmpklaokgogigaadoor", sum := "09abacb1573336589f0c11c6b33599b28043f92c313f37ea2e855ba94c67350d", func := "crier/crierlaw16.PacketAll", spec := "packetAll", unfollowed := true, recurses := true, named := ["crier/head.may"], apart := false, laid := [("crier/head.may", laid_crier_head_may)] }
def PacketAllSaid : Prop := packetAllRow.holds Tryd.pinned (OpenSpec.ofChange packetAllSpec)

/-- ITS FALSE NEIGHBOUR: 'it returns false'. Refute it at one input. -/
def packetAllWrong : ChangeSpec := { name := "packetAll", fn := fun _ => fun
  | [d] => { results := [.lit (.bool false)], args := [d] }
  | _ => none }
def PacketAllWrongFalsely : Prop := packetAllRow.holds Tryd.pinned (OpenSpec.ofChange packetAllWrong)

/-- 'crierlaw16.PacketBack': WHATEVER THE INPUT: true; the input reads as it did. -/
def packetBackSpec : ChangeSpec := { name := "packetBack", fn := fun _ => fun
  | [d] => { results := [.lit (.bool true)], args := [d] }
  | _ => none }
def packetBackRow : OpenClaim := { program := "ytmpklaokgogigaadoor", sum := "09abacb1573336589f0c11c6b33599b28043f92c313f37ea2e855ba94c67350d", func := "crier/crierlaw16.PacketBack", spec := "packetBack", unfollowed := true, recurses := true, named := ["crier/head.may"], apart := false, laid := [("crier/head.may", laid_crier_head_may)] }
def PacketBackSaid : Prop := packetBackRow.holds Tryd.pinned (OpenSpec.ofChange packetBackSpec)

/-- ITS FALSE NEIGHBOUR: 'it returns false'. Refute it at one input. -/
def packetBackWrong : ChangeSpec := { name := "packetBack", fn := fun _ => fun
  | [d] => { results := [.lit (.bool false)], args := [d] }
  | _ => none }
def PacketBackWrongFalsely : Prop := packetBackRow.holds Tryd.pinned (OpenSpec.ofChange packetBackWrong)

/-- 'crierlaw16.PacketSame': WHATEVER THE INPUT: true; the input reads as it did. -/
def packetSameSpec : ChangeSpec := { name := "packetSame", fn := fun _ => fun
  | [d1, d2] => { results := [.lit (.bool true)], args := [d1, d2] }
  | _ => none }
def packetSameRow : OpenClaim := { program := "ytmpklaokgogigaadoor", sum := "09abacb1573336589f0c11c6b33599b28043f92c313f37ea2e855ba94c67350d", func := "crier/crierlaw16.PacketSame", spec := "packetSame", unfollowed := true, recurses := true, named := ["crier/head.may"], apart := false, laid := [("crier/head.may", laid_crier_head_may)] }
def PacketSameSaid : Prop := packetSameRow.holds Tryd.pinned (OpenSpec.ofChange packetSameSpec)

/-- ITS FALSE NEIGHBOUR: 'it returns false'. Refute it at one input. -/
def packetSameWrong : ChangeSpec := { name := "packetSame", fn := fun _ => fun
  | [d1, d2] => { results := [.lit (.bool false)], args := [d1, d2] }
  | _ => none }
def PacketSameWrongFalsely : Prop := packetSameRow.holds Tryd.pinned (OpenSpec.ofChange packetSameWrong)

/- THE SECOND FORM. 'bulk': how many values and letters a reading holds, each counted each time it is reached (what is shared counts as often as it is met; a slice's spare places count too). A statement '..UptoSaid' is the law's where the arguments, and the package variables that the reading takes, are together of bulk at most 1048576: NARROWER than '..Said'. Prove '..Said' where nothing that the law and all that it calls make is longer than what came in: it says more and counts as full. Else prove '..UptoSaid'. A law counts once. -/
mutual
def uptoBulk {H : Type} : DataW H → Nat
  | .lit (.string bytes) => bytes.length + 1
  | .lit _ => 1
  | .nil => 1
  | .ptr d => uptoBulk d + 1
  | .slice elems spare => uptoBulkAll elems + uptoBulkAll spare + 1
  | .agg parts => uptoBulkAll parts + 1
  | .iface _ d => uptoBulk d + 1
  | .map entries => uptoBulkEntries entries + 1
  | .held _ => 1
def uptoBulkAll {H : Type} : List (DataW H) → Nat
  | [] => 0
  | d :: r => uptoBulk d + uptoBulkAll r
def uptoBulkEntries {H : Type} : List (Lit × DataW H) → Nat
  | [] => 0
  | x :: r => uptoBulkEntry x + uptoBulkEntries r
def uptoBulkEntry {H : Type} : Lit × DataW H → Nat
  | (.string bytes, d) => bytes.length + uptoBulk d + 1
  | (_, d) => uptoBulk d + 1
 end
def uptoSmall : (H : Type) → List (DataW H) → Bool := fun _ ds => decide (uptoBulkAll ds ≤ 1048576)
def OpenSpec.upto (s : _root_.Go.ChangeSpec) : _root_.Go.OpenSpec := { _root_.Go.OpenSpec.ofChange s with cond := some uptoSmall }

/-- 'crierlaw16.PacketReads', WHERE WHAT IT READS IS OF BULK AT MOST 1048576: true; the input reads as it did. -/
def packetReadsUptoRow : OpenClaim := { program := "ytmpklaokgogigaadoor", sum := "09abacb1573336589f0c11c6b33599b28043f92c313f37ea2e855ba94c67350d", func := "crier/crierlaw16.PacketReads", spec := "packetReads", unfollowed := true, recurses := true, named := ["crier/head.may"], apart := false, laid := [("crier/head.may", laid_crier_head_may)], narrowed := true }
def PacketReadsUptoSaid : Prop := packetReadsUptoRow.holds Tryd.pinned (OpenSpec.upto packetReadsSpec)

/-- 'crierlaw16.PacketAll', WHERE WHAT IT READS IS OF BULK AT MOST 1048576: true; the input reads as it did. -/
def packetAllUptoRow : OpenClaim := { program := "ytmpklaokgogigaadoor", sum := "09abacb1573336589f0c11c6b33599b28043f92c313f37ea2e855ba94c67350d", func := "crier/crierlaw16.PacketAll", spec := "packetAll", unfollowed := true, recurses := true, named := ["crier/head.may"], apart := false, laid := [("crier/head.may", laid_crier_head_may)], narrowed := true }
def PacketAllUptoSaid : Prop := packetAllUptoRow.holds Tryd.pinned (OpenSpec.upto packetAllSpec)

/-- 'crierlaw16.PacketBack', WHERE WHAT IT READS IS OF BULK AT MOST 1048576: true; the input reads as it did. -/
def packetBackUptoRow : OpenClaim := { program := "ytmpklaokgogigaadoor", sum := "09abacb1573336589f0c11c6b33599b28043f92c313f37ea2e855ba94c67350d", func := "crier/crierlaw16.PacketBack", spec := "packetBack", unfollowed := true, recurses := true, named := ["crier/head.may"], apart := false, laid := [("crier/head.may", laid_crier_head_may)], narrowed := true }
def PacketBackUptoSaid : Prop := packetBackUptoRow.holds Tryd.pinned (OpenSpec.upto packetBackSpec)

/-- 'crierlaw16.PacketSame', WHERE WHAT IT READS IS OF BULK AT MOST 1048576: true; the input reads as it did. -/
def packetSameUptoRow : OpenClaim := { program := "ytmpklaokgogigaadoor", sum := "09abacb1573336589f0c11c6b33599b28043f92c313f37ea2e855ba94c67350d", func := "crier/crierlaw16.PacketSame", spec := "packetSame", unfollowed := true, recurses := true, named := ["crier/head.may"], apart := false, laid := [("crier/head.may", laid_crier_head_may)], narrowed := true }
def PacketSameUptoSaid : Prop := packetSameUptoRow.holds Tryd.pinned (OpenSpec.upto packetSameSpec)

end Rows
end Go.Proofs.YtmpklaokgogigaaDoor
