/-
  NARROWER THAN 'FOR EVERY INPUT', by the rows' own cells (each row's printed sentence says how): FramerPlays: laid · FramerChunks: laid · FramerBack: laid · FramerDead: laid · FramerZero: laid.
  DERIVED. THE GIVEN ROWS OF THIS SEAT. 5 by the template 'for every input the law returns true; each argument reads behind the call as it read before'; 0 by the template 'total and deterministic' (their statements: YtceiipcdkonnlaaDoorTotals.lean).
  GIVEN WITH THE SEED: the statements are not yours to turn. If you find one false, say at which input.
  Laid BY PROGRAM, IN A SANDBOX (cutbox-rows.mjs): the forced cells as the released guide's own fill.sh prints them over the translation 8cdd5a67ac8b966f… (all of the seat's roots in one cut). By AI agents, Wed Nov 11 2026. No macro, syntax, notation, axiom, sorry.
-/
import Derived.Test.YtceiipcdkonnlaaDoorChecked
import GoSem.Claim
import GoSem.ClaimJoined
import GoSem.ClaimMapViews
import Derived.JoinedTies
import Derived.KernelRfl
namespace Go.Proofs.YtceiipcdkonnlaaDoor
/- THE CELL 'sum', in the pinned program and in every row, IS THE sha256 OF THE DUMP (.gsa) THAT YtceiipcdkonnlaaDoorProg.lean LOADS. Nothing in Lean hashes anything: it is a label: what it is worth is what the hold of that sum in a sandbox is worth. -/
noncomputable def Tryd.pinned : Pinned := { name := "ytceiipcdkonnlaadoor", sum := "8cdd5a67ac8b966fb348e0e5962c8ab13f980a31db0ca7aea72ebe784e86bc6b", checked := Tryd.checked }
namespace Rows
def none {H : Type} : Left H := { results := [], args := [] }

/- WHAT THE LISTED PACKAGE-LEVEL VARIABLES READ AS WHEN THE CALL BEGINS. Each datum BY PROGRAM (the guide's laid-datum.mjs) off the statement by which the dump's own 'gosem.cut.vars' lays the variable. In a bare row this is a premise. The card (YtceiipcdkonnlaaDoorCards.lean) ties it to the program's text. -/
def laid_crier_head_may {H : Type} : DataW H := .agg [.lit (.int .u16 1), .lit (.int .u16 4), .lit (.int .u16 15423)]
def laid_errors_errorType {H : Type} : DataW H := .iface "internal/reflectlite.rtype" (.agg [.ptr (.lit (.string [101, 114, 114, 111, 114]))])
def laid_crier_framer_errWaits {H : Type} : DataW H := .iface "*errors.errorString" (.ptr (.agg [.lit (.string [116, 111, 111, 32, 102, 101, 119, 32, 98, 121, 116, 101, 115])]))

/-- 'crierlaw12.FramerPlays': WHATEVER THE INPUT: true; the input reads as it did. -/
def framerPlaysSpec : ChangeSpec := { name := "framerPlays", fn := fun _ => fun
  | [d1, d2] => { results := [.lit (.bool true)], args := [d1, d2] }
  | _ => none }
def framerPlaysRow : OpenClaim := { program := "ytceiipcdkonnlaadoor", sum := "8cdd5a67ac8b966fb348e0e5962c8ab13f980a31db0ca7aea72ebe784e86bc6b", func := "crier/crierlaw12.FramerPlays", spec := "framerPlays", inPlace := ["internal/reflectlite.TypeOf", "internal/reflectlite.ValueOf", "(internal/reflectlite.Value).Type", "(internal/reflectlite.Value).IsNil", "(internal/reflectlite.Value).Elem", "(internal/reflectlite.Value).Set"], unfollowed := true, recurses := true, named := ["crier/framer.errWaits", "crier/head.may", "errors.errorType"], apart := false, laid := [("crier/head.may", laid_crier_head_may), ("errors.errorType", laid_errors_errorType), ("crier/framer.errWaits", laid_crier_framer_errWaits)] }
def FramerPlaysSaid : Prop := framerPlaysRow.holds Tryd.pinned (OpenSpec.ofChange framerPlaysSpec)

/-- ITS FALSE NEIGHBOUR: 'it returns false'. Refute it at one input. -/
def framerPlaysWrong : ChangeSpec := { name := "framerPlays", fn := fun _ => fun
  | [d1, d2] => { results := [.lit (.bool false)], args := [d1, d2] }
  | _ => none }
def FramerPlaysWrongFalsely : Prop := framerPlaysRow.holds Tryd.pinned (OpenSpec.ofChange framerPlaysWrong)

/-- 'crierlaw12.FramerChunks': WHATEVER THE INPUT: true; the input reads as it did. -/
def framerChunksSpec : ChangeSpec := { name := "framerChunks", fn := fun _ => fun
  | [d1, d2] => { results := [.lit (.bool true)], args := [d1, d2] }
  | _ => none }
def framerChunksRow : OpenClaim := { program := "ytceiipcdkonnlaadoor", sum := "8cdd5a67ac8b966fb348e0e5962c8ab13f980a31db0ca7aea72ebe784e86bc6b", func := "crier/crierlaw12.FramerChunks", spec := "framerChunks", inPlace := ["internal/reflectlite.TypeOf", "internal/reflectlite.ValueOf", "(internal/reflectlite.Value).Type", "(internal/reflectlite.Value).IsNil", "(internal/reflectlite.Value).Elem", "(internal/reflectlite.Value).Set"], unfollowed := true, recurses := true, named := ["crier/framer.errWaits", "crier/head.may", "errors.errorType"], apart := false, laid := [("crier/head.may", laid_crier_head_may), ("errors.errorType", laid_errors_errorType), ("crier/framer.errWaits", laid_crier_framer_errWaits)] }
def FramerChunksSaid : Prop := framerChunksRow.holds Tryd.pinned (OpenSpec.ofChange framerChunksSpec)

/-- ITS FALSE NEIGHBOUR: 'it returns false'. Refute it at one input. -/
def framerChunksWrong : ChangeSpec := { name := "framerChunks", fn := fun _ => fun
  | [d1, d2] => { results := [.lit (.bool false)], args := [d1, d2] }
  | _ => none }
def FramerChunksWrongFalsely : Prop := framerChunksRow.holds Tryd.pinned (OpenSpec.ofChange framerChunksWrong)

/-- 'crierlaw12.FramerBack': WHATEVER THE INPUT: true; the input reads as it did. -/
def framerBackSpec : ChangeSpec := { name := "framerBack", fn := fun _ => fun
  | [d1, d2] => { results := [.lit (.bool true)], args := [d1, d2] }
  | _ => none }
def framerBackRow : OpenClaim := { program := "ytceiipcdkonnlaadoor", sum := "8cdd5a67ac8b966fb348e0e5962c8ab13f980a31db0ca7aea72ebe784e86bc6b", func := "crier/crierlaw12.FramerBack", spec := "framerBack", inPlace := ["internal/reflectlite.TypeOf", "internal/reflectlite.ValueOf", "(internal/reflectlite.Value).Type", "(internal/reflectlite.Value).IsNil", "(internal/reflectlite.Value).Elem", "(internal/reflectlite.Value).Set"], unfollowed := true, recurses := true, named := ["crier/framer.errWaits", "crier/head.may", "errors.errorType"], apart := false, laid := [("crier/head.may", laid_crier_head_may), ("errors.errorType", laid_errors_errorType), ("crier/framer.errWaits", laid_crier_framer_errWaits)] }
def FramerBackSaid : Prop := framerBackRow.holds Tryd.pinned (OpenSpec.ofChange framerBackSpec)

/-- ITS FALSE NEIGHBOUR: 'it returns false'. Refute it at one input. -/
def framerBackWrong : ChangeSpec := { name := "framerBack", fn := fun _ => fun
  | [d1, d2] => { results := [.lit (.bool false)], args := [d1, d2] }
  | _ => none }
def FramerBackWrongFalsely : Prop := framerBackRow.holds Tryd.pinned (OpenSpec.ofChange framerBackWrong)

/-- 'crierlaw12.FramerDead': WHATEVER THE INPUT: true; the input reads as it did. -/
def framerDeadSpec : ChangeSpec := { name := "framerDead", fn := fun _ => fun
  | [d1, d2] => { results := [.lit (.bool true)], args := [d1, d2] }
  | _ => none }
def framerDeadRow : OpenClaim := { program := "ytceiipcdkonnlaadoor", sum := "8cdd5a67ac8b966fb348e0e5962c8ab13f980a31db0ca7aea72ebe784e86bc6b", func := "crier/crierlaw12.FramerDead", spec := "framerDead", inPlace := ["internal/reflectlite.TypeOf", "internal/reflectlite.ValueOf", "(internal/reflectlite.Value).Type", "(internal/reflectlite.Value).IsNil", "(internal/reflectlite.Value).Elem", "(internal/reflectlite.Value).Set"], unfollowed := true, recurses := true, named := ["crier/framer.errWaits", "crier/head.may", "errors.errorType"], apart := false, laid := [("crier/head.may", laid_crier_head_may), ("errors.errorType", laid_errors_errorType), ("crier/framer.errWaits", laid_crier_framer_errWaits)] }
def FramerDeadSaid : Prop := framerDeadRow.holds Tryd.pinned (OpenSpec.ofChange framerDeadSpec)

/-- ITS FALSE NEIGHBOUR: 'it returns false'. Refute it at one input. -/
def framerDeadWrong : ChangeSpec := { name := "framerDead", fn := fun _ => fun
  | [d1, d2] => { results := [.lit (.bool false)], args := [d1, d2] }
  | _ => none }
def FramerDeadWrongFalsely : Prop := framerDeadRow.holds Tryd.pinned (OpenSpec.ofChange framerDeadWrong)

/-- 'crierlaw12.FramerZero': WHATEVER THE INPUT: true; the input reads as it did. -/
def framerZeroSpec : ChangeSpec := { name := "framerZero", fn := fun _ => fun
  | [d] => { results := [.lit (.bool true)], args := [d] }
  | _ => none }
def framerZeroRow : OpenClaim := { program := "ytceiipcdkonnlaadoor", sum := "8cdd5a67ac8b966fb348e0e5962c8ab13f980a31db0ca7aea72ebe784e86bc6b", func := "crier/crierlaw12.FramerZero", spec := "framerZero", inPlace := ["internal/reflectlite.TypeOf", "internal/reflectlite.ValueOf", "(internal/reflectlite.Value).Type", "(internal/reflectlite.Value).IsNil", "(internal/reflectlite.Value).Elem", "(internal/reflectlite.Value).Set"], unfollowed := true, recurses := true, named := ["crier/framer.errWaits", "crier/head.may", "errors.errorType"], apart := false, laid := [("crier/head.may", laid_crier_head_may), ("errors.errorType", laid_errors_errorType), ("crier/framer.errWaits", laid_crier_framer_errWaits)] }
def FramerZeroSaid : Prop := framerZeroRow.holds Tryd.pinned (OpenSpec.ofChange framerZeroSpec)

/-- ITS FALSE NEIGHBOUR: 'it returns false'. Refute it at one input. -/
def framerZeroWrong : ChangeSpec := { name := "framerZero", fn := fun _ => fun
  | [d] => { results := [.lit (.bool false)], args := [d] }
  | _ => none }
def FramerZeroWrongFalsely : Prop := framerZeroRow.holds Tryd.pinned (OpenSpec.ofChange framerZeroWrong)

/- THE SECOND FORM. 'bulk': how many values and letters a reading holds, each counted each time it is reached (what is shared counts as often as it is met; a slice's spare places count too). A statement '..UptoSaid' is the law's where the arguments, and the package variables that the reading takes, are together of bulk at most 1048576: NARROWER than '..Said'. Prove '..Said' where nothing that the law and all that it calls make is longer than what came in: it says more and counts as full. Else prove '..UptoSaid'. A law counts once. -/
mutual
def uptoBulk {H : Type} : DataW H → Nat
  | .lit (.string bytes) => bytes.length + 1
  | .lit _ => 1
  | .nil => 1
  | .ptr d => uptoBulk d + 1
  | .slice elems spare => uptoBulkAll elems + uptoBulkAll spare + 1
  | .agg parts => uptoBulkAll parts + 1
  | .iface _ d => uptoBulk d + 1
  | .map entries => uptoBulkEntries entries + 1
  | .held _ => 1
def uptoBulkAll {H : Type} : List (DataW H) → Nat
  | [] => 0
  | d :: r => uptoBulk d + uptoBulkAll r
def uptoBulkEntries {H : Type} : List (Lit × DataW H) → Nat
  | [] => 0
  | x :: r => uptoBulkEntry x + uptoBulkEntries r
def uptoBulkEntry {H : Type} : Lit × DataW H → Nat
  | (.string bytes, d) => bytes.length + uptoBulk d + 1
  | (_, d) => uptoBulk d + 1
 end
def uptoSmall : (H : Type) → List (DataW H) → Bool := fun _ ds => decide (uptoBulkAll ds ≤ 1048576)
def OpenSpec.upto (s : _root_.Go.ChangeSpec) : _root_.Go.OpenSpec := { _root_.Go.OpenSpec.ofChange s with cond := some uptoSmall }

/-- 'crierlaw12.FramerPlays', WHERE WHAT IT READS IS OF BULK AT MOST 1048576: true; the input reads as it did. -/
def framerPlaysUptoRow : OpenClaim := { program := "ytceiipcdkonnlaadoor", sum := "8cdd5a67ac8b966fb348e0e5962c8ab13f980a31db0ca7aea72ebe784e86bc6b", func := "crier/crierlaw12.FramerPlays", spec := "framerPlays", inPlace := ["internal/reflectlite.TypeOf", "internal/reflectlite.ValueOf", "(internal/reflectlite.Value).Type", "(internal/reflectlite.Value).IsNil", "(internal/reflectlite.Value).Elem", "(internal/reflectlite.Value).Set"], unfollowed := true, recurses := true, named := ["crier/framer.errWaits", "crier/head.may", "errors.errorType"], apart := false, laid := [("crier/head.may", laid_crier_head_may), ("errors.errorType", laid_errors_errorType), ("crier/framer.errWaits", laid_crier_framer_errWaits)], narrowed := true }
def FramerPlaysUptoSaid : Prop := framerPlaysUptoRow.holds Tryd.pinned (OpenSpec.upto framerPlaysSpec)

/-- 'crierlaw12.FramerChunks', WHERE WHAT IT READS IS OF BULK AT MOST 1048576: true; the input reads as it did. -/
def framerChunksUptoRow : OpenClaim := { program := "ytceiipcdkonnlaadoor", sum := "8cdd5a67ac8b966fb348e0e5962c8ab13f980a31db0ca7aea72ebe784e86bc6b", func := "crier/crierlaw12.FramerChunks", spec := "framerChunks", inPlace := ["internal/reflectlite.TypeOf", "internal/reflectlite.ValueOf", "(internal/reflectlite.Value).Type", "(internal/reflectlite.Value).IsNil", "(internal/reflectlite.Value).Elem", "(internal/reflectlite.Value).Set"], unfollowed := true, recurses := true, named := ["crier/framer.errWaits", "crier/head.may", "errors.errorType"], apart := false, laid := [("crier/head.may", laid_crier_head_may), ("errors.errorType", laid_errors_errorType), ("crier/framer.errWaits", laid_crier_framer_errWaits)], narrowed := true }
def FramerChunksUptoSaid : Prop := framerChunksUptoRow.holds Tryd.pinned (OpenSpec.upto framerChunksSpec)

/-- 'crierlaw12.FramerBack', WHERE WHAT IT READS IS OF BULK AT MOST 1048576: true; the input reads as it did. -/
def framerBackUptoRow : OpenClaim := { program := "ytceiipcdkonnlaadoor", sum := "8cdd5a67ac8b966fb348e0e5962c8ab13f980a31db0ca7aea72ebe784e86bc6b", func := "crier/crierlaw12.FramerBack", spec := "framerBack", inPlace := ["internal/reflectlite.TypeOf", "internal/reflectlite.ValueOf", "(internal/reflectlite.Value).Type", "(internal/reflectlite.Value).IsNil", "(internal/reflectlite.Value).Elem", "(internal/reflectlite.Value).Set"], unfollowed := true, recurses := true, named := ["crier/framer.errWaits", "crier/head.may", "errors.errorType"], apart := false, laid := [("crier/head.may", laid_crier_head_may), ("errors.errorType", laid_errors_errorType), ("crier/framer.errWaits", laid_crier_framer_errWaits)], narrowed := true }
def FramerBackUptoSaid : Prop := framerBackUptoRow.holds Tryd.pinned (OpenSpec.upto framerBackSpec)

/-- 'crierlaw12.FramerDead', WHERE WHAT IT READS IS OF BULK AT MOST 1048576: true; the input reads as it did. -/
def framerDeadUptoRow : OpenClaim := { program := "ytceiipcdkonnlaadoor", sum := "8cdd5a67ac8b966fb348e0e5962c8ab13f980a31db0ca7aea72ebe784e86bc6b", func := "crier/crierlaw12.FramerDead", spec := "framerDead", inPlace := ["internal/reflectlite.TypeOf", "internal/reflectlite.ValueOf", "(internal/reflectlite.Value).Type", "(internal/reflectlite.Value).IsNil", "(internal/reflectlite.Value).Elem", "(internal/reflectlite.Value).Set"], unfollowed := true, recurses := true, named := ["crier/framer.errWaits", "crier/head.may", "errors.errorType"], apart := false, laid := [("crier/head.may", laid_crier_head_may), ("errors.errorType", laid_errors_errorType), ("crier/framer.errWaits", laid_crier_framer_errWaits)], narrowed := true }
def FramerDeadUptoSaid : Prop := framerDeadUptoRow.holds Tryd.pinned (OpenSpec.upto framerDeadSpec)

/-- 'crierlaw12.FramerZero', WHERE WHAT IT READS IS OF BULK AT MOST 1048576: true; the input reads as it did. -/
def framerZeroUptoRow : OpenClaim := { program := "ytceiipcdkonnlaadoor", sum := "8cdd5a67ac8b966fb348e0e5962c8ab13f980a31db0ca7aea72ebe784e86bc6b", func := "crier/crierlaw12.FramerZero", spec := "framerZero", inPlace := ["internal/reflectlite.TypeOf", "internal/reflectlite.ValueOf", "(internal/reflectlite.Value).Type", "(internal/reflectlite.Value).IsNil", "(internal/reflectlite.Value).Elem", "(internal/reflectlite.Value).Set"], unfollowed := true, recurses := true, named := ["crier/framer.errWaits", "crier/head.may", "errors.errorType"], apart := false, laid := [("crier/head.may", laid_crier_head_may), ("errors.errorType", laid_errors_errorType), ("crier/framer.errWaits", laid_crier_framer_errWaits)], narrowed := true }
def FramerZeroUptoSaid : Prop := framerZeroUptoRow.holds Tryd.pinned (OpenSpec.upto framerZeroSpec)

end Rows
end Go.Proofs.YtceiipcdkonnlaaDoor
