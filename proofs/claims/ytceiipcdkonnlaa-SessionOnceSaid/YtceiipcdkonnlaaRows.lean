/-
  No cell of these rows narrows 'for every input' (looked for: loops, veiled, ifaces, maps, wideKeys, modest, calm, conditions, laid).
  DERIVED. THE GIVEN ROWS OF THIS SEAT. 5 by the template 'for every input the law returns true; each argument reads behind the call as it read before'; 0 by the template 'total and deterministic' (their statements: YtceiipcdkonnlaaTotals.lean).
  GIVEN WITH THE SEED: the statements are not yours to turn. If you find one false, say at which input.
  Laid BY PROGRAM, IN A SANDBOX (cutbox-rows.mjs): the forced cells as the released guide's own fill.sh prints them over the translation 57cf7fd18ac30145… (all of the seat's roots in one cut). By AI agents, Wed Nov 11 2026. No macro, syntax, notation, axiom, sorry.
-/
import Derived.Test.YtceiipcdkonnlaaChecked
import GoSem.Claim
import GoSem.ClaimJoined
import GoSem.ClaimMapViews
import Derived.JoinedTies
import Derived.KernelRfl
namespace Go.Proofs.Ytceiipcdkonnlaa
/- THE CELL 'sum', in the pinned program and in every row, IS THE sha256 OF THE DUMP (.gsa) THAT YtceiipcdkonnlaaProg.lean LOADS. Nothing in Lean hashes anything: it is a label: what it is worth is what the hold of that sum in a sandbox is worth. -/
noncomputable def Try.pinned : Pinned := { name := "ytceiipcdkonnlaa", sum := "57cf7fd18ac301456a02b2c6140df82e5e4d77c878d8c5c6ee6e43e4c7b1707d", checked := Try.checked }
namespace Rows
def none {H : Type} : Left H := { results := [], args := [] }

/-- 'crierlaw25.SessionOnce': WHATEVER THE INPUT: true; the input reads as it did. -/
def sessionOnceSpec : ChangeSpec := { name := "sessionOnce", fn := fun _ => fun
  | [d1, d2] => { results := [.lit (.bool true)], args := [d1, d2] }
  | _ => none }
def sessionOnceRow : OpenClaim := { program := "ytceiipcdkonnlaa", sum := "57cf7fd18ac301456a02b2c6140df82e5e4d77c878d8c5c6ee6e43e4c7b1707d", func := "crier/crierlaw25.SessionOnce", spec := "sessionOnce", unfollowed := true, recurses := true, apart := false }
def SessionOnceSaid : Prop := sessionOnceRow.holds Try.pinned (OpenSpec.ofChange sessionOnceSpec)

/-- ITS FALSE NEIGHBOUR: 'it returns false'. Refute it at one input. -/
def sessionOnceWrong : ChangeSpec := { name := "sessionOnce", fn := fun _ => fun
  | [d1, d2] => { results := [.lit (.bool false)], args := [d1, d2] }
  | _ => none }
def SessionOnceWrongFalsely : Prop := sessionOnceRow.holds Try.pinned (OpenSpec.ofChange sessionOnceWrong)

/-- 'crierlaw25.SessionRoom': WHATEVER THE INPUT: true; the input reads as it did. -/
def sessionRoomSpec : ChangeSpec := { name := "sessionRoom", fn := fun _ => fun
  | [d] => { results := [.lit (.bool true)], args := [d] }
  | _ => none }
def sessionRoomRow : OpenClaim := { program := "ytceiipcdkonnlaa", sum := "57cf7fd18ac301456a02b2c6140df82e5e4d77c878d8c5c6ee6e43e4c7b1707d", func := "crier/crierlaw25.SessionRoom", spec := "sessionRoom", unfollowed := true, recurses := true, apart := false }
def SessionRoomSaid : Prop := sessionRoomRow.holds Try.pinned (OpenSpec.ofChange sessionRoomSpec)

/-- ITS FALSE NEIGHBOUR: 'it returns false'. Refute it at one input. -/
def sessionRoomWrong : ChangeSpec := { name := "sessionRoom", fn := fun _ => fun
  | [d] => { results := [.lit (.bool false)], args := [d] }
  | _ => none }
def SessionRoomWrongFalsely : Prop := sessionRoomRow.holds Try.pinned (OpenSpec.ofChange sessionRoomWrong)

/-- 'crierlaw25.SessionZero': WHATEVER THE INPUT: true; the input reads as it did. -/
def sessionZeroSpec : ChangeSpec := { name := "sessionZero", fn := fun _ => fun
  | [d1, d2] => { results := [.lit (.bool true)], args := [d1, d2] }
  | _ => none }
def sessionZeroRow : OpenClaim := { program := "ytceiipcdkonnlaa", sum := "57cf7fd18ac301456a02b2c6140df82e5e4d77c878d8c5c6ee6e43e4c7b1707d", func := "crier/crierlaw25.SessionZero", spec := "sessionZero", unfollowed := true, recurses := true, apart := false }
def SessionZeroSaid : Prop := sessionZeroRow.holds Try.pinned (OpenSpec.ofChange sessionZeroSpec)

/-- ITS FALSE NEIGHBOUR: 'it returns false'. Refute it at one input. -/
def sessionZeroWrong : ChangeSpec := { name := "sessionZero", fn := fun _ => fun
  | [d1, d2] => { results := [.lit (.bool false)], args := [d1, d2] }
  | _ => none }
def SessionZeroWrongFalsely : Prop := sessionZeroRow.holds Try.pinned (OpenSpec.ofChange sessionZeroWrong)

/-- 'crierlaw27.RetainLast': WHATEVER THE INPUT: true; the input reads as it did. -/
def retainLastSpec : ChangeSpec := { name := "retainLast", fn := fun _ => fun
  | [d1, d2] => { results := [.lit (.bool true)], args := [d1, d2] }
  | _ => none }
def retainLastRow : OpenClaim := { program := "ytceiipcdkonnlaa", sum := "57cf7fd18ac301456a02b2c6140df82e5e4d77c878d8c5c6ee6e43e4c7b1707d", func := "crier/crierlaw27.RetainLast", spec := "retainLast", inPlace := ["internal/bytealg.CountString", "internal/bytealg.IndexByteString", "internal/bytealg.IndexString"], named := ["internal/bytealg.MaxLen"], apart := false }
def RetainLastSaid : Prop := retainLastRow.holds Try.pinned (OpenSpec.ofChange retainLastSpec)

/-- ITS FALSE NEIGHBOUR: 'it returns false'. Refute it at one input. -/
def retainLastWrong : ChangeSpec := { name := "retainLast", fn := fun _ => fun
  | [d1, d2] => { results := [.lit (.bool false)], args := [d1, d2] }
  | _ => none }
def RetainLastWrongFalsely : Prop := retainLastRow.holds Try.pinned (OpenSpec.ofChange retainLastWrong)

/-- 'crierlaw27.RetainRoom': WHATEVER THE INPUT: true; the input reads as it did. -/
def retainRoomSpec : ChangeSpec := { name := "retainRoom", fn := fun _ => fun
  | [d1, d2] => { results := [.lit (.bool true)], args := [d1, d2] }
  | _ => none }
def retainRoomRow : OpenClaim := { program := "ytceiipcdkonnlaa", sum := "57cf7fd18ac301456a02b2c6140df82e5e4d77c878d8c5c6ee6e43e4c7b1707d", func := "crier/crierlaw27.RetainRoom", spec := "retainRoom", inPlace := ["internal/bytealg.CountString", "internal/bytealg.IndexByteString", "internal/bytealg.IndexString"], named := ["internal/bytealg.MaxLen"], apart := false }
def RetainRoomSaid : Prop := retainRoomRow.holds Try.pinned (OpenSpec.ofChange retainRoomSpec)

/-- ITS FALSE NEIGHBOUR: 'it returns false'. Refute it at one input. -/
def retainRoomWrong : ChangeSpec := { name := "retainRoom", fn := fun _ => fun
  | [d1, d2] => { results := [.lit (.bool false)], args := [d1, d2] }
  | _ => none }
def RetainRoomWrongFalsely : Prop := retainRoomRow.holds Try.pinned (OpenSpec.ofChange retainRoomWrong)

/- THE SECOND FORM. 'bulk': how many values and letters a reading holds, each counted each time it is reached (what is shared counts as often as it is met; a slice's spare places count too). A statement '..UptoSaid' is the law's where the arguments, and the package variables that the reading takes, are together of bulk at most 1048576: NARROWER than '..Said'. Prove '..Said' where nothing that the law and all that it calls make is longer than what came in: it says more and counts as full. Else prove '..UptoSaid'. A law counts once. -/
mutual
def uptoBulk {H : Type} : DataW H → Nat
  | .lit (.string bytes) => bytes.length + 1
  | .lit _ => 1
  | .nil => 1
  | .ptr d => uptoBulk d + 1
  | .slice elems spare => uptoBulkAll elems + uptoBulkAll spare + 1
  | .agg parts => uptoBulkAll parts + 1
  | .iface _ d => uptoBulk d + 1
  | .map entries => uptoBulkEntries entries + 1
  | .held _ => 1
def uptoBulkAll {H : Type} : List (DataW H) → Nat
  | [] => 0
  | d :: r => uptoBulk d + uptoBulkAll r
def uptoBulkEntries {H : Type} : List (Lit × DataW H) → Nat
  | [] => 0
  | x :: r => uptoBulkEntry x + uptoBulkEntries r
def uptoBulkEntry {H : Type} : Lit × DataW H → Nat
  | (.string bytes, d) => bytes.length + uptoBulk d + 1
  | (_, d) => uptoBulk d + 1
 end
def uptoSmall : (H : Type) → List (DataW H) → Bool := fun _ ds => decide (uptoBulkAll ds ≤ 1048576)
def OpenSpec.upto (s : _root_.Go.ChangeSpec) : _root_.Go.OpenSpec := { _root_.Go.OpenSpec.ofChange s with cond := some uptoSmall }

/-- 'crierlaw25.SessionOnce', WHERE WHAT IT READS IS OF BULK AT MOST 1048576: true; the input reads as it did. -/
def sessionOnceUptoRow : OpenClaim := { program := "ytceiipcdkonnlaa", sum := "57cf7fd18ac301456a02b2c6140df82e5e4d77c878d8c5c6ee6e43e4c7b1707d", func := "crier/crierlaw25.SessionOnce", spec := "sessionOnce", unfollowed := true, recurses := true, apart := false, narrowed := true }
def SessionOnceUptoSaid : Prop := sessionOnceUptoRow.holds Try.pinned (OpenSpec.upto sessionOnceSpec)

/-- 'crierlaw25.SessionRoom', WHERE WHAT IT READS IS OF BULK AT MOST 1048576: true; the input reads as it did. -/
def sessionRoomUptoRow : OpenClaim := { program := "ytceiipcdkonnlaa", sum := "57cf7fd18ac301456a02b2c6140df82e5e4d77c878d8c5c6ee6e43e4c7b1707d", func := "crier/crierlaw25.SessionRoom", spec := "sessionRoom", unfollowed := true, recurses := true, apart := false, narrowed := true }
def SessionRoomUptoSaid : Prop := sessionRoomUptoRow.holds Try.pinned (OpenSpec.upto sessionRoomSpec)

/-- 'crierlaw25.SessionZero', WHERE WHAT IT READS IS OF BULK AT MOST 1048576: true; the input reads as it did. -/
def sessionZeroUptoRow : OpenClaim := { program := "ytceiipcdkonnlaa", sum := "57cf7fd18ac301456a02b2c6140df82e5e4d77c878d8c5c6ee6e43e4c7b1707d", func := "crier/crierlaw25.SessionZero", spec := "sessionZero", unfollowed := true, recurses := true, apart := false, narrowed := true }
def SessionZeroUptoSaid : Prop := sessionZeroUptoRow.holds Try.pinned (OpenSpec.upto sessionZeroSpec)

/-- 'crierlaw27.RetainLast', WHERE WHAT IT READS IS OF BULK AT MOST 1048576: true; the input reads as it did. -/
def retainLastUptoRow : OpenClaim := { program := "ytceiipcdkonnlaa", sum := "57cf7fd18ac301456a02b2c6140df82e5e4d77c878d8c5c6ee6e43e4c7b1707d", func := "crier/crierlaw27.RetainLast", spec := "retainLast", inPlace := ["internal/bytealg.CountString", "internal/bytealg.IndexByteString", "internal/bytealg.IndexString"], named := ["internal/bytealg.MaxLen"], apart := false, narrowed := true }
def RetainLastUptoSaid : Prop := retainLastUptoRow.holds Try.pinned (OpenSpec.upto retainLastSpec)

/-- 'crierlaw27.RetainRoom', WHERE WHAT IT READS IS OF BULK AT MOST 1048576: true; the input reads as it did. -/
def retainRoomUptoRow : OpenClaim := { program := "ytceiipcdkonnlaa", sum := "57cf7fd18ac301456a02b2c6140df82e5e4d77c878d8c5c6ee6e43e4c7b1707d", func := "crier/crierlaw27.RetainRoom", spec := "retainRoom", inPlace := ["internal/bytealg.CountString", "internal/bytealg.IndexByteString", "internal/bytealg.IndexString"], named := ["internal/bytealg.MaxLen"], apart := false, narrowed := true }
def RetainRoomUptoSaid : Prop := retainRoomUptoRow.holds Try.pinned (OpenSpec.upto retainRoomSpec)

end Rows
end Go.Proofs.Ytceiipcdkonnlaa
